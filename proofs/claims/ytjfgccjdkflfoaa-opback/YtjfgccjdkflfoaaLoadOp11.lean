/-
  An operation is read out of its block in one step.
-/
import Derived.Test.YtjfgccjdkflfoaaReadS11
import Derived.Deep.MidRow
import Derived.BigFrame
import Derived.BigQuiet
namespace Go.Proofs.Ytjfgccjdkflfoaa
open Go.RowKit
set_option linter.unusedVariables false
set_option linter.unusedSimpArgs false

theorem Try.infoOp : (Try.prog.info? 29).map (·.size) = some 14 := by kernel_rfl
/-- Read in one step. -/
abbrev Ld (W : World) (g : Nat) (v : Value) : Prop := (Instr.loadAt 29 (.pointer (some ⟨g, 0, none⟩))).run Try.prog W = .ok v W
theorem ld_op {W : World} {g : Nat} {o : O14} {q : Pq} (h : Has W g (oL o q)) : Ld W g (oV o q) :=
  run_loadAt_mid W g 0 29 (oL o q) _ (fun j v hv => by rw [Nat.zero_add]; exact h.at j hv) Try.underlying29 rfl Try.infoOp
theorem ld_any {B : Nat} {W : World} {g : Nat} {o : O14} {q : Pq} (h : Has W g (oL o q)) (hg : g < B) (r : MW B W) : Ld r.w g (oV o q) := ld_op (h.under hg r.h.1)

theorem exec_ld {op : Oper} {a : Act} {W : World} {x : Operand} {g : Nat} {v : Value} (hl : Ld W g v) (ho : op.op = .load 29 x) (hx : a.eval x = .pointer (some ⟨g, 0, none⟩)) : (execOp a.eval op).run Try.prog W = .ok (.value v) W := by
  unfold execOp
  simp only [ho, hx, Sem.run_bind, Sem.run_pure, Result.andThen_ok, hl]
/-- At a list of operations. -/
theorem wpList_ld {ops : Array Oper} {rest : List Oper} {op : Oper} {a : Act} {W : World} {Q : Exit → Act → World → Prop} {x : Operand} {g : Nat} {v : Value} (hl : Ld W g v) (hw : Region.wanted op (yielded ops a.tmps) = true) (ho : op.op = .load 29 x) (hx : a.eval x = .pointer (some ⟨g, 0, none⟩))
    (h : wpList Try.prog ops Q rest (a.put op.dst v) W) : wpList Try.prog ops Q (op :: rest) a W :=
  BigFrame.wpList_want hw fun K hK => by
    unfold Oper.wp
    rw [exec_ld hl ho hx]
    exact hK _ _ h
/-- In a region that draws its order. -/
theorem wpQuiet_ld {ops : Array Oper} {rest : List Oper} {op : Oper} {a : Act} {C : World → Prop} {Q : Act → Prop} {x : Operand} {g : Nat} {v : Value} (hl : ∀ w, C w → Ld w g v) (hw : Region.wanted op (yielded ops a.tmps) = true) (ho : op.op = .load 29 x) (hx : a.eval x = .pointer (some ⟨g, 0, none⟩))
    (h : wpQuiet Try.prog ops C Q rest (a.put op.dst v)) : wpQuiet Try.prog ops C Q (op :: rest) a :=
  BigFrame.wpQuiet_want hw fun K hK => ⟨v, fun w hC => by
    unfold Oper.quietAt
    rw [exec_ld (hl w hC) ho hx]
    exact ⟨rfl, rfl⟩, hK _ h⟩
/-- .. of the worlds that stand above one. -/
theorem ld_mild {B : Nat} {W : World} {g : Nat} {o : O14} {q : Pq} (h : Has W g (oL o q)) (hg : g < B) : ∀ w, (∃ r : MW B W, w = r.w) → Ld w g (oV o q) := fun w ⟨r, e⟩ => e ▸ ld_any h hg r

end Go.Proofs.Ytjfgccjdkflfoaa
