/-
  Small laws for rows of bytes that a call itself makes: one byte appended; such a row as a string.
-/
import Derived.Test.YtjfgccjdkflfoaaChecked
import Derived.Test.YtjfgccjdkflfoaaBase
import Derived.Test.YtjfgccjdkflfoaaVi
import Derived.WalkKit
import Derived.WalkSpells
import Derived.WalkLawsBesides
import Derived.Laws.IdiomStrings
namespace Go.Proofs.Ytjfgccjdkflfoaa
open Go.RowKit
set_option linter.unusedVariables false

theorem Try.infoByte : (Try.prog.info? 5).map (fun i => (i.zero, i.size, i.bytes)) = some (some (.int .u8 0), 1, 1) := by kernel_rfl

theorem cells_snoc (l : List UInt8) (b : UInt8) : Vi.cells (l ++ [b]) = Vi.cells l ++ [.int .u8 b.toNat] := by simp [Vi.cells]

/-- 'append(out, c)', out the call's own bytes. -/
theorem wpList_append_byte {ops : Array Oper} {rest : List Oper} {o : Oper} {a : Act} {Q : Exit → Act → World → Prop} (hgd : o.guard = none) (s x : Operand)
    (ho : o.op = .call { callee := .builtin .append, args := #[s, x], argTypes := #[50, 50] })
    {B : Nat} {v : Value} {l : List UInt8} {wr : World} {c : Int} (b : UInt8) (hc : c = (b.toNat : Int))
    (hs : a.eval s = v) (hx : a.eval x = .slice (some ⟨wr.heap.size, 0, none⟩) 1 1)
    (hown : wr.ownsRow B 5 1 v l.length (Vi.cells l)) (hlen : l.length < 140737488355328) (hB : B ≤ wr.heap.size)
    (h : ∀ v' w', w'.ownsRow B 5 1 v' (l ++ [b]).length (Vi.cells (l ++ [b])) → Below B wr w' → wpList Try.prog ops Q rest (a.put o.dst v') w') :
    wpList Try.prog ops Q (o :: rest) a (wr.alloc (.cells #[.int .u8 c] 5)) := by
  obtain ⟨i0, hi, hz0, hz1, hz2⟩ := info_parts Try.infoByte
  refine wpList_append_own _ hgd s x 50 ho B 5 i0 (.int .u8 0) 1 1 Try.underlying50 hi hz0 hz1 hz2 rfl (by decide) v l.length (Vi.cells l) hs (hown.alloc _) ⟨wr.heap.size, 0, none⟩ 1 1 [.int .u8 c] hx rfl ?_ ?_ ?_ ?_ ?_ ?_
  · intro j u hj
    match j, hj with
    | 0, hj => simp at hj; subst hj; simp [Addr.add]
  · intro u hu; simp at hu; subst hu; rfl
  · unfold maxLen; omega
  · omega
  · simp; omega
  · intro v' w' hown' hgrow _
    refine h v' w' ?_ ?_
    · rw [cells_snoc, ← hc]
      simpa using hown'
    · refine ((Below.refl _ _).alloc hB _).grown hgrow (by simp; omega) ?_
      intro g hg
      rcases hown.2 with ⟨rfl, _⟩ | ⟨g', cap, cur, rfl, hb, _⟩
      · simp [Value.ownBlock] at hg
      · simp [Value.ownBlock] at hg; omega

/-- 'string(out)', out the call's own bytes. -/
theorem run_string_own {w : World} {B : Nat} {v : Value} {l : List UInt8} (hown : w.ownsRow B 5 1 v l.length (Vi.cells l)) :
    (convert 50 9 v).run Try.prog w = .ok (.string ⟨l.toArray⟩) w := by
  rcases hown.2 with ⟨rfl, h0⟩ | ⟨g, cap, cur, rfl, hb, hh, hn, hm, hcs, htake⟩
  · have : l = [] := List.eq_nil_of_length_eq_zero h0
    subst this
    rw [run_convert_bytes_string w 50 9 5 none 0 0 Try.underlying50 Try.underlying5 Try.underlying9]
    rfl
  · refine run_convert_bytes_back w 50 9 5 ⟨g, 0, none⟩ cap l Try.underlying50 Try.underlying5 Try.underlying9 ?_
    intro j hj
    refine hown.cells (g := g) rfl j _ ?_
    simp [Vi.cells, List.getElem?_eq_getElem hj]

/-- 'string(make([]byte, n))'. -/
theorem zeros_string {w : World} {B n : Nat} {v : Value} (hown : w.ownsRow B 5 1 v n (madeCells (Value.int .u8 0).cells (n * 1)).toList) :
    (convert 50 9 v).run Try.prog w = .ok (.string ⟨(List.replicate n (0 : UInt8)).toArray⟩) w := by
  have e : (madeCells (Value.int .u8 0).cells (n * 1)).toList = Vi.cells (List.replicate n 0) := by
    rw [Nat.mul_one, show (Value.int .u8 0).cells = #[.int .u8 0] from rfl, toList_madeCells_one]
    simp [Vi.cells]
  rw [e] at hown
  refine run_string_own (B := B) ?_
  rw [List.length_replicate]
  exact hown

end Go.Proofs.Ytjfgccjdkflfoaa
