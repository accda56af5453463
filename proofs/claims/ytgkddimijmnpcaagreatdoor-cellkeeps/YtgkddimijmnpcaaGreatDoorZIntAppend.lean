/-
  Small laws for rows of numbers that a call itself makes: one number appended; a row that comes as an argument, copied behind one of the call's own.
-/
import Derived.Test.YtgkddimijmnpcaaGreatDoorZIntRows
import Derived.WalkSpells
import Derived.WalkLawsBesides
import Derived.Deep.AppendLies
namespace Go.Proofs.YtgkddimijmnpcaaGreatDoor
open Go.RowKit
set_option linter.unusedVariables false

theorem below_grown {B : Nat} {w w' : World} {v : Value} {e : TypeId} {n : Nat} {xs : List Value} (hown : w.ownsRow B e 1 v n xs) (hB : B ≤ w.heap.size) (hgrow : w.grownBy w' v.ownBlock) : Below B w w' := by
  refine (Below.refl _ _).grown hgrow hB ?_
  intro g hg
  rcases hown.2 with ⟨rfl, _⟩ | ⟨g', cap, cur, rfl, hb, _⟩
  · simp [Value.ownBlock] at hg
  · simp [Value.ownBlock] at hg; omega

/-- 'append(out, c)', out the call's own numbers. -/
theorem wpList_append_int {ops : Array Oper} {rest : List Oper} {o : Oper} {a : Act} {Q : Exit → Act → World → Prop} (hgd : o.guard = none) (s x : Operand)
    (ho : o.op = .call { callee := .builtin .append, args := #[s, x], argTypes := #[28, 28] })
    {B : Nat} {v : Value} {l : List Int} {wr : World} (c : Int)
    (hs : a.eval s = v) (hx : a.eval x = .slice (some ⟨wr.heap.size, 0, none⟩) 1 1)
    (hown : wr.ownsRow B 3 1 v l.length (l.map (.int .i64))) (hlen : l.length < 17592186044416) (hB : B ≤ wr.heap.size)
    (h : ∀ v' w', w'.ownsRow B 3 1 v' (l ++ [c]).length ((l ++ [c]).map (.int .i64)) → Below B wr w' → wpList Tryz.prog ops Q rest (a.put o.dst v') w') :
    wpList Tryz.prog ops Q (o :: rest) a (wr.alloc (.cells #[.int .i64 c] 3)) := by
  obtain ⟨i0, hi, hz0, hz1, hz2⟩ := info_parts Tryz.infoInt
  refine wpList_append_own _ hgd s x 28 ho B 3 i0 (.int .i64 0) 1 8 Tryz.underlying28 hi hz0 hz1 hz2 rfl (by decide) v l.length (l.map (.int .i64)) hs (hown.alloc _) ⟨wr.heap.size, 0, none⟩ 1 1 [.int .i64 c] hx rfl ?_ ?_ ?_ ?_ ?_ ?_
  · intro j u hj
    match j, hj with
    | 0, hj => simp at hj; subst hj; simp [Addr.add]
  · intro u hu; simp at hu; subst hu; rfl
  · unfold maxLen; omega
  · omega
  · simp; omega
  · intro v' w' hown' hgrow _
    refine h v' w' ?_ ?_
    · simpa using hown'
    · exact ((Below.refl _ _).alloc hB _).trans (below_grown (hown.alloc _) (by simp; omega) hgrow)

/-- The same inside a region that draws its order. -/
theorem step_append_int {ops : Array Oper} {o : Oper} {a : Act} {K : Act → World → Prop} {Q : Exit → Act → World → Prop} {E : Prop} (hgd : o.guard = none) (s x : Operand)
    (ho : o.op = .call { callee := .builtin .append, args := #[s, x], argTypes := #[28, 28] })
    {B : Nat} {v : Value} {l : List Int} {wr : World} (c : Int)
    (hs : a.eval s = v) (hx : a.eval x = .slice (some ⟨wr.heap.size, 0, none⟩) 1 1)
    (hown : wr.ownsRow B 3 1 v l.length (l.map (.int .i64))) (hlen : l.length < 17592186044416) (hB : B ≤ wr.heap.size)
    (h : ∀ v' w', w'.ownsRow B 3 1 v' (l ++ [c]).length ((l ++ [c]).map (.int .i64)) → Below B wr w' → K (a.put o.dst v') w') :
    if Region.wanted o (yielded ops a.tmps) = true then Oper.wp Tryz.prog o a (wr.alloc (.cells #[.int .i64 c] 3)).drew K Q else E := by
  obtain ⟨i0, hi, hz0, hz1, hz2⟩ := info_parts Tryz.infoInt
  refine step_append_lies _ hgd s x 28 ho B 3 i0 (.int .i64 0) 1 8 Tryz.underlying28 hi hz0 hz1 hz2 rfl (by decide) v l.length (l.map (.int .i64)) hs (hown.alloc _).drew ⟨wr.heap.size, 0, none⟩ 1 1 [.int .i64 c] hx rfl ?_ ?_ (by omega) ?_ ?_ ?_ _ rfl ?_
  · intro j u hj
    match j, hj with
    | 0, hj => simp at hj; subst hj; simp [Addr.add]
  · intro u hu; simp at hu; subst hu; rfl
  · unfold maxLen; omega
  · omega
  · simp; omega
  · intro g cap w' hown' hgrow _ _
    refine h _ w' ?_ ?_
    · simpa using hown'
    · exact (((Below.refl _ _).alloc hB _).drew).trans (below_grown (hown.alloc _).drew (by simp; omega) hgrow)

theorem run_append_none (w : World) (ty : TypeId) (g n c cap : Nat) (hc : n ≤ c) : (Builtin.append_ #[28, 28] ty #[.slice (some ⟨g, 0, none⟩) n c, .slice none 0 cap]).run Tryz.prog w = .ok (.slice (some ⟨g, 0, none⟩) n c) w := by
  obtain ⟨i0, hi, hz0, hz1, hz2⟩ := info_parts Tryz.infoInt
  simp [Builtin.append_, run_underlying Tryz.underlying28, sizeOf, typeInfo, hi, Builtin.lenOf, Builtin.firstCells, loadCells, hc, storeCells]

/-- 'append(out, m...)', out the call's own numbers (a block, maybe empty). -/
theorem wpList_append_row {ops : Array Oper} {rest : List Oper} {o : Oper} {a : Act} {Q : Exit → Act → World → Prop} (hgd : o.guard = none) (s x : Operand)
    (ho : o.op = .call { callee := .builtin .append, args := #[s, x], argTypes := #[28, 28] })
    {B g n c : Nat} {l m : List Int} {ao : Option Addr} {cap : Nat} {wr : World} (hn : n = l.length)
    (hs : a.eval s = .slice (some ⟨g, 0, none⟩) n c) (hx : a.eval x = .slice ao m.length cap)
    (hown : wr.ownsRow B 3 1 (.slice (some ⟨g, 0, none⟩) n c) l.length (l.map (.int .i64))) (hrow : RowAt wr ao m) (hlen : l.length + m.length ≤ 17592186044416) (hB : B ≤ wr.heap.size)
    (h : ∀ g' c' w', w'.ownsRow B 3 1 (.slice (some ⟨g', 0, none⟩) (l ++ m).length c') (l ++ m).length ((l ++ m).map (.int .i64)) → Below B wr w' → wpList Tryz.prog ops Q rest (a.put o.dst (.slice (some ⟨g', 0, none⟩) (l ++ m).length c')) w') :
    wpList Tryz.prog ops Q (o :: rest) a wr := by
  subst hn
  obtain ⟨i0, hi, hz0, hz1, hz2⟩ := info_parts Tryz.infoInt
  cases ao with
  | none =>
    have hm : m = [] := by
      cases m with
      | nil => rfl
      | cons y ys =>
        obtain ⟨b, off, hbo, _⟩ := hrow (by simp)
        simp at hbo
    subst hm
    have h' := h g c wr (by simpa using hown) (Below.refl _ _)
    simp only [List.append_nil] at h'
    refine wpList_plain hgd fun K hK => ?_
    unfold Oper.wp execOp
    have hlc : l.length ≤ c := by
      rcases hown.2 with ⟨e, _⟩ | ⟨g1, c1, cur, e, _, _, hn, _⟩
      · simp at e
      · simp only [Value.slice.injEq] at e; omega
    have hr := run_append_none wr o.type g l.length c cap hlc
    simp only [List.length_nil] at hx
    simp only [ho, resolve, invoke, builtin, Sem.run_bind, Sem.run_pure, Result.andThen_ok, List.map_toArray, List.map_cons, List.map_nil, hs, hx, hr]
    exact hK _ _ h'
  | some ad =>
    refine wpList_append_own _ hgd s x 28 ho B 3 i0 (.int .i64 0) 1 8 Tryz.underlying28 hi hz0 hz1 hz2 rfl (by decide) _ l.length (l.map (.int .i64)) hs hown ad m.length cap (m.map (.int .i64)) hx (by simp) ?_ ?_ ?_ ?_ hB ?_
    · intro j u hj
      have hjl : j < m.length := by
        have := (List.getElem?_eq_some_iff.1 hj).1
        simpa using this
      obtain ⟨b, off, e, _, hc⟩ := hrow (by omega)
      simp only [Option.some.injEq] at e
      subst e
      have hcj := hc j hjl
      rw [cells_at m j hjl] at hj
      simp only [Option.some.injEq] at hj
      subst hj
      rw [← hcj]
      rcases j with _ | j
      · simp [Addr.add]
      · simp [Addr.add]
    · intro u hu
      simp only [List.mem_map] at hu
      obtain ⟨z, _, rfl⟩ := hu
      rfl
    · unfold maxLen; omega
    · omega
    · intro v' w' hown' hgrow hni
      have hown2 : w'.ownsRow B 3 1 v' (l ++ m).length ((l ++ m).map (.int .i64)) := by simpa using hown'
      rcases hown2.2 with ⟨rfl, h0⟩ | ⟨g', cap', cur, rfl, _⟩
      · simp at hni
      · exact h g' cap' w' hown2 (below_grown hown hB hgrow)

end Go.Proofs.YtgkddimijmnpcaaGreatDoor

