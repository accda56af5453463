/-
  An operation that comes as an argument: what its fourteen cells hold, where its rows lie, what memory bears of it.
-/
import Derived.Test.YtgkddimijmnpcaaGreatDoorZPack2
import Derived.Test.YtgkddimijmnpcaaGreatDoorZMay11
namespace Go.Proofs.YtgkddimijmnpcaaGreatDoor
open Go.ChangeShapes Go.WideShapes Go.ChangeAt Go.RowKit
set_option linter.unusedVariables false
set_option linter.unusedSimpArgs false

section
variable {H : Type} {enc : TypeId × Value → H} {w : World}

theorem dec_dot2 (fuel : Nat) (cs : List Value) (x : DataW H × List MemPlace) (h : DataW.trod enc Tryz.prog w 0 (fun _ => true) true fuel 32 cs = some x) (hl : cs.length = 2) : ∃ a : D2, cs = d2 a ∧ ∀ k ∈ ([] : List Nat), k ∈ x.1.weights Tryz.prog 32 := by
  match cs, hl with
  | [a, b], _ =>
    obtain ⟨y, z, rfl, rfl, _, _⟩ := dec_two Tryz.underlying32 rfl rfl rfl rfl h
    exact ⟨(y, z), rfl, fun k hk => by simp at hk⟩

set_option maxRecDepth 100000 in
/-- An operation that comes as an argument. -/
theorem open_op {base : Nat} {v : Value} {d : DataW H} {p : List MemPlace} (ok : Value.okWide Tryz.prog w .any base 35 v) (h : DataW.Trod enc Tryz.prog w 0 (fun _ => true) true 35 v d p) (hw : ∀ n, n ∈ d.weights Tryz.prog 35 → n ≤ reachBytes) :
    ∃ (o : O14) (q : Pq), v = oV o q ∧ ORow w o q ∧ Siz o := by
  have c0 : Tryz.prog.cellsOf 35 = 14 := by kernel_rfl
  have c1 : Tryz.prog.cellsOf 32 = 2 := by kernel_rfl
  have c2 : Tryz.prog.cellsOf 25 = 2 := by kernel_rfl
  have c3 : Tryz.prog.cellsOf 3 = 1 := by kernel_rfl
  have c5 : Tryz.prog.cellsOf 9 = 1 := by kernel_rfl
  have c6 : Tryz.prog.cellsOf 33 = 1 := by kernel_rfl
  have c8 : Tryz.prog.cellsOf 28 = 1 := by kernel_rfl
  obtain ⟨cs, rfl, hcs⟩ := okWide_struct Tryz.underlying35 ok
  rw [c0] at hcs
  obtain ⟨fuel, hf⟩ := h
  obtain ⟨xs, n, _, hx, _, hxl, hg⟩ := DataW.trod_struct Tryz.underlying35 hf
  obtain ⟨l⟩ := cs
  match l, hcs, xs, hxl with
  | [a0, a1, a2, a3, a4, a5, a6, a7, a8, a9, a10, a11, a12, a13], _, [y0, y1, y2, y3, y4, y5, y6, y7, y8, y9, y10], _ =>
    have g0 := hg 0 _ rfl
    have g1 := hg 1 _ rfl
    have g2 := hg 2 _ rfl
    have g3 := hg 3 _ rfl
    have g4 := hg 4 _ rfl
    have g5 := hg 5 _ rfl
    have g6 := hg 6 _ rfl
    have g7 := hg 7 _ rfl
    have g8 := hg 8 _ rfl
    have g9 := hg 9 _ rfl
    have g10 := hg 10 _ rfl
    simp [Value.cells, c1, c2, c3, c5, c6, c8] at g0 g1 g2 g3 g4 g5 g6 g7 g8 g9 g10
    obtain ⟨dn, ds, rfl, rfl, _, _⟩ := dec_two Tryz.underlying32 rfl rfl rfl rfl g0
    obtain ⟨time, ht, _, _⟩ := DataW.trod_int Tryz.underlying3 g1
    obtain ⟨kind, hk, _, _⟩ := DataW.trod_int Tryz.underlying3 g3
    obtain ⟨s4, hs4, hy4, _⟩ := DataW.trod_string Tryz.underlying9 g4
    obtain ⟨s5, hs5, hy5, _⟩ := DataW.trod_string Tryz.underlying9 g5
    obtain ⟨s6, hs6, hy6, _⟩ := DataW.trod_string Tryz.underlying9 g6
    obtain ⟨s7, hs7, hy7, _⟩ := DataW.trod_string Tryz.underlying9 g7
    obtain ⟨re, im, rfl, rfl, _, _⟩ := dec_two Tryz.underlying25 rfl rfl rfl rfl g8
    obtain ⟨rn, rs, rfl, rfl, _, _⟩ := dec_two Tryz.underlying32 rfl rfl rfl rfl g9
    obtain ⟨d2', p2⟩ := y2
    obtain ⟨d10, p10⟩ := y10
    obtain ⟨is, so, sc, rfl, re7, k7⟩ := rows_trod (0 : Int) (fun a => [.int .i64 a]) 1 8 (fun _ => rfl) (fun _ => []) Tryz.underlying28 (by kernel_rfl) (by decide) (by kernel_rfl) dec_int g2
    obtain ⟨es, eo, ec, rfl, re5, k5⟩ := rows_trod ((0, 0) : D2) d2 2 16 (fun _ => rfl) (fun _ => []) Tryz.underlying33 (by kernel_rfl) (by decide) (by kernel_rfl) dec_dot2 g10
    simp only [List.cons.injEq, and_true] at ht hk hs4 hs5 hs6 hs7
    subst ht hk hs4 hs5 hs6 hs7
    simp only [Prod.mk.injEq] at hx
    have hall : ∀ (j : Nat) (tt : TypeId) (dd : DataW H), ([32, 3, 28, 3, 9, 9, 9, 9, 25, 32, 33] : List TypeId)[j]? = some tt → ([y0.1, y1.1, d2', y3.1, y4.1, y5.1, y6.1, y7.1, y8.1, y9.1, d10] : List (DataW H))[j]? = some dd → ∀ k ∈ dd.weights Tryz.prog tt, k ≤ 140737488351232 := fun j tt dd hj hd k hk => by
      have h1 := hw k (by
        rw [hx.1]
        simp only [DataW.weights, Tryz.underlying35]
        exact DataW.weights_mem_each hj hd k hk)
      unfold reachBytes at h1
      omega
    have kk7 := k7 140737488351232 (hall 2 _ _ rfl rfl)
    have kk5 := k5 140737488351232 (hall 10 _ _ rfl rfl)
    refine ⟨⟨dn, ds, time, is, kind, s4, s5, s6, s7, re, im, rn, rs, es⟩, ⟨so, sc, eo, ec⟩, rfl, ⟨?_, re5⟩, ⟨kk7.1, kk5.1, ?_, ?_, ?_, ?_⟩⟩
    · show FRow w so (flatI is)
      rw [flatI_flat]; exact re7
    · exact hall 4 _ _ rfl rfl s4.size (by rw [hy4]; simp [DataW.weights])
    · exact hall 5 _ _ rfl rfl s5.size (by rw [hy5]; simp [DataW.weights])
    · exact hall 6 _ _ rfl rfl s6.size (by rw [hy6]; simp [DataW.weights])
    · exact hall 7 _ _ rfl rfl s7.size (by rw [hy7]; simp [DataW.weights])

end

end Go.Proofs.YtgkddimijmnpcaaGreatDoor

