/-
  Package vec, by contracts: the greater and the lesser (Max, Min, made and the two function literals).
-/
import Derived.Test.YtdaakacjgkafcaaVecMade
import Derived.OwnWalk
namespace Go.Proofs.Ytdaakacjgkafcaa
open Go.RowKit
set_option linter.unusedVariables false

theorem ret_int {a b : Int} (h : a = b) : Ending.returned (.int .i64 a) = .returned (.int .i64 b) := by rw [h]

set_option maxHeartbeats 400000 in
set_option maxRecDepth 100000 in
theorem max1_any (ao bo : Option Addr) (ca cb : Nat) (a b : List Int) (B i : Nat) (w : World) (ha : RowAt w ao a) (hb : RowAt w bo b) (hi : i < a.length) (hj : i < b.length)
    (c0 : w.cell? ⟨B, 0, none⟩ = some (.slice ao a.length ca)) (c1 : w.cell? ⟨B + 1, 0, none⟩ = some (.slice bo b.length cb)) :
    Calls Try.prog 29 #[.int .i64 (i : Int), .pointer (some ⟨B, 0, none⟩), .pointer (some ⟨B + 1, 0, none⟩)] w fun e w' => e = .returned (.int .i64 (max (a.getD i 0) (b.getD i 0))) ∧ Below w.heap.size w w' := by
  obtain ⟨bk, off, rfl, hc⟩ := row_cell ha hi
  obtain ⟨bk2, off2, rfl, hc2⟩ := row_cell hb hj
  clear ha hb
  generalize a.getD i 0 = x at *
  generalize b.getD i 0 = y at *
  go_enter Try.func29, Try.ntmps29
  go_wp2
  go_region
  all_goals (try go_wp2)
  all_goals go_ret
  all_goals (refine ⟨?_, (Below.refl _ _).drew⟩; first | exact ret_int (a := x) (by omega) | exact ret_int (a := y) (by omega))

theorem zeros_at (n j : Nat) (h : j < n) : ((madeCells (Value.int .i64 0).cells (n * 1)).toList)[j]? = some (.int .i64 0) := by
  rw [Nat.mul_one, show (Value.int .i64 0).cells = #[.int .i64 0] from rfl, toList_madeCells_one]
  simp [h]

set_option maxHeartbeats 800000 in
set_option maxRecDepth 100000 in
theorem made_max_any (p q : Value) (ao bo : Option Addr) (ca cb : Nat) (a b : List Int) (w : World) (ha : RowAt w ao a) (hb : RowAt w bo b)
    (hf : Ve.Alike a b → ∀ i, i < a.length → ∀ w', Below w.heap.size w w' → Calls Try.prog 29 #[.int .i64 (i : Int), p, q] w' fun e w'' => e = .returned (.int .i64 (max (a.getD i 0) (b.getD i 0))) ∧ Below w'.heap.size w' w'')
    {l : List Int} {n : Int} (h : Ve.Made max a b l n) :
    Calls Try.prog 28 #[.slice ao a.length ca, .slice bo b.length cb, .func (.func 29) #[] #[p, q]] w fun e w' => ∃ ro rc, e = .returned (.tuple #[.slice ro l.length rc, .int .i64 n]) ∧ OwnAt w.heap.size w' ro l ∧ Below w.heap.size w w' := by
  obtain ⟨i0, hi0, hz0, hz1, hz2⟩ := info_parts Try.infoInt
  obtain ⟨x, hx⟩ := Ve.bool_of (Ve.Alike a b)
  have P1 := alike_any ao bo ca cb a b w ha hb hx
  have HF : Hid (Ve.Alike a b → ∀ i, i < a.length → ∀ w', Below w.heap.size w w' → Calls Try.prog 29 #[.int .i64 (i : Int), p, q] w' fun e w'' => e = .returned (.int .i64 (max (a.getD i 0) (b.getD i 0))) ∧ Below w'.heap.size w' w'') := hf
  have HX : Hid (x = true ↔ Ve.Alike a b) := hx
  clear hf hx ha hb
  rcases h with ⟨hA, rfl, rfl⟩ | ⟨hA, rfl, rfl⟩
  · have hxt : x = true := HX.out.2 hA
    subst hxt
    have HA : Hid (Ve.Alike a b) := hA
    have h16 : a.length ≤ 16 := by have := hA.1.2.1; omega
    clear hA
    go_enter Try.func28, Try.ntmps28
    go_wp2_with fail
    refine P1.mono ?_
    rintro e w1 ⟨rfl, rfl⟩
    clear P1
    go_wp2_with (at_make; (refine wpList_make_full _ rfl _ _ 32 rfl w1.heap.size 3 i0 (.int .i64 0) 1 Try.underlying32 hi0 hz0 hz1 .i64 .i64 (a.length : Int) (a.length : Int) a.length rfl rfl rfl rfl ?c3 ?c4 (Nat.le_refl _) ?_; (case c3 => rw [hz2]; omega); (case c4 => unfold maxLen; omega); intro w4 hown hgrow))
    have hb4 : Below w1.heap.size w1 w4 := (Below.refl _ _).grown hgrow (Nat.le_refl _) (by simp)
    have hs4 : w1.heap.size < w4.heap.size := (hown.lt w1.heap.size rfl).2
    have z4 : ∀ j, j < a.length → w4.cell? ⟨w1.heap.size, j, none⟩ = some (.int .i64 0) := fun j hj => (hown.cellAt j (by omega)).trans (zeros_at _ _ hj)
    have f4 : ∀ j, w4.frozen? ⟨w1.heap.size, j, none⟩ = false := fun j => hown.frozenAt j
    clear hown hgrow
    go_loopg [19] a.length (fun n iv wr => ∃ i : Nat, i + n = a.length ∧ iv = .int .i64 i ∧ Below w1.heap.size w1 wr ∧ w1.heap.size < wr.heap.size ∧ (∀ j, j < i → wr.cell? ⟨w1.heap.size, j, none⟩ = some (.int .i64 (max (a.getD j 0) (b.getD j 0)))) ∧ (∀ j, i ≤ j → j < a.length → wr.cell? ⟨w1.heap.size, j, none⟩ = some (.int .i64 0)) ∧ ∀ j, wr.frozen? ⟨w1.heap.size, j, none⟩ = false)
    case atStart => exact ⟨0, by omega, rfl, hb4, hs4, fun j hj => by omega, fun j _ hj => z4 j hj, f4⟩
    case round =>
      clear z4 f4 hb4 hs4
      obtain ⟨i, hin, rfl, hbel, hsz, hd, hz, hfr⟩ := hrel
      by_cases hi : i < a.length
      · have C := HF.out HA.out i hi wr hbel
        obtain ⟨r, hr⟩ : ∃ r, r = max (a.getD i 0) (b.getD i 0) := ⟨_, rfl⟩
        rw [← hr] at C
        have HR : Hid (r = max (a.getD i 0) (b.getD i 0)) := hr
        clear hr
        have HD : Hid ((∀ j, j < i → wr.cell? ⟨w1.heap.size, j, none⟩ = some (.int .i64 (max (a.getD j 0) (b.getD j 0)))) ∧ (∀ j, i ≤ j → j < a.length → wr.cell? ⟨w1.heap.size, j, none⟩ = some (.int .i64 0)) ∧ ∀ j, wr.frozen? ⟨w1.heap.size, j, none⟩ = false) := ⟨hd, hz, hfr⟩
        clear hd hz hfr
        go_wp2_with (go_at_call 29; refine C.mono ?_; rintro e w2 ⟨rfl, h2⟩; have kc : w2.cell? ⟨w1.heap.size, i, none⟩ = some (.int .i64 0) := (h2.cell (by exact hsz)).trans (HD.out.2.1 i (Nat.le_refl _) hi); have kf : w2.frozen? ⟨w1.heap.size, i, none⟩ = false := (h2.frozen (by exact hsz)).trans (HD.out.2.2 i); have BB : Hid (Below w1.heap.size w1 w2) := hbel.trans (h2.mono hbel.size))
        go_roundg (gk - 1)
        case measure => omega
        case rel =>
          refine ⟨i + 1, by omega, by go_num, BB.out.setCell (p := ⟨w1.heap.size, i, none⟩) (Nat.le_refl _) _, ?_, fun j hj => ?_, fun j hj hj2 => ?_, fun j => ?_⟩
          · simp; exact Nat.lt_of_lt_of_le hsz h2.size
          · by_cases e : j = i
            · subst e; rw [← HR.out]; exact World.cell?_setCell_same _ _ _ kc
            · rw [World.cell?_setCell_other _ _ _ _ (by first | (simp; done) | (simp; omega))]
              exact (h2.cell (by exact hsz)).trans (HD.out.1 j (by omega))
          · rw [World.cell?_setCell_other _ _ _ _ (by first | (simp; done) | (simp; omega))]
            exact (h2.cell (by exact hsz)).trans (HD.out.2.1 j (by omega) hj2)
          · rw [World.frozen?_setCell]
            exact (h2.frozen (by exact hsz)).trans (HD.out.2.2 j)
      · have HD : Hid ((∀ j, j < i → wr.cell? ⟨w1.heap.size, j, none⟩ = some (.int .i64 (max (a.getD j 0) (b.getD j 0)))) ∧ ∀ j, wr.frozen? ⟨w1.heap.size, j, none⟩ = false) := ⟨hd, hfr⟩
        clear hd hz hfr
        have hdd : decide ((i : Int) < (a.length : Int)) = false := by simp; omega
        go_wp2
        go_ret2
        refine ⟨some ⟨w1.heap.size, 0, none⟩, a.length, by rw [Ve.mk_length]; rfl, fun h0 => ⟨w1.heap.size, 0, rfl, Nat.le_refl _, hsz, fun j hj => ?_⟩, hbel⟩
        rw [Ve.mk_length] at hj
        rw [Nat.zero_add, Ve.mk_at _ _ _ hj]
        exact ⟨HD.out.1 j (by omega), HD.out.2 j⟩
  · have hxf : x = false := by
      cases x with
      | false => rfl
      | true => exact absurd (HX.out.1 rfl) hA
    subst hxf
    go_enter Try.func28, Try.ntmps28
    go_wp2_with fail
    refine P1.mono ?_
    rintro e w1 ⟨rfl, rfl⟩
    go_wp2
    go_ret2
    exact ⟨none, 0, rfl, OwnAt.nil _ _ _, Below.refl _ _⟩
set_option maxHeartbeats 400000 in
set_option maxRecDepth 100000 in
theorem max_any (ao bo : Option Addr) (ca cb : Nat) (a b : List Int) (w : World) (ha : RowAt w ao a) (hb : RowAt w bo b) {l : List Int} {n : Int} (h : Ve.Made max a b l n) :
    Calls Try.prog 24 #[.slice ao a.length ca, .slice bo b.length cb] w fun e w' => ∃ ro rc, e = .returned (.tuple #[.slice ro l.length rc, .int .i64 n]) ∧ OwnAt w.heap.size w' ro l ∧ Below w.heap.size w w' := by
  have hmf : ∀ (fn : Fn) (first cap : Array Value) (w : World), (Instr.makeFunc fn first cap).run Try.prog w = .ok (.func fn first cap) w := fun _ _ _ _ => rfl
  obtain ⟨w1, hw1⟩ : ∃ w1, w1 = (w.alloc (.cells #[.slice ao a.length ca] 32)).alloc (.cells #[.slice bo b.length cb] 32) := ⟨_, rfl⟩
  have hb1 : Below w.heap.size w w1 := by rw [hw1]; exact ((Below.refl _ _).alloc (Nat.le_refl _) _).alloc (by simp) _
  have hs1 : w1.heap.size = w.heap.size + 2 := by rw [hw1]; simp
  have c0 : w1.cell? ⟨w.heap.size, 0, none⟩ = some (.slice ao a.length ca) := by
    rw [hw1, World.cell?_alloc_past _ _ _ (by simp), World.cell?_alloc_at _ _ _ _ rfl]; rfl
  have c1 : w1.cell? ⟨w.heap.size + 1, 0, none⟩ = some (.slice bo b.length cb) := by
    rw [hw1, World.cell?_alloc_at _ _ _ _ (by simp)]; rfl
  have K := made_max_any (.pointer (some ⟨w.heap.size, 0, none⟩)) (.pointer (some ⟨w.heap.size + 1, 0, none⟩)) ao bo ca cb a b w1 (ha.later hb1) (hb.later hb1)
    (fun hA i hi w' hw' => by
      have hl := Ve.alike_length hA
      exact max1_any ao bo ca cb a b w.heap.size i w' ((ha.later hb1).later hw') ((hb.later hb1).later hw') hi (by omega)
        ((hw'.cell (by simp; omega)).trans c0) ((hw'.cell (by simp; omega)).trans c1)) h
  clear c0 c1
  go_enter Try.func24, Try.ntmps24
  go_wp2_with fail
  rw [← hw1]
  refine K.mono ?_
  rintro e w2 ⟨ro, rc, rfl, hown, hbel⟩
  go_wp2
  go_ret2
  exact ⟨ro, rc, rfl, hown.mono (by omega), hb1.trans (hbel.mono (by omega))⟩

end Go.Proofs.Ytdaakacjgkafcaa
