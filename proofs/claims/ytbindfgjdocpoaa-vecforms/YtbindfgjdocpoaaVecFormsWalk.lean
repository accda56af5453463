/-
  The walk of the law VecForms: vectors that are none.
-/
import Derived.Test.YtbindfgjdocpoaaAwake4
import Derived.Test.YtbindfgjdocpoaaMasks
import Derived.Test.YtbindfgjdocpoaaMadeInts
namespace Go.Proofs.Ytbindfgjdocpoaa.VecForms
open Go.RowKit
set_option linter.unusedVariables false

theorem zeros_may (k : Nat) (h1 : 1 ≤ k) (h2 : k ≤ 16) : true = true ↔ Ve.May (List.replicate k 0) (k : Int) := by
  simp only [true_iff]
  refine ⟨by omega, by omega, by simp, fun i hi => ?_⟩
  simp only [List.length_replicate] at hi
  simp [List.getD, hi]

theorem bad_may {l : List Int} {j : Nat} (hj : j < l.length) (h : ¬ (0 ≤ l.getD j 0 ∧ l.getD j 0 ≤ 1048575)) (n : Int) : ¬ Ve.May l n := fun hm => h (hm.2.2.2 j hj)

theorem no_iff {P : Prop} (h : ¬ P) : false = true ↔ P := by simp [h]

theorem made_no {f : Int → Int → Int} {a b : List Int} (h : ¬ Ve.Alike a b) : Ve.Made f a b [] 400 := Or.inr ⟨h, rfl, rfl⟩

theorem set_bad {l : List Int} {j : Nat} (hj : j < l.length) {v : Int} (h : ¬ (0 ≤ v ∧ v ≤ 1048575)) (n : Int) : ¬ Ve.May (l.set j v) n := by
  refine bad_may (j := j) (by simpa using hj) ?_ n
  simpa [List.getD, hj] using h

set_option maxHeartbeats 4000000 in
set_option maxRecDepth 100000 in
theorem core (ao : Option Addr) (ca : Nat) (a : List Int) (p x : Int) (w : World) (hla : a.length ≤ maxLen) :
    Calls Try.prog 6 #[.slice ao a.length ca, .int .i64 p, .int .i64 x] w fun e w' => e = .returned (.bool true) ∧ Below w.heap.size w w' := by
  unfold maxLen at hla
  obtain ⟨m, hm⟩ : ∃ m : Nat, (if (1 : Int) < (a.length : Int) then (a.length : Int) else 1) = (m : Int) := ⟨max 1 a.length, by split <;> omega⟩
  obtain ⟨k, hk⟩ : ∃ k : Nat, (if (16 : Int) < (m : Int) then 16 else (m : Int)) = (k : Int) := ⟨min m 16, by split <;> omega⟩
  have hk1 : 1 ≤ k := by split at hk <;> split at hm <;> omega
  have hk2 : k ≤ 16 := by split at hk <;> split at hm <;> omega
  obtain ⟨z, hz, ez⟩ : ∃ z : Nat, z < 1024 ∧ bits .and .i64 x 1023 = (z : Int) := and_mask x 10 (by omega)
  obtain ⟨d, hd⟩ : ∃ d : Nat, 1 + (z : Int) = (d : Int) := ⟨1 + z, by omega⟩
  obtain ⟨q, hq⟩ : ∃ q : Nat, 16 + (d : Int) = (q : Int) := ⟨16 + d, by omega⟩
  obtain ⟨f, hf⟩ : ∃ f : Nat, (k : Int) + 1 = (f : Int) := ⟨k + 1, by omega⟩
  have hd1 : 1 ≤ d := by omega
  have hd2 : d ≤ 1024 := by omega
  have hq1 : 17 ≤ q := by omega
  have hq2 : q ≤ 1040 := by omega
  have hfk : f = k + 1 := by omega
  have HF : Hid (f = k + 1) := hfk
  have hf2 : f ≤ 17 := by omega
  clear hfk
  obtain ⟨j, hj, ej⟩ := mod_any p k (by omega) (by omega)
  have RK := fun w => run_made k w (by omega)
  have RF := fun w => run_made f w (by omega)
  have RQ := fun w => run_made q w (by omega)
  have ZK : (List.replicate k (0 : Int)).length = k := by simp
  have HZ : Hid ((List.replicate k (0 : Int)).length = k ∧ (List.replicate f (0 : Int)).length = f ∧ (List.replicate q (0 : Int)).length = q ∧ ((List.replicate k (0 : Int)).set j (-(d : Int))).length = k ∧ (((List.replicate k (0 : Int)).set j (-(d : Int))).set j (1048575 + (d : Int))).length = k) := by
    refine ⟨by simp, by simp, by simp, by simp, by simp⟩
  have HB1 : Hid (∀ n, ¬ Ve.May ((List.replicate k (0 : Int)).set j (-(d : Int))) n) := fun n => set_bad (by simpa using hj) (by omega) n
  have HB2 : Hid (∀ n, ¬ Ve.May (((List.replicate k (0 : Int)).set j (-(d : Int))).set j (1048575 + (d : Int))) n) := fun n => set_bad (by simpa using hj) (by omega) n
  clear ZK
  go_enter Try.func6, Try.ntmps6
  go_wp2_with fail
  refine (awake_any _).mono ?_
  rintro e w1 ⟨rfl, h1⟩
  obtain ⟨g, hg⟩ : ∃ g, w1.heap.size = g := ⟨_, rfl⟩
  have O1 := own_made k w1
  have B1 := thenB h1 (below_made k w1)
  rw [hg] at O1
  have HG : Hid (w.heap.size ≤ g) := by rw [← hg]; exact h1.size
  go_wp2_with fail
  refine (may_n HZ.out.1 O1.row (zeros_may k hk1 hk2)).mono ?_
  rintro e w2 ⟨rfl, h2⟩
  have O2 := O1.later h2
  have B2 := thenB B1 h2
  clear O1 B1 h1 h2 hg
  go_wp2_with fail
  refine (max_n HZ.out.1 HZ.out.2.1 (O2.row.later (below_made f w2)) (own_made f w2).row (made_no (fun h => by have e := Ve.alike_length h; rw [HZ.out.1, HZ.out.2.1] at e; omega))).mono ?_
  rintro e w3 ⟨ro3, rc3, rfl, _, h3⟩
  have O3 := (O2.later (below_made f w2)).later h3
  have B3 := thenB (thenB B2 (below_made f w2)) h3
  clear O2 B2 h3 RF
  have HN : Hid (¬ Ve.Alike (List.replicate q (0 : Int)) (List.replicate q 0)) := fun h => by have e := h.1.2.1; rw [HZ.out.2.2.1] at e; omega
  have hqw : IntKind.i64.wrap (q : Int) = (q : Int) := wrap_nat q (by omega)
  go_wp2_with fail
  go_region_with (first
    | (go_at_call 11; refine (min_n HZ.out.2.2.1 HZ.out.2.2.1 (by first | exact (own_made q (madeW q w3.drew)).row | exact (own_made q w3.drew).row.later (below_made q (madeW q w3.drew))) (by first | exact (own_made q (madeW q w3.drew)).row | exact (own_made q w3.drew).row.later (below_made q (madeW q w3.drew))) (made_no HN.out)).mono ?_; rintro e w4 ⟨ro4, rc4, rfl, _, h4⟩))
  all_goals
    (have O4 := ((O3.later (Below.refl _ _).drew).later (below_made q w3.drew)).later (below_made q (madeW q w3.drew))
     replace O4 := O4.later h4
     have B4 : Below w.heap.size w w4 := thenB (thenB (thenB B3.drew (below_made q w3.drew)) (below_made q (madeW q w3.drew))) h4
     have hjl : j < (List.replicate k (0 : Int)).length := by rw [HZ.out.1]; exact hj
     have c4 := O4.cellAt hjl
     have c40 : w4.cell? ⟨g, j, none⟩ = some (.int .i64 0) := by rw [c4.1]; simp [List.getD, hj]
     have c41 := c4.2
     have O5 := O4.set hjl (-(d : Int))
     have B5 := B4.setCell (p := ⟨g, j, none⟩) HG.out (.int .i64 (-(d : Int)))
     have HO : Hid (OwnAt g (w4.setCell ⟨g, j, none⟩ (.int .i64 (-(d : Int)))) (some ⟨g, 0, none⟩) ((List.replicate k (0 : Int)).set j (-(d : Int))) ∧ Below w.heap.size w (w4.setCell ⟨g, j, none⟩ (.int .i64 (-(d : Int))))) := ⟨O5, B5⟩
     clear O4 B4 hjl c4 O5 B5 O3 B3 h4 RQ HN hqw
     go_wp2_with fail
     refine (may_n HZ.out.2.2.2.1 HO.out.1.row (no_iff (HB1.out _))).mono ?_
     rintro e w6 ⟨rfl, h6⟩
     have O6 := HO.out.1.later h6
     have B6 := thenB HO.out.2 h6
     clear h6 HO c40 c41
     go_wp2_with fail
     refine (under_n HZ.out.2.2.2.1 HZ.out.1 (O6.row.later (below_made k w6)) (own_made k w6).row (no_iff (fun h => HB1.out _ h.1.1))).mono ?_
     rintro e w7 ⟨rfl, h7⟩
     have O7 := (O6.later (below_made k w6)).later h7
     have B7 := thenB (thenB B6 (below_made k w6)) h7
     clear O6 B6 h7
     go_wp2_with fail
     refine (under_n HZ.out.1 HZ.out.2.2.2.1 (own_made k w7).row (O7.row.later (below_made k w7)) (no_iff (fun h => HB1.out _ h.1.2))).mono ?_
     rintro e w8 ⟨rfl, h8⟩
     have O8 := (O7.later (below_made k w7)).later h8
     have B8 := thenB (thenB B7 (below_made k w7)) h8
     clear O7 B7 h8
     go_wp2_with fail
     refine (max_n HZ.out.1 HZ.out.2.2.2.1 (own_made k w8).row (O8.row.later (below_made k w8)) (made_no (fun h => HB1.out _ h.2))).mono ?_
     rintro e w9 ⟨ro9, rc9, rfl, _, h9⟩
     have O9 := (O8.later (below_made k w8)).later h9
     have B9 := thenB (thenB B8 (below_made k w8)) h9
     clear O8 B8 h9
     have hjl : j < ((List.replicate k (0 : Int)).set j (-(d : Int))).length := by rw [HZ.out.2.2.2.1]; exact hj
     have c9 := O9.cellAt hjl
     have c90 : w9.cell? ⟨g, j, none⟩ = some (.int .i64 (-(d : Int))) := by rw [c9.1]; simp [List.getD, hj]
     have c91 := c9.2
     have O10 := O9.set hjl (1048575 + (d : Int))
     have B10 := B9.setCell (p := ⟨g, j, none⟩) HG.out (.int .i64 (1048575 + (d : Int)))
     have HO : Hid (OwnAt g (w9.setCell ⟨g, j, none⟩ (.int .i64 (1048575 + (d : Int)))) (some ⟨g, 0, none⟩) (((List.replicate k (0 : Int)).set j (-(d : Int))).set j (1048575 + (d : Int))) ∧ Below w.heap.size w (w9.setCell ⟨g, j, none⟩ (.int .i64 (1048575 + (d : Int))))) := ⟨O10, B10⟩
     clear O9 B9 hjl c9 O10 B10
     go_wp2_with fail
     refine (may_n HZ.out.2.2.2.2 HO.out.1.row (no_iff (HB2.out _))).mono ?_
     rintro e w11 ⟨rfl, h11⟩
     have O11 := HO.out.1.later h11
     have B11 := thenB HO.out.2 h11
     clear h11 HO c90 c91
     go_wp2_with fail
     refine (may_n HZ.out.1 (own_made k w11).row (no_iff (fun h => by have e := h.2.2.1; rw [HZ.out.1] at e; have := HF.out; omega))).mono ?_
     rintro e w12 ⟨rfl, h12⟩
     have O12 := (O11.later (below_made k w11)).later h12
     have B12 := thenB (thenB B11 (below_made k w11)) h12
     clear O11 B11 h12
     go_wp2_with fail
     refine (may_n (l := []) rfl (RowAt.nil _ _) (no_iff (fun h => by have e := h.1; omega))).mono ?_
     rintro e w13 ⟨rfl, h13⟩
     have O13 := O12.later h13
     have B13 := thenB B12 h13
     clear O12 B12 h13
     go_wp2_with fail
     refine (under_n (a := []) (b := []) rfl rfl (RowAt.nil _ _) (RowAt.nil _ _) (no_iff (fun h => by have e := h.1.1.1; simp at e))).mono ?_
     rintro e w14 ⟨rfl, h14⟩
     have O14 := O13.later h14
     have B14 := thenB B13 h14
     clear O13 B13 h14
     go_wp2_with fail
     refine (min_n HZ.out.2.2.2.2 HZ.out.1 (O14.row.later (below_made k w14)) (own_made k w14).row (made_no (fun h => HB2.out _ h.1))).mono ?_
     rintro e w15 ⟨ro15, rc15, rfl, _, h15⟩
     have B15 := thenB (thenB B14 (below_made k w14)) h15
     clear O14 B14 h15
     go_wp2_with (go_at_call 14; refine (num_any _ _).mono ?_; rintro e w0 ⟨rfl, rfl⟩)
     go_ret
     exact ⟨rfl, B15⟩)

theorem walk {H : Type} {enc : TypeId × Value → H} {base : Nat} {d0 : DataW H} {p0 : List MemPlace} (v0 : Value) (p x : Int) (w : World)
    (o0 : Value.okWide Try.prog w .any base 22 v0) (h0 : DataW.Trod enc Try.prog w 0 (fun _ => true) true 22 v0 d0 p0) (hp : (Lit.int .i64 p).wf = true) (hx : (Lit.int .i64 x).wf = true) :
    Calls Try.prog 6 #[v0, .int .i64 p, .int .i64 x] w fun e w' => e = .returned (.bool true) ∧ Below w.heap.size w w' := by
  obtain ⟨a, ao, ca, rfl, la, ha, _⟩ := isInts_of o0 h0
  exact core ao ca a p x w la

end Go.Proofs.Ytbindfgjdocpoaa.VecForms
