/-
  The laws' own first look at package rga ('awake'): it answers true.
-/
import Derived.Test.YtghlegidapmpmaaStepL
namespace Go.Proofs.Ytghlegidapmpmaa
open Go.RowKit Go.Shelf
set_option linter.unusedVariables false
set_option linter.unusedSimpArgs false

abbrev xA : ByteArray := ⟨#[97]⟩
abbrev xB : ByteArray := ⟨#[98]⟩
abbrev xC : ByteArray := ⟨#[99]⟩
abbrev al1 : List L5 := [⟨0, 1, 1, xA, false⟩]
abbrev al2 : List L5 := [⟨0, 1, 1, xA, false⟩, ⟨1, 1, 2, xB, false⟩]
abbrev al3 : List L5 := [⟨0, 1, 1, xA, false⟩, ⟨2, 1, 2, xC, false⟩, ⟨1, 1, 2, xB, false⟩]
abbrev al4 : List L5 := [⟨0, 1, 1, xA, false⟩, ⟨2, 1, 2, ByteArray.empty, true⟩, ⟨1, 1, 2, xB, false⟩]
theorem smallX_aw {l : List L5} (h1 : l.length ≤ 64) (h2 : l.all (fun x => decide (x.val.size ≤ 256)) = true) : SmallX l := ⟨h1, fun x hx => by simpa using List.all_eq_true.1 h2 x hx⟩
theorem sx0 : SmallX [] := smallX_nil
theorem sx1 : SmallX al1 := smallX_aw (by decide) (by decide +kernel)
theorem sx2 : SmallX al2 := smallX_aw (by decide) (by decide +kernel)
theorem sx3 : SmallX al3 := smallX_aw (by decide) (by decide +kernel)
theorem sx4 : SmallX al4 := smallX_aw (by decide) (by decide +kernel)
theorem eqXs_some {o : Option (List L5)} {m : List L5} (h : (match o with | some l => eqXs l m | none => false) = true) : o = some m := by
  cases o with
  | none => cases h
  | some l => rw [eqXs_eq h]
theorem ain1 : insL [] ⟨0, 1, 1, xA, false⟩ (0, 0) = some al1 := eqXs_some (by decide +kernel)
theorem ain2 : insL al1 ⟨1, 1, 2, xB, false⟩ (0, 1) = some al2 := eqXs_some (by decide +kernel)
theorem ain3 : insL al2 ⟨2, 1, 2, xC, false⟩ (0, 1) = some al3 := eqXs_some (by decide +kernel)
theorem aer4 : eraL al3 (2, 1) = some al4 := eqXs_some (by decide +kernel)
theorem aco5 : liveL al4 = al2 := eqXs_eq (by decide +kernel)
theorem ava3 : valsX al3 = [xA, xC, xB] := rfl
theorem arange : insL [] ⟨0, 1, 1, xA, false⟩ (0, 9) = none := by decide +kernel
theorem aat1 : atNum al4 1 = ((1, 1), 0) := by
  unfold atNum atI atX
  rw [aco5]
  rfl
theorem aat2 : atNum al4 2 = ((0, 0), 1001) := by
  unfold atNum atI atX
  rw [aco5]
  rfl

/-- Each of the rows of R lies there. -/
def Rws (W : World) : List (Option Addr × List Value) → Prop
  | [] => True
  | r :: R => FRow W r.1 r.2 ∧ Rws W R
theorem Rws.later {W W' : World} {R : List (Option Addr × List Value)} (H : Rws W R) (hb : Below W.heap.size W W') : Rws W' R := by
  induction R with
  | nil => trivial
  | cons r R ih => exact ⟨H.1.later hb, ih H.2⟩
theorem Regs.fit {h : Nat} {w W W' : World} {L : List (Nat × List Value)} {B : Nat} (H : Regs h w W L) (hB : W.heap.size = B) (hb : Below B W W') : Regs h w W' L := H.later (hB.symm ▸ hb)
theorem Rws.fit {W W' : World} {R : List (Option Addr × List Value)} {B : Nat} (H : Rws W R) (hB : W.heap.size = B) (hb : Below B W W') : Rws W' R := H.later (hB.symm ▸ hb)

set_option maxHeartbeats 8000000 in
set_option maxRecDepth 100000 in
theorem awake10_any (w : World) :
    Calls Try.prog 4 #[] w fun e w' => e = .returned (.bool true) ∧ Below w.heap.size w w' := by
  have H00 : Hid (Regs w.heap.size w (w.alloc (.cells (zl 3).toArray 31)) [(w.heap.size, zl 3)]) := Regs.push (L := []) ⟨Below.refl _ _, Nat.le_refl _⟩ rfl _ _
  obtain ⟨h, hh⟩ : ∃ h, w.heap.size = h := ⟨_, rfl⟩
  rw [hh] at H00 ⊢
  go_enter Try.func4, Try.ntmps4
  go_upto_region 2 with fail
  generalize hW : w.alloc (.cells (zl 3).toArray 31) = u0 at H00 ⊢
  clear hW hh
  obtain ⟨q0, H0⟩ : ∃ q0 : Pl, Hid (Regs h w u0 [(h, llL 0 q0)] ∧ Rws u0 [(q0.lo, [])]) := ⟨pl0, H00.out, FRow.nil _ _, trivial⟩
  clear H00
  obtain ⟨B, hB⟩ : ∃ B, u0.heap.size = B := ⟨_, rfl⟩
  have hg : h < B := by rw [← hB]; exact (H0.out.1.1).1
  have HS : Hid (SrcL u0 B h 0 q0 [] h 0 (.int .i64 3) h 0 (.int .i64 3)) := ⟨hB, H0.out.1.1, H0.out.2.1, hg, (H0.out.1.1).at 0 rfl, hg, (H0.out.1.1).at 0 rfl⟩
  have HB : Hid (u0.heap.size = B) := hB
  have hz0 : B ≤ u0.heap.size := by omega
  have hzd : B ≤ u0.drew.heap.size := hz0
  clear hB
  go_cut [2, 3] from 23 to 29 (fun p e wx => ∃ (kc : Nat) (q' : Pl), p = .pointer (some ⟨kc, 0, none⟩) ∧ e = .int .i64 0 ∧ Hid (EndL u0 B 1 al1 kc q' wx))
  case first =>
    go_region_held3 (HeldL u0 B h 0 q0 h 0 (.int .i64 3) h 0 (.int .i64 3)) (first | (with_reducible apply heldL_later HS.out hb2; assumption) | with_reducible apply heldL_put HS.out T6 (by assumption) | (with_reducible apply heldL_swap HS.out (by omega) (by assumption)) | (with_reducible exact heldL_drew HS.out) | (with_reducible exact heldL_first HS.out _) | (with_reducible apply heldL_alloc HS.out _ (by assumption)))
      (first
        | (go_at_call 6; with_reducible refine (elem_any _ _ _ _ _).mono ?_; rintro r w3 ⟨rfl, hb2⟩; have hz := hb2.size; first | (with_reducible have T6 := nineT_newd (B := B) (by omega) hb2; obtain ⟨y0, y1, y2, y3, y4, y5, y6, y7, y8, y9⟩ := nineT_ten T6; obtain ⟨z0, z1, z2, z3, z4, z5, z6, z7, z8, z9⟩ := nineT_tenf T6) | (with_reducible have T6 := nineT_new (B := B) (by omega) hb2; obtain ⟨y0, y1, y2, y3, y4, y5, y6, y7, y8, y9⟩ := nineT_ten T6; obtain ⟨z0, z1, z2, z3, z4, z5, z6, z7, z8, z9⟩ := nineT_tenf T6) | (with_reducible replace T6 := nineT_later T6 hb2; obtain ⟨y0, y1, y2, y3, y4, y5, y6, y7, y8, y9⟩ := nineT_ten T6; obtain ⟨z0, z1, z2, z3, z4, z5, z6, z7, z8, z9⟩ := nineT_tenf T6) | skip)
        | (go_at_call 5; with_reducible refine (ins_atL (e := ⟨0, 1, 1, xA, false⟩) (d := (0, 0)) (m := al1) (n' := 1) HS.out (by assumption) rfl sx0 (by decide +kernel) ain1 rfl).mono ?_; rintro r w3 ⟨q', rfl, O3, hC3, hb2⟩; have hz := hb2.size; first | (with_reducible have T6 := nineT_newd (B := B) (by omega) hb2; obtain ⟨y0, y1, y2, y3, y4, y5, y6, y7, y8, y9⟩ := nineT_ten T6; obtain ⟨z0, z1, z2, z3, z4, z5, z6, z7, z8, z9⟩ := nineT_tenf T6) | (with_reducible have T6 := nineT_new (B := B) (by omega) hb2; obtain ⟨y0, y1, y2, y3, y4, y5, y6, y7, y8, y9⟩ := nineT_ten T6; obtain ⟨z0, z1, z2, z3, z4, z5, z6, z7, z8, z9⟩ := nineT_tenf T6) | (with_reducible replace T6 := nineT_later T6 hb2; obtain ⟨y0, y1, y2, y3, y4, y5, y6, y7, y8, y9⟩ := nineT_ten T6; obtain ⟨z0, z1, z2, z3, z4, z5, z6, z7, z8, z9⟩ := nineT_tenf T6) | skip))
    all_goals
      (go_wp2_with fail
       go_meet
       case rel =>
         (first
           | (have E7 := endL_put (w1 := u0) (l' := al1) T6 O3 (by assumption); exact ⟨_, q', rfl, rfl, E7⟩)
           | (have E7 := endL_new (w1 := u0) (W := w3) (B := B) (l' := al1) 31 hC3 (by omega) O3 (by assumption); exact ⟨_, q', rfl, rfl, E7⟩)))
  case rest =>
  obtain ⟨u1, rfl⟩ : ∃ z, z = wc := ⟨_, rfl⟩
  obtain ⟨k1, q1, rfl, rfl, HE⟩ := hcut
  have H1 : Hid (Regs h w u1 [(k1, llL 1 q1), (h, llL 0 q0)] ∧ Rws u1 [(q1.lo, flatL al1), (q0.lo, [])]) := ⟨⟨HE.out.2.1, H0.out.1.fit HB.out HE.out.2.2.2⟩, HE.out.2.2.1.row, H0.out.2.fit HB.out HE.out.2.2.2⟩
  have lk : B ≤ k1 := HE.out.1
  have lk1 : h < k1 := by omega
  clear HS HB HE hz0 hzd H0 lk hg B
  go_upto_region 3 with fail
  obtain ⟨B, hB⟩ : ∃ B, u1.heap.size = B := ⟨_, rfl⟩
  have hg : k1 < B := by rw [← hB]; exact (H1.out.1.1).1
  have HS : Hid (SrcL u1 B k1 1 q1 al1 k1 0 (.int .i64 3) k1 0 (.int .i64 3)) := ⟨hB, H1.out.1.1, H1.out.2.1, hg, (H1.out.1.1).at 0 rfl, hg, (H1.out.1.1).at 0 rfl⟩
  have HB : Hid (u1.heap.size = B) := hB
  have hz0 : B ≤ u1.heap.size := by omega
  have hzd : B ≤ u1.drew.heap.size := hz0
  clear hB
  go_cut [4, 5] from 30 to 36 (fun p e wx => ∃ (kc : Nat) (q' : Pl), p = .pointer (some ⟨kc, 0, none⟩) ∧ e = .int .i64 0 ∧ Hid (EndL u1 B 2 al2 kc q' wx))
  case first =>
    go_region_held3 (HeldL u1 B k1 1 q1 k1 0 (.int .i64 3) k1 0 (.int .i64 3)) (first | (with_reducible apply heldL_later HS.out hb2; assumption) | with_reducible apply heldL_put HS.out T6 (by assumption) | (with_reducible apply heldL_swap HS.out (by omega) (by assumption)) | (with_reducible exact heldL_drew HS.out) | (with_reducible exact heldL_first HS.out _) | (with_reducible apply heldL_alloc HS.out _ (by assumption)))
      (first
        | (go_at_call 6; with_reducible refine (elem_any _ _ _ _ _).mono ?_; rintro r w3 ⟨rfl, hb2⟩; have hz := hb2.size; first | (with_reducible have T6 := nineT_newd (B := B) (by omega) hb2; obtain ⟨y0, y1, y2, y3, y4, y5, y6, y7, y8, y9⟩ := nineT_ten T6; obtain ⟨z0, z1, z2, z3, z4, z5, z6, z7, z8, z9⟩ := nineT_tenf T6) | (with_reducible have T6 := nineT_new (B := B) (by omega) hb2; obtain ⟨y0, y1, y2, y3, y4, y5, y6, y7, y8, y9⟩ := nineT_ten T6; obtain ⟨z0, z1, z2, z3, z4, z5, z6, z7, z8, z9⟩ := nineT_tenf T6) | (with_reducible replace T6 := nineT_later T6 hb2; obtain ⟨y0, y1, y2, y3, y4, y5, y6, y7, y8, y9⟩ := nineT_ten T6; obtain ⟨z0, z1, z2, z3, z4, z5, z6, z7, z8, z9⟩ := nineT_tenf T6) | skip)
        | (go_at_call 5; with_reducible refine (ins_atL (e := ⟨1, 1, 2, xB, false⟩) (d := (0, 1)) (m := al2) (n' := 2) HS.out (by assumption) rfl sx1 (by decide +kernel) ain2 rfl).mono ?_; rintro r w3 ⟨q', rfl, O3, hC3, hb2⟩; have hz := hb2.size; first | (with_reducible have T6 := nineT_newd (B := B) (by omega) hb2; obtain ⟨y0, y1, y2, y3, y4, y5, y6, y7, y8, y9⟩ := nineT_ten T6; obtain ⟨z0, z1, z2, z3, z4, z5, z6, z7, z8, z9⟩ := nineT_tenf T6) | (with_reducible have T6 := nineT_new (B := B) (by omega) hb2; obtain ⟨y0, y1, y2, y3, y4, y5, y6, y7, y8, y9⟩ := nineT_ten T6; obtain ⟨z0, z1, z2, z3, z4, z5, z6, z7, z8, z9⟩ := nineT_tenf T6) | (with_reducible replace T6 := nineT_later T6 hb2; obtain ⟨y0, y1, y2, y3, y4, y5, y6, y7, y8, y9⟩ := nineT_ten T6; obtain ⟨z0, z1, z2, z3, z4, z5, z6, z7, z8, z9⟩ := nineT_tenf T6) | skip))
    all_goals
      (go_wp2_with fail
       go_meet
       case rel =>
         (first
           | (have E7 := endL_put (w1 := u1) (l' := al2) T6 O3 (by assumption); exact ⟨_, q', rfl, rfl, E7⟩)
           | (have E7 := endL_new (w1 := u1) (W := w3) (B := B) (l' := al2) 31 hC3 (by omega) O3 (by assumption); exact ⟨_, q', rfl, rfl, E7⟩)))
  case rest =>
  obtain ⟨u2, rfl⟩ : ∃ z, z = wc := ⟨_, rfl⟩
  obtain ⟨k2, q2, rfl, rfl, HE⟩ := hcut
  have H2 : Hid (Regs h w u2 [(k2, llL 2 q2), (k1, llL 1 q1), (h, llL 0 q0)] ∧ Rws u2 [(q2.lo, flatL al2), (q1.lo, flatL al1), (q0.lo, [])]) := ⟨⟨HE.out.2.1, H1.out.1.fit HB.out HE.out.2.2.2⟩, HE.out.2.2.1.row, H1.out.2.fit HB.out HE.out.2.2.2⟩
  have lk : B ≤ k2 := HE.out.1
  have lk2 : k1 < k2 := by omega
  clear HS HB HE hz0 hzd H1 lk hg B
  go_upto_region 4 with fail
  obtain ⟨B, hB⟩ : ∃ B, u2.heap.size = B := ⟨_, rfl⟩
  have hg : k2 < B := by rw [← hB]; exact (H2.out.1.1).1
  have HS : Hid (SrcL u2 B k2 2 q2 al2 k2 0 (.int .i64 3) k2 0 (.int .i64 3)) := ⟨hB, H2.out.1.1, H2.out.2.1, hg, (H2.out.1.1).at 0 rfl, hg, (H2.out.1.1).at 0 rfl⟩
  have HB : Hid (u2.heap.size = B) := hB
  have hz0 : B ≤ u2.heap.size := by omega
  have hzd : B ≤ u2.drew.heap.size := hz0
  clear hB
  go_cut [6, 7] from 37 to 43 (fun p e wx => ∃ (kc : Nat) (q' : Pl), p = .pointer (some ⟨kc, 0, none⟩) ∧ e = .int .i64 0 ∧ Hid (EndL u2 B 3 al3 kc q' wx))
  case first =>
    go_region_held3 (HeldL u2 B k2 2 q2 k2 0 (.int .i64 3) k2 0 (.int .i64 3)) (first | (with_reducible apply heldL_later HS.out hb2; assumption) | with_reducible apply heldL_put HS.out T6 (by assumption) | (with_reducible apply heldL_swap HS.out (by omega) (by assumption)) | (with_reducible exact heldL_drew HS.out) | (with_reducible exact heldL_first HS.out _) | (with_reducible apply heldL_alloc HS.out _ (by assumption)))
      (first
        | (go_at_call 6; with_reducible refine (elem_any _ _ _ _ _).mono ?_; rintro r w3 ⟨rfl, hb2⟩; have hz := hb2.size; first | (with_reducible have T6 := nineT_newd (B := B) (by omega) hb2; obtain ⟨y0, y1, y2, y3, y4, y5, y6, y7, y8, y9⟩ := nineT_ten T6; obtain ⟨z0, z1, z2, z3, z4, z5, z6, z7, z8, z9⟩ := nineT_tenf T6) | (with_reducible have T6 := nineT_new (B := B) (by omega) hb2; obtain ⟨y0, y1, y2, y3, y4, y5, y6, y7, y8, y9⟩ := nineT_ten T6; obtain ⟨z0, z1, z2, z3, z4, z5, z6, z7, z8, z9⟩ := nineT_tenf T6) | (with_reducible replace T6 := nineT_later T6 hb2; obtain ⟨y0, y1, y2, y3, y4, y5, y6, y7, y8, y9⟩ := nineT_ten T6; obtain ⟨z0, z1, z2, z3, z4, z5, z6, z7, z8, z9⟩ := nineT_tenf T6) | skip)
        | (go_at_call 5; with_reducible refine (ins_atL (e := ⟨2, 1, 2, xC, false⟩) (d := (0, 1)) (m := al3) (n' := 3) HS.out (by assumption) rfl sx2 (by decide +kernel) ain3 rfl).mono ?_; rintro r w3 ⟨q', rfl, O3, hC3, hb2⟩; have hz := hb2.size; first | (with_reducible have T6 := nineT_newd (B := B) (by omega) hb2; obtain ⟨y0, y1, y2, y3, y4, y5, y6, y7, y8, y9⟩ := nineT_ten T6; obtain ⟨z0, z1, z2, z3, z4, z5, z6, z7, z8, z9⟩ := nineT_tenf T6) | (with_reducible have T6 := nineT_new (B := B) (by omega) hb2; obtain ⟨y0, y1, y2, y3, y4, y5, y6, y7, y8, y9⟩ := nineT_ten T6; obtain ⟨z0, z1, z2, z3, z4, z5, z6, z7, z8, z9⟩ := nineT_tenf T6) | (with_reducible replace T6 := nineT_later T6 hb2; obtain ⟨y0, y1, y2, y3, y4, y5, y6, y7, y8, y9⟩ := nineT_ten T6; obtain ⟨z0, z1, z2, z3, z4, z5, z6, z7, z8, z9⟩ := nineT_tenf T6) | skip))
    all_goals
      (go_wp2_with fail
       go_meet
       case rel =>
         (first
           | (have E7 := endL_put (w1 := u2) (l' := al3) T6 O3 (by assumption); exact ⟨_, q', rfl, rfl, E7⟩)
           | (have E7 := endL_new (w1 := u2) (W := w3) (B := B) (l' := al3) 31 hC3 (by omega) O3 (by assumption); exact ⟨_, q', rfl, rfl, E7⟩)))
  case rest =>
  obtain ⟨u3, rfl⟩ : ∃ z, z = wc := ⟨_, rfl⟩
  obtain ⟨k3, q3, rfl, rfl, HE⟩ := hcut
  have H3 : Hid (Regs h w u3 [(k3, llL 3 q3), (k2, llL 2 q2), (k1, llL 1 q1), (h, llL 0 q0)] ∧ Rws u3 [(q3.lo, flatL al3), (q2.lo, flatL al2), (q1.lo, flatL al1), (q0.lo, [])]) := ⟨⟨HE.out.2.1, H2.out.1.fit HB.out HE.out.2.2.2⟩, HE.out.2.2.1.row, H2.out.2.fit HB.out HE.out.2.2.2⟩
  have lk : B ≤ k3 := HE.out.1
  have lk3 : k2 < k3 := by omega
  clear HS HB HE hz0 hzd H2 lk hg B
  obtain ⟨t0, t1, t2, t3, t4, t5, t6, t7, t8, t9⟩ := (H3.out.1.1).ten
  go_wp2_with fail
  refine (valx_yes (l := al3) (q := q3) _ [xA, xC, xB] 3 3 rfl (H3.out.2.1) sx3 ava3 rfl).mono ?_
  rintro e v5 ⟨vo, cv, rfl, o5, b5⟩
  have H5 : Hid (Regs h w v5 [(k3, llL 3 q3), (k2, llL 2 q2), (k1, llL 1 q1), (h, llL 0 q0)] ∧ Rws v5 [(vo, flatT [xA, xC, xB]), (q3.lo, flatL al3), (q2.lo, flatL al2), (q1.lo, flatL al1), (q0.lo, [])]) := ⟨H3.out.1.later b5, o5.row, H3.out.2.later b5⟩
  clear H3 b5 o5 t0 t1 t2 t3 t4 t5 t6 t7 t8 t9
  obtain ⟨t0, t1, t2, t3, t4, t5, t6, t7, t8, t9⟩ := (H5.out.1.1).ten
  go_wp2_with fail
  refine (eras_yes (l := al3) (q := q3) (d := (2, 1)) _ al4 3 rfl (H5.out.2.2.1) sx3 aer4).mono ?_
  rintro e v6 ⟨q6, rfl, o6, b6⟩
  obtain ⟨k6, ek6⟩ : ∃ k, v6.heap.size = k := ⟨_, rfl⟩
  have lk6 : k3 < k6 := by rw [← ek6]; exact (H5.out.1.later b6).1.1
  have HH : Hid (Regs h w (v6.alloc (.cells (llL 3 q6).toArray 31)) [(k6, llL 3 q6), (k3, llL 3 q3), (k2, llL 2 q2), (k1, llL 1 q1), (h, llL 0 q0)] ∧ Rws (v6.alloc (.cells (llL 3 q6).toArray 31)) [(q6.lo, flatL al4), (vo, flatT [xA, xC, xB]), (q3.lo, flatL al3), (q2.lo, flatL al2), (q1.lo, flatL al1), (q0.lo, [])]) := by
    have hal : Below v6.heap.size v6 (v6.alloc (.cells (llL 3 q6).toArray 31)) := (Below.refl _ _).alloc (Nat.le_refl _) _
    exact ⟨Regs.push (H5.out.1.later b6) ek6 _ _, o6.row.later hal, (H5.out.2.later b6).later hal⟩
  clear H5 b6 o6 t0 t1 t2 t3 t4 t5 t6 t7 t8 t9
  go_upto_region 7 with fail
  clear ek6
  generalize hW : v6.alloc (.cells (llL 3 q6).toArray 31) = u6 at HH ⊢
  have H6 := HH
  clear hW HH
  obtain ⟨t0, t1, t2, t3, t4, t5, t6, t7, t8, t9⟩ := (H6.out.1.1).ten
  go_wp2_with fail
  refine (ats_any (l := al4) (q := q6) _ 1 3 (1, 1) 0 rfl (H6.out.2.1) sx4 aat1).mono ?_
  rintro e v7 ⟨rfl, b7⟩
  obtain ⟨k7, ek7⟩ : ∃ k, v7.heap.size = k := ⟨_, rfl⟩
  have lk7 : k6 < k7 := by rw [← ek7]; exact (H6.out.1.later b7).1.1
  have HH : Hid (Regs h w (v7.alloc (.cells ([.int .i64 1, .int .i64 1]).toArray 33)) [(k7, [.int .i64 1, .int .i64 1]), (k6, llL 3 q6), (k3, llL 3 q3), (k2, llL 2 q2), (k1, llL 1 q1), (h, llL 0 q0)] ∧ Rws (v7.alloc (.cells ([.int .i64 1, .int .i64 1]).toArray 33)) [(q6.lo, flatL al4), (vo, flatT [xA, xC, xB]), (q3.lo, flatL al3), (q2.lo, flatL al2), (q1.lo, flatL al1), (q0.lo, [])]) := by
    have hal : Below v7.heap.size v7 (v7.alloc (.cells ([.int .i64 1, .int .i64 1]).toArray 33)) := (Below.refl _ _).alloc (Nat.le_refl _) _
    exact ⟨Regs.push (H6.out.1.later b7) ek7 _ _, (H6.out.2.later b7).later hal⟩
  clear H6 b7 t0 t1 t2 t3 t4 t5 t6 t7 t8 t9
  go_upto_region 8 with fail
  clear ek7
  generalize hW : v7.alloc (.cells (d2 (1, 1)).toArray 33) = u7 at HH ⊢
  have H7 := HH
  clear hW HH
  obtain ⟨t0, t1, t2, t3, t4, t5, t6, t7, t8, t9⟩ := (H7.out.1.2.1).ten
  go_wp2_with fail
  refine (ats_any (l := al4) (q := q6) _ 2 3 (0, 0) 1001 rfl (H7.out.2.1) sx4 aat2).mono ?_
  rintro e v8 ⟨rfl, b8⟩
  obtain ⟨k8, ek8⟩ : ∃ k, v8.heap.size = k := ⟨_, rfl⟩
  have lk8 : k7 < k8 := by rw [← ek8]; exact (H7.out.1.later b8).1.1
  have HH : Hid (Regs h w (v8.alloc (.cells ([.int .i64 0, .int .i64 0]).toArray 33)) [(k8, [.int .i64 0, .int .i64 0]), (k7, [.int .i64 1, .int .i64 1]), (k6, llL 3 q6), (k3, llL 3 q3), (k2, llL 2 q2), (k1, llL 1 q1), (h, llL 0 q0)] ∧ Rws (v8.alloc (.cells ([.int .i64 0, .int .i64 0]).toArray 33)) [(q6.lo, flatL al4), (vo, flatT [xA, xC, xB]), (q3.lo, flatL al3), (q2.lo, flatL al2), (q1.lo, flatL al1), (q0.lo, [])]) := by
    have hal : Below v8.heap.size v8 (v8.alloc (.cells ([.int .i64 0, .int .i64 0]).toArray 33)) := (Below.refl _ _).alloc (Nat.le_refl _) _
    exact ⟨Regs.push (H7.out.1.later b8) ek8 _ _, (H7.out.2.later b8).later hal⟩
  clear H7 b8 t0 t1 t2 t3 t4 t5 t6 t7 t8 t9
  go_upto_region 9 with fail
  clear ek8
  generalize hW : v8.alloc (.cells (d2 (0, 0)).toArray 33) = u8 at HH ⊢
  have H8 := HH
  clear hW HH
  obtain ⟨t0, t1, t2, t3, t4, t5, t6, t7, t8, t9⟩ := (H8.out.1.2.2.1).ten
  go_wp2_with fail
  refine (coms_yes (l := al4) (q := q6) _ al2 3 2 rfl (H8.out.2.1) sx4 aco5 rfl).mono ?_
  rintro e v9 ⟨q9, rfl, o9, b9⟩
  obtain ⟨k9, ek9⟩ : ∃ k, v9.heap.size = k := ⟨_, rfl⟩
  have lk9 : k8 < k9 := by rw [← ek9]; exact (H8.out.1.later b9).1.1
  have HH : Hid (Regs h w (v9.alloc (.cells (llL 2 q9).toArray 31)) [(k9, llL 2 q9), (k8, [.int .i64 0, .int .i64 0]), (k7, [.int .i64 1, .int .i64 1]), (k6, llL 3 q6), (k3, llL 3 q3), (k2, llL 2 q2), (k1, llL 1 q1), (h, llL 0 q0)] ∧ Rws (v9.alloc (.cells (llL 2 q9).toArray 31)) [(q9.lo, flatL al2), (q6.lo, flatL al4), (vo, flatT [xA, xC, xB]), (q3.lo, flatL al3), (q2.lo, flatL al2), (q1.lo, flatL al1), (q0.lo, [])]) := by
    have hal : Below v9.heap.size v9 (v9.alloc (.cells (llL 2 q9).toArray 31)) := (Below.refl _ _).alloc (Nat.le_refl _) _
    exact ⟨Regs.push (H8.out.1.later b9) ek9 _ _, o9.row.later hal, (H8.out.2.later b9).later hal⟩
  clear H8 b9 o9 t0 t1 t2 t3 t4 t5 t6 t7 t8 t9
  go_upto_region 10 with fail
  clear ek9
  generalize hW : v9.alloc (.cells (llL 2 q9).toArray 31) = u9 at HH ⊢
  have H9 := HH
  clear hW HH
  obtain ⟨B, hB⟩ : ∃ B, u9.heap.size = B := ⟨_, rfl⟩
  have hg : h < B := by rw [← hB]; exact (H9.out.1.2.2.2.2.2.2.2.1).1
  have HS : Hid (SrcL u9 B h 0 q0 [] h 0 (.int .i64 3) h 0 (.int .i64 3)) := ⟨hB, H9.out.1.2.2.2.2.2.2.2.1, H9.out.2.2.2.2.2.2.2.1, hg, (H9.out.1.2.2.2.2.2.2.2.1).at 0 rfl, hg, (H9.out.1.2.2.2.2.2.2.2.1).at 0 rfl⟩
  have HB : Hid (u9.heap.size = B) := hB
  have hz0 : B ≤ u9.heap.size := by omega
  have hzd : B ≤ u9.drew.heap.size := hz0
  clear hB
  go_cut [18, 19] from 70 to 76 (fun p e wx => ∃ kc : Nat, p = .pointer (some ⟨kc, 0, none⟩) ∧ e = .int .i64 1001 ∧ Hid (EndZ u9 B kc wx))
  case first =>
    go_region_held3 (HeldL u9 B h 0 q0 h 0 (.int .i64 3) h 0 (.int .i64 3)) (first | (with_reducible apply heldL_later HS.out hb2; assumption) | with_reducible apply heldL_put HS.out T6 (by assumption) | (with_reducible apply heldL_swap HS.out (by omega) (by assumption)) | (with_reducible exact heldL_drew HS.out) | (with_reducible exact heldL_first HS.out _) | (with_reducible apply heldL_alloc HS.out _ (by assumption)))
      (first
        | (go_at_call 6; with_reducible refine (elem_any _ _ _ _ _).mono ?_; rintro r w3 ⟨rfl, hb2⟩; have hz := hb2.size; first | (with_reducible have T6 := nineT_newd (B := B) (by omega) hb2; obtain ⟨y0, y1, y2, y3, y4, y5, y6, y7, y8, y9⟩ := nineT_ten T6; obtain ⟨z0, z1, z2, z3, z4, z5, z6, z7, z8, z9⟩ := nineT_tenf T6) | (with_reducible have T6 := nineT_new (B := B) (by omega) hb2; obtain ⟨y0, y1, y2, y3, y4, y5, y6, y7, y8, y9⟩ := nineT_ten T6; obtain ⟨z0, z1, z2, z3, z4, z5, z6, z7, z8, z9⟩ := nineT_tenf T6) | (with_reducible replace T6 := nineT_later T6 hb2; obtain ⟨y0, y1, y2, y3, y4, y5, y6, y7, y8, y9⟩ := nineT_ten T6; obtain ⟨z0, z1, z2, z3, z4, z5, z6, z7, z8, z9⟩ := nineT_tenf T6) | skip)
        | (go_at_call 5; with_reducible refine (ins_rangeL (e := ⟨0, 1, 1, xA, false⟩) (d := (0, 9)) HS.out (by assumption) rfl sx0 (by decide +kernel) arange).mono ?_; rintro r w3 ⟨rfl, hC3, hb2⟩; have hz := hb2.size; first | (with_reducible have T6 := nineT_newd (B := B) (by omega) hb2; obtain ⟨y0, y1, y2, y3, y4, y5, y6, y7, y8, y9⟩ := nineT_ten T6; obtain ⟨z0, z1, z2, z3, z4, z5, z6, z7, z8, z9⟩ := nineT_tenf T6) | (with_reducible have T6 := nineT_new (B := B) (by omega) hb2; obtain ⟨y0, y1, y2, y3, y4, y5, y6, y7, y8, y9⟩ := nineT_ten T6; obtain ⟨z0, z1, z2, z3, z4, z5, z6, z7, z8, z9⟩ := nineT_tenf T6) | (with_reducible replace T6 := nineT_later T6 hb2; obtain ⟨y0, y1, y2, y3, y4, y5, y6, y7, y8, y9⟩ := nineT_ten T6; obtain ⟨z0, z1, z2, z3, z4, z5, z6, z7, z8, z9⟩ := nineT_tenf T6) | skip))
    all_goals
      (go_wp2_with fail
       go_meet
       case rel =>
         (first
           | (have E7 := endZ_put (w1 := u9) T6 (by assumption); exact ⟨_, rfl, rfl, E7⟩)
           | (have E7 := endZ_new (w1 := u9) (W := w3) (B := B) 31 (by omega) (by assumption); exact ⟨_, rfl, rfl, E7⟩)))
  case rest =>
  obtain ⟨u10, rfl⟩ : ∃ z, z = wc := ⟨_, rfl⟩
  obtain ⟨k10, rfl, rfl, HE⟩ := hcut
  have H10 : Hid (Regs h w u10 [(k9, llL 2 q9), (k8, [.int .i64 0, .int .i64 0]), (k7, [.int .i64 1, .int .i64 1]), (k6, llL 3 q6), (k3, llL 3 q3), (k2, llL 2 q2), (k1, llL 1 q1), (h, llL 0 q0)] ∧ Rws u10 [(q9.lo, flatL al2), (q6.lo, flatL al4), (vo, flatT [xA, xC, xB]), (q3.lo, flatL al3), (q2.lo, flatL al2), (q1.lo, flatL al1), (q0.lo, [])]) := ⟨H9.out.1.fit HB.out HE.out.2.2, H9.out.2.fit HB.out HE.out.2.2⟩
  have lk : B ≤ k10 := HE.out.1
  have lk10 : h < k10 := by omega
  clear HS HB HE hz0 hzd H9 lk hg B
  go_upto_region 11 with fail
  obtain ⟨B, hB⟩ : ∃ B, u10.heap.size = B := ⟨_, rfl⟩
  have hg : k1 < B := by rw [← hB]; exact (H10.out.1.2.2.2.2.2.2.1).1
  have HS : Hid (SrcL u10 B k1 1 q1 al1 k1 0 (.int .i64 3) k1 0 (.int .i64 3)) := ⟨hB, H10.out.1.2.2.2.2.2.2.1, H10.out.2.2.2.2.2.2.1, hg, (H10.out.1.2.2.2.2.2.2.1).at 0 rfl, hg, (H10.out.1.2.2.2.2.2.2.1).at 0 rfl⟩
  have HB : Hid (u10.heap.size = B) := hB
  have hz0 : B ≤ u10.heap.size := by omega
  have hzd : B ≤ u10.drew.heap.size := hz0
  clear hB
  go_cut [20, 21] from 77 to 83 (fun p e wx => ∃ kc : Nat, p = .pointer (some ⟨kc, 0, none⟩) ∧ e = .int .i64 1000 ∧ Hid (EndZ u10 B kc wx))
  case first =>
    go_region_held3 (HeldL u10 B k1 1 q1 k1 0 (.int .i64 3) k1 0 (.int .i64 3)) (first | (with_reducible apply heldL_later HS.out hb2; assumption) | with_reducible apply heldL_put HS.out T6 (by assumption) | (with_reducible apply heldL_swap HS.out (by omega) (by assumption)) | (with_reducible exact heldL_drew HS.out) | (with_reducible exact heldL_first HS.out _) | (with_reducible apply heldL_alloc HS.out _ (by assumption)))
      (first
        | (go_at_call 6; with_reducible refine (elem_any _ _ _ _ _).mono ?_; rintro r w3 ⟨rfl, hb2⟩; have hz := hb2.size; first | (with_reducible have T6 := nineT_newd (B := B) (by omega) hb2; obtain ⟨y0, y1, y2, y3, y4, y5, y6, y7, y8, y9⟩ := nineT_ten T6; obtain ⟨z0, z1, z2, z3, z4, z5, z6, z7, z8, z9⟩ := nineT_tenf T6) | (with_reducible have T6 := nineT_new (B := B) (by omega) hb2; obtain ⟨y0, y1, y2, y3, y4, y5, y6, y7, y8, y9⟩ := nineT_ten T6; obtain ⟨z0, z1, z2, z3, z4, z5, z6, z7, z8, z9⟩ := nineT_tenf T6) | (with_reducible replace T6 := nineT_later T6 hb2; obtain ⟨y0, y1, y2, y3, y4, y5, y6, y7, y8, y9⟩ := nineT_ten T6; obtain ⟨z0, z1, z2, z3, z4, z5, z6, z7, z8, z9⟩ := nineT_tenf T6) | skip)
        | (go_at_call 5; with_reducible refine (ins_noL (e := ⟨0, 1, 1, xA, false⟩) (d := (0, 0)) HS.out (by assumption) rfl sx1 (by decide) (by decide +kernel)).mono ?_; rintro r w3 ⟨rfl, hC3, hb2⟩; have hz := hb2.size; first | (with_reducible have T6 := nineT_newd (B := B) (by omega) hb2; obtain ⟨y0, y1, y2, y3, y4, y5, y6, y7, y8, y9⟩ := nineT_ten T6; obtain ⟨z0, z1, z2, z3, z4, z5, z6, z7, z8, z9⟩ := nineT_tenf T6) | (with_reducible have T6 := nineT_new (B := B) (by omega) hb2; obtain ⟨y0, y1, y2, y3, y4, y5, y6, y7, y8, y9⟩ := nineT_ten T6; obtain ⟨z0, z1, z2, z3, z4, z5, z6, z7, z8, z9⟩ := nineT_tenf T6) | (with_reducible replace T6 := nineT_later T6 hb2; obtain ⟨y0, y1, y2, y3, y4, y5, y6, y7, y8, y9⟩ := nineT_ten T6; obtain ⟨z0, z1, z2, z3, z4, z5, z6, z7, z8, z9⟩ := nineT_tenf T6) | skip))
    all_goals
      (go_wp2_with fail
       go_meet
       case rel =>
         (first
           | (have E7 := endZ_put (w1 := u10) T6 (by assumption); exact ⟨_, rfl, rfl, E7⟩)
           | (have E7 := endZ_new (w1 := u10) (W := w3) (B := B) 31 (by omega) (by assumption); exact ⟨_, rfl, rfl, E7⟩)))
  case rest =>
  obtain ⟨u11, rfl⟩ : ∃ z, z = wc := ⟨_, rfl⟩
  obtain ⟨k11, rfl, rfl, HE⟩ := hcut
  have H11 : Hid (Regs h w u11 [(k9, llL 2 q9), (k8, [.int .i64 0, .int .i64 0]), (k7, [.int .i64 1, .int .i64 1]), (k6, llL 3 q6), (k3, llL 3 q3), (k2, llL 2 q2), (k1, llL 1 q1), (h, llL 0 q0)] ∧ Rws u11 [(q9.lo, flatL al2), (q6.lo, flatL al4), (vo, flatT [xA, xC, xB]), (q3.lo, flatL al3), (q2.lo, flatL al2), (q1.lo, flatL al1), (q0.lo, [])]) := ⟨H10.out.1.fit HB.out HE.out.2.2, H10.out.2.fit HB.out HE.out.2.2⟩
  have lk : B ≤ k11 := HE.out.1
  have lk11 : k1 < k11 := by omega
  clear HS HB HE hz0 hzd H10 lk hg B
  go_upto_region 12 with fail
  obtain ⟨n, en⟩ : ∃ n, u11.heap.size = n := ⟨_, rfl⟩
  have R11 : Hid (FRow (u11.alloc (.cells #[.string xA, .string xC, .string xB] 9)) (some ⟨n, 0, none⟩) (flatT [xA, xC, xB])) := frow_newAt en [.string xA, .string xC, .string xB] _
  go_wp2_with (go_at_call 8; refine (num_any _ _).mono ?_; rintro e w0 ⟨rfl, hw0⟩; have hw1 := hw0.symm; clear hw0; subst hw1)
  refine (tsameT_any vo (some ⟨n, 0, none⟩) cv 3 [xA, xC, xB] _ ((H11.out.2.2.2.1).later ((Below.refl _ _).alloc (Nat.le_refl _) _)) R11.out (by decide)).mono ?_
  rintro e u12 ⟨rfl, b12⟩
  have hb12 : Below u11.heap.size u11 u12 := thenB ((Below.refl _ _).alloc (Nat.le_refl _) _) b12
  have H12 : Hid (Regs h w u12 [(k9, llL 2 q9), (k8, [.int .i64 0, .int .i64 0]), (k7, [.int .i64 1, .int .i64 1]), (k6, llL 3 q6), (k3, llL 3 q3), (k2, llL 2 q2), (k1, llL 1 q1), (h, llL 0 q0)] ∧ Rws u12 [(q9.lo, flatL al2), (q6.lo, flatL al4), (vo, flatT [xA, xC, xB]), (q3.lo, flatL al3), (q2.lo, flatL al2), (q1.lo, flatL al1), (q0.lo, [])]) := ⟨H11.out.1.later hb12, H11.out.2.later hb12⟩
  clear H11 b12 hb12 en R11
  obtain ⟨bk, off, eq, hbk, hc⟩ := (show FRow u12 q6.lo (flatL al4) from H12.out.2.2.1) (by decide)
  have c9 := hc 9 _ rfl
  have t8 := (show Has u12 k6 (llL 3 q6) from H12.out.1.2.2.2.1).at 8 rfl
  rw [eq] at t8
  have s8 := (show Has u12 k9 (llL 2 q9) from H12.out.1.1).at 8 rfl
  have d0 := (show Has u12 k7 [.int .i64 1, .int .i64 1] from H12.out.1.2.2.1).at 0 rfl
  have d1 := (show Has u12 k7 [.int .i64 1, .int .i64 1] from H12.out.1.2.2.1).at 1 rfl
  clear hc eq
  go_wp2_with (go_at_call 8; refine (num_any _ _).mono ?_; rintro e w0 ⟨rfl, hw0⟩; have hw1 := hw0.symm; clear hw0; subst hw1)
  go_ret
  exact ⟨rfl, H12.out.1.base.1⟩

end Go.Proofs.Ytghlegidapmpmaa
