/-
  The walk of the law PairSums: sums of small pairs hang on no row, and are those of their parts.
-/
import Derived.Test.YthogncopedfmmaaDoorPaSum
namespace Go.Proofs.YthogncopedfmmaaDoor.PairSums
open Go.RowKit
set_option linter.unusedVariables false

theorem own_form2 {w : World} {B n : Nat} {v : Value} {xs : List Value} (hown : w.ownsRow B 23 2 v n xs) : ∃ ao cap, v = .slice ao n cap := by
  rcases hown.2 with ⟨rfl, h0⟩ | ⟨g, cap, cur, rfl, _⟩
  · exact ⟨none, 0, by rw [h0]⟩
  · exact ⟨_, _, rfl⟩

/-- What the first loop keeps. -/
def Up (w0 : World) (n i : Nat) (v : Value) (w : World) : Prop :=
  ∃ U : List P2, U.length = i ∧ Small U ∧ w.ownsRow (n + 1) 23 2 v U.length (flat U) ∧ Below w0.heap.size w0 w ∧ Two w n (sum1 U) (sum2 U)

/-- What the second loop keeps: the pairs from place j on, from the last one down. -/
def Down (w0 : World) (U : List P2) (j : Nat) (v : Value) (w : World) : Prop :=
  w.ownsRow w0.heap.size 23 2 v (U.drop j).reverse.length (flat (U.drop j).reverse) ∧ Below w0.heap.size w0 w

theorem down_start {wo wr : World} (h : wo = wr) (U : List P2) : Down wo U U.length (.slice none 0 0) wr := by
  subst h
  refine ⟨?_, Below.refl _ _⟩
  rw [List.drop_length]
  exact pown_none _ _

theorem down_step (U : List P2) (k : Nat) (h : k < U.length) : (U.drop k).reverse = (U.drop (k + 1)).reverse ++ [((at2 U k).1, (at2 U k).2)] := by
  rw [drop_at U k h, List.reverse_cons]

set_option maxHeartbeats 2000000 in
set_option maxRecDepth 100000 in
theorem core (ao : Option Addr) (ca : Nat) (ps : List P2) (w : World) (hr : PRow w ao ps) (hl : ps.length ≤ maxLen) (ht : Tab w) :
    Calls Tryd.prog 4 #[.slice ao ps.length ca] w fun e w' => e = .returned (.bool true) ∧ Below w.heap.size w w' := by
  have HP : Hid (PRow w ao ps) := hr
  unfold maxLen at hl
  go_enter Tryd.func4, Tryd.ntmps4
  go_wp2_with fail
  refine (awake_any _ ht).mono ?_
  rintro e w1 ⟨rfl, k1⟩
  clear hr ht
  obtain ⟨n, hn⟩ : ∃ n, w1.heap.size = n := ⟨_, rfl⟩
  have HN : Hid (w.heap.size ≤ n) := by rw [← hn]; exact k1.size
  have U0 : Hid (Up w n 0 (.slice none 0 0) (w1.alloc (.cells #[.int .i64 0, .int .i64 0] 23))) :=
    ⟨[], rfl, fun p hp => by simp at hp, pown_none _ _, thenB k1 ((Below.refl _ _).alloc (Nat.le_refl _) _), hn ▸ two_new w1 0 0 23⟩
  obtain ⟨N, hN1, hN2, hN3⟩ : ∃ N : Nat, N ≤ ps.length ∧ N ≤ 100 ∧ (N = ps.length ∨ N = 100) := by
    by_cases h : ps.length ≤ 100
    · exact ⟨ps.length, by omega, h, Or.inl rfl⟩
    · exact ⟨100, by omega, by omega, Or.inr rfl⟩
  clear k1
  go_wp2_with fail
  go_loopg [3, 6] N (fun m v iv wr => ∃ i : Nat, (∃ ao cap, v = .slice ao i cap) ∧ i + m = N ∧ iv = .int .i64 i ∧ Hid (Up w n i v wr))
  case atStart => exact ⟨0, ⟨none, 0, rfl⟩, by omega, rfl, U0.out⟩
  case round =>
    clear U0 hn
    obtain ⟨i, ⟨uo, uc, rfl⟩, hiN, rfl, HU⟩ := hrel
    by_cases hi : i < N
    · have hi1 : i < ps.length := by omega
      have hi2 : i < 100 := by omega
      obtain ⟨U, hUl, hUs, hown, hbel, hw⟩ := HU.out
      obtain ⟨bk, off, rfl, hb, hc⟩ := HP.out (by omega)
      obtain ⟨x, ex, bx⟩ := rem_num (at2 ps i).1
      obtain ⟨y, ey, by2⟩ := rem_num (at2 ps i).2
      have hx1 := (hbel.cell (p := ⟨bk, off + i * 2, none⟩) (by exact hb)).trans (hc i hi1).1
      have hx2 := (hbel.cell (p := ⟨bk, off + i * 2 + 1, none⟩) (by exact hb)).trans (hc i hi1).2
      obtain ⟨h, hh⟩ : ∃ h, wr.heap.size = h := ⟨_, rfl⟩
      have hbh : bk < h := by rw [← hh]; exact Nat.lt_of_lt_of_le hb hbel.size
      have HV : Hid (U.length = i ∧ Small U ∧ wr.ownsRow (n + 1) 23 2 (.slice uo i uc) U.length (flat U) ∧ Below w.heap.size w wr ∧ Two wr n (sum1 U) (sum2 U)) := ⟨hUl, hUs, hown, hbel, hw⟩
      clear hc hUl hUs hown hbel hw HU
      go_wp2_with fail
      go_region
      obtain ⟨s1, es1⟩ : ∃ s, s = sum1 U := ⟨_, rfl⟩
      obtain ⟨s2, es2⟩ : ∃ s, s = sum2 U := ⟨_, rfl⟩
      obtain ⟨W2, hW2⟩ : ∃ W2, W2 = (wr.alloc (.cells #[.int .i64 x, .int .i64 y] 23)).drew := ⟨_, rfl⟩
      have hnh : n < h := by rw [← hh]; exact HV.out.2.2.2.2.1
      have H2 : Hid (W2.heap.size = h + 1 ∧ Two W2 h x y ∧ Two W2 n s1 s2 ∧ W2.ownsRow (n + 1) 23 2 (.slice uo i uc) U.length (flat U) ∧ Below w.heap.size w W2 ∧ (∀ k, (Value.slice uo i uc).ownBlock = some k → k < h)) := by
        obtain ⟨_, _, v3, v4, v5⟩ := HV.out
        rw [hW2, es1, es2]
        refine ⟨by simp [hh], ?_, (v5.alloc _).drew, (v3.alloc _).drew, (thenB v4 ((Below.refl _ _).alloc (Nat.le_refl _) _)).drew, fun k hk => by rw [← hh]; exact own_lt v3 k hk⟩
        have := (two_new wr x y 23).drew
        rwa [hh] at this
      have hbs : (-109951162777600 ≤ s1 ∧ s1 ≤ 109951162777600) ∧ (-109951162777600 ≤ s2 ∧ s2 ≤ 109951162777600) := by
        have := small_bounds HV.out.2.1
        have e := HV.out.1
        rw [es1, es2]
        generalize U.length = q at this e
        omega
      have HE : Hid (s1 = sum1 U ∧ s2 = sum2 U) := ⟨es1, es2⟩
      rw [← hW2]
      clear hW2 es1 es2 hx1 hx2 hh hbh ex ey
      obtain ⟨z1, ⟨_, q1, q2, _, _⟩, _⟩ := id H2.out
      have hne1 : ¬ n = h := by omega
      have hne2 : ¬ h = n := by omega
      go_wp2_with (at_builtin; refine wpList_append_pair2 rfl _ _ rfl (l := U) (H := h + 1) z1 x y rfl rfl H2.out.2.2.2.1 (by have := HV.out.1; omega) (by rw [z1]; omega) ?_; intro g cap w' hown' hbel' hkeep; have TP := hkeep h x y H2.out.2.1 (fun e => by have := H2.out.2.2.2.2.2 h e; omega); have TW := hkeep n s1 s2 H2.out.2.2.1 (fun e => by have := (H2.out.2.2.2.1.lt n e).1; omega); obtain ⟨_, t1, t2, _, _⟩ := id TP; obtain ⟨_, t3, t4, t5, t6⟩ := id TW)
      go_roundg (gk - 1)
      case measure => omega
      case rel =>
        obtain ⟨v1, v2, _, _, _⟩ := HV.out
        obtain ⟨_, _, _, _, v4, _⟩ := H2.out
        refine ⟨i + 1, ⟨some ⟨g, 0, none⟩, cap, by rw [v1]⟩, by omega, by go_num, U ++ [(x, y)], by simp [v1], v2.snoc bx by2, own_set (own_set hown' (by omega)) (by omega), ?_, ?_⟩
        · have hle := HN.out
          exact ((v4.trans (hbel'.mono (by omega))).setCell (p := ⟨n, 0, none⟩) hle _).setCell (p := ⟨n, 1, none⟩) hle _
        · have e1 : sum1 (U ++ [(x, y)]) = s1 + x := by rw [sum1_append, ← HE.out.1]; simp [sum1]
          have e2 : sum2 (U ++ [(x, y)]) = s2 + y := by rw [sum2_append, ← HE.out.2]; simp [sum2]
          rw [e1, e2]
          exact two_set1 (two_set0 TW _) _
    · have hiN2 : i = N := by omega
      have hdec : ¬ (i < ps.length ∧ i < 100) := by omega
      obtain ⟨U, hUl, hUs, hown, hbel, hw⟩ := HU.out
      obtain ⟨_, _, eu, hpo⟩ := pown_at hown
      simp only [Value.slice.injEq] at eu
      obtain ⟨rfl, _, rfl⟩ := eu
      have hU100 : U.length ≤ 100 := by omega
      have HV : Hid (Small U ∧ PRow wr uo U ∧ Below w.heap.size w wr ∧ Two wr n (sum1 U) (sum2 U) ∧ U.length ≤ 100) := ⟨hUs, hpo.row, hbel, hw, hU100⟩
      subst hUl
      subst hiN2
      clear hUs hown hbel hw HU hpo hU100
      obtain ⟨wo, hwo⟩ : ∃ wo, wo = wr := ⟨_, rfl⟩
      rw [← hwo] at HV
      have HO : Hid (wo = wr) := hwo
      clear hwo
      by_cases hlen : U.length < ps.length
      case' pos =>
        have hd2 : ¬ U.length < 100 := by omega
        go_wp2_with fail
      case' neg => go_wp2_with fail
      all_goals
        (go_loopg [4, 8] U.length (fun m v iv wr => ∃ j : Nat, j = m ∧ j ≤ U.length ∧ (∃ ao cap, v = .slice ao (U.length - j) cap) ∧ iv = .int .i64 ((j : Int) - 1) ∧ Hid (Down wo U j v wr))
         case atStart => exact ⟨U.length, rfl, Nat.le_refl _, ⟨none, 0, by simp⟩, by first | rfl | go_num, down_start (HO.out) U⟩
         case round =>
           clear HO hiN hdec hi hlen hN1 hN2 hN3
           obtain ⟨j, hjm, hjU, ⟨dn, dc, rfl⟩, hiv, HD⟩ := hrel
           have HJ : Hid (j = gk) := hjm
           clear hjm
           cases j with
           | succ k =>
             have e : ((k + 1 : Nat) : Int) - 1 = (k : Int) := by omega
             rw [e] at hiv
             subst hiv
             have hk : k < U.length := by omega
             have hk100 : k < 100 := by have := HV.out.2.2.2.2; omega
             obtain ⟨bk, off, rfl, hb, hc⟩ := HV.out.2.1 (by omega)
             obtain ⟨x, ex⟩ : ∃ x, x = (at2 U k).1 := ⟨_, rfl⟩
             obtain ⟨y, ey⟩ : ∃ y, y = (at2 U k).2 := ⟨_, rfl⟩
             have hx1 := (HD.out.2.cell (p := ⟨bk, off + k * 2, none⟩) (by exact hb)).trans (hc k hk).1
             have hx2 := (HD.out.2.cell (p := ⟨bk, off + k * 2 + 1, none⟩) (by exact hb)).trans (hc k hk).2
             rw [← ex] at hx1
             rw [← ey] at hx2
             have HE : Hid (x = (at2 U k).1 ∧ y = (at2 U k).2) := ⟨ex, ey⟩
             clear hc ex ey
             have hsz : wo.heap.size ≤ wr.heap.size := HD.out.2.size
             go_wp2_with (at_builtin; refine wpList_append_pair rfl _ _ rfl (l := (U.drop (k + 1)).reverse) x y rfl rfl HD.out.1 (by have := HV.out.2.2.2.2; simp; omega) hsz ?_; intro g cap w' hown' hbel'; rw [show (U.drop (k + 1)).reverse.length = U.length - (k + 1) from by simp] at hown' ⊢)
             go_roundg k
             case measure => have := HJ.out; omega
             case rel =>
               refine ⟨k, rfl, by omega, ⟨some ⟨g, 0, none⟩, cap, ?_⟩, by first | rfl | go_num, ?_, HD.out.2.trans hbel'⟩
               · have e2 : U.length - (k + 1) + 1 = U.length - k := by omega
                 rw [e2]
               · rw [down_step U k hk, ← HE.out.1, ← HE.out.2]
                 exact hown'
           | zero =>
             have e : ((0 : Nat) : Int) - 1 = -1 := by omega
             rw [e] at hiv
             subst hiv
             obtain ⟨_, _, eu, hpo⟩ := pown_at HD.out.1
             simp only [Value.slice.injEq] at eu
             obtain ⟨rfl, _, rfl⟩ := eu
             obtain ⟨s1, es1⟩ : ∃ s, s = sum1 U := ⟨_, rfl⟩
             obtain ⟨s2, es2⟩ : ∃ s, s = sum2 U := ⟨_, rfl⟩
             have H1 : Hid (Below w.heap.size w wr ∧ Reg wr [(n, s1, s2)] ∧ PRow wr uo U ∧ PRow wr dn U.reverse) := by
               obtain ⟨_, v2, v3, v4, _⟩ := HV.out
               rw [es1, es2]
               have := hpo.row
               rw [List.drop_zero] at this
               exact ⟨thenB v3 HD.out.2, ⟨v4.later HD.out.2, trivial⟩, v2.later HD.out.2, this⟩
             have hbs : (-109951162777600 ≤ s1 ∧ s1 ≤ 109951162777600) ∧ (-109951162777600 ≤ s2 ∧ s2 ≤ 109951162777600) := by
               have h1 := small_bounds HV.out.1
               have h2 := HV.out.2.2.2.2
               rw [es1, es2]
               generalize U.length = q at h1 h2
               omega
             have CS : ∀ (ao : Option Addr) (ca : Nat) (w : World), PRow w ao U → Calls Tryd.prog 11 #[.slice ao U.length ca] w fun e w' => e = .returned (.tuple #[pv s1 s2, .int .i64 0]) ∧ Below w.heap.size w w' := fun ao ca w h => gsum_any ao ca U w h (by have := HV.out.2.2.2.2; unfold maxLen; omega) (by rw [es1, es2]; exact sumF_is HV.out.1 HV.out.2.2.2.2)
             have CD : ∀ (ao : Option Addr) (ca : Nat) (w : World), PRow w ao U.reverse → Calls Tryd.prog 11 #[.slice ao U.length ca] w fun e w' => e = .returned (.tuple #[pv s1 s2, .int .i64 0]) ∧ Below w.heap.size w w' := fun ao ca w h => by
               have := gsum_any ao ca U.reverse w h (by have := HV.out.2.2.2.2; unfold maxLen; simp; omega) (X := s1) (Y := s2) (E := 0) (by rw [es1, es2, ← (sums_reverse U).1, ← (sums_reverse U).2]; exact sumF_is HV.out.1.reverse (by have := HV.out.2.2.2.2; simp; omega))
               rwa [List.length_reverse] at this
             clear es1 es2 HD HV hpo
             go_wp2_with fail
             refine (CS _ _ _ H1.out.2.2.1).mono ?_
             rintro e w2 ⟨rfl, k2⟩
             have H2 : Hid (Below w.heap.size w w2 ∧ Reg w2 [(n, s1, s2)] ∧ PRow w2 dn U.reverse) := ⟨thenB H1.out.1 k2, H1.out.2.1.later k2, H1.out.2.2.2.later k2⟩
             clear H1 k2 CS
             obtain ⟨h2, e2⟩ : ∃ h, w2.heap.size = h := ⟨_, rfl⟩
             go_wp2_with fail
             refine (CD _ _ _ (H2.out.2.2.later ((Below.refl _ _).alloc (Nat.le_refl _) _))).mono ?_
             rintro e w3 ⟨rfl, k3⟩
             have H3 : Hid (Below w.heap.size w w3 ∧ Reg w3 [(h2, s1, s2), (n, s1, s2)]) := ⟨thenA H2.out.1 k3, (H2.out.2.1.push e2 _ _ _).later k3⟩
             clear H2 k3 CD e2
             obtain ⟨h3, e3⟩ : ∃ h, w3.heap.size = h := ⟨_, rfl⟩
             obtain ⟨_, ⟨l1, p1, p2, _, _⟩, _⟩ := id H3.out
             rw [e3] at l1
             go_wp2_with fail
             refine (gadd_small 0 0 (by omega) (by omega) (by omega) (by omega) (by omega) (by omega) _).mono ?_
             rintro e w4 ⟨rfl, k4⟩
             have H4 : Hid (Below w.heap.size w w4 ∧ Reg w4 [(h3, s1, s2), (h2, s1, s2), (n, s1, s2)]) := ⟨thenA H3.out.1 k4, (H3.out.2.push e3 _ _ _).later k4⟩
             clear H3 k4 e3 p1 p2 l1
             obtain ⟨h4, e4⟩ : ∃ h, w4.heap.size = h := ⟨_, rfl⟩
             obtain ⟨_, ⟨l1, p1, p2, _, _⟩, ⟨l2, p3, p4, _, _⟩, ⟨l3, p5, p6, _, _⟩, _⟩ := id H4.out
             rw [e4] at l1 l2 l3
             go_wp2_with (first | (go_at_call 14; refine (num_any _ _).mono ?_; rintro e wz ⟨rfl, rfl⟩) | fail)
             go_ret
             exact ⟨rfl, H4.out.1.alloc H4.out.1.size _⟩)

theorem walk {H : Type} {enc : TypeId × Value → H} {base : Nat} {d0 : DataW H} {p0 : List MemPlace} (v0 : Value) (w : World)
    (o0 : Value.okWide Tryd.prog w .any base 24 v0) (h0 : DataW.Trod enc Tryd.prog w 0 (fun _ => true) true 24 v0 d0 p0) (ht : Tab w) :
    Calls Tryd.prog 4 #[v0] w fun e w' => e = .returned (.bool true) ∧ Below w.heap.size w w' := by
  obtain ⟨ps, ao, cap, rfl, hm, hr, _, _⟩ := isPairs_of o0 h0
  exact core ao cap ps w hr hm ht

end Go.Proofs.YthogncopedfmmaaDoor.PairSums
