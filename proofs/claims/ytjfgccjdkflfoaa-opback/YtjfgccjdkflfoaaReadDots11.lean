/-
  Package op's reader: a row of dots; unfold; by contracts.
-/
import Derived.Test.YtjfgccjdkflfoaaRead11
namespace Go.Proofs.Ytjfgccjdkflfoaa
open Go.RowKit
set_option linter.unusedVariables false
set_option linter.unusedSimpArgs false

theorem unfold_any (x : Int) (w : World) (h : 0 ≤ x ∧ x < 9223372036854775808) : Calls Try.prog 53 #[.int .i64 x] w fun e w' => e = .returned (.int .i64 (unfI x)) ∧ w' = w := by
  obtain ⟨n, rfl⟩ := Int.eq_ofNat_of_zero_le h.1
  have hn : n < 9223372036854775808 := by omega
  have e1 : Int.tmod (n : Int) 2 = ((n % 2 : Nat) : Int) := by rw [Int.tmod_eq_emod_of_nonneg (by omega)]; omega
  have e2 : Int.tdiv (n : Int) 2 = ((n / 2 : Nat) : Int) := by rw [Int.tdiv_eq_ediv_of_nonneg (by omega)]; omega
  obtain ⟨m, hm⟩ : ∃ m, n / 2 = m := ⟨_, rfl⟩
  rw [hm] at e2
  unfold unfI
  by_cases h2 : n % 2 = 0
  · rw [h2] at e1
    rw [if_pos (by omega)]
    have e3 : (n : Int) / 2 = (m : Int) := by omega
    rw [e3]
    go_enter Try.func53, Try.ntmps53
    go_wp2
    go_ret
    exact ⟨by go_num, rfl⟩
  · have h3 : n % 2 = 1 := by omega
    rw [h3] at e1
    rw [if_neg (by omega)]
    have e3 : (n : Int) / 2 = (m : Int) := by omega
    rw [e3]
    go_enter Try.func53, Try.ntmps53
    go_wp2
    go_ret
    exact ⟨by go_num, rfl⟩

theorem rdr_under {k B : Nat} {s : ByteArray} {z : Option Nat} {w w' : World} (h : Rdr k s z w) (hk : k < B) (hb : Below B w w') : Rdr k s z w' := by
  cases z with
  | none => obtain ⟨a, h, ha⟩ := h; exact ⟨a, h.under hk hb, ha⟩
  | some c => exact ⟨h.1.under hk hb, h.2⟩
theorem ko_above {k B : Nat} {w w1 w2 : World} (h : KO k w w1) (hB : w.heap.size ≤ B) (hk : k < B) (hb : Below B w1 w2) : KO k w w2 :=
  ⟨h.1.trans (hb.mono (Nat.zero_le _)), fun j hj hS => (hb.block j (by omega)).trans (h.2 j hj hS)⟩

theorem rdN_bound {s : List UInt8} {z : Option Nat} : 0 ≤ (rdN s z).1 ∧ (rdN s z).1 < 9223372036854775808 := by
  cases z with
  | none => exact ⟨Int.le_refl _, by show (0 : Int) < _; omega⟩
  | some a =>
    unfold rdN
    simp only
    by_cases h : (Vi.getI s a).2.2 = 0
    · rw [if_pos h]
      have hg : Vi.getI s a = ((Vi.getI s a).1, (Vi.getI s a).2.1, 0) := by rw [← h]
      have := (Vi.getI_ok hg).2.2.1
      simp only
      omega
    · rw [if_neg h]
      simp only
      omega
theorem rdM_len (s : List UInt8) : ∀ (n : Nat) (z : Option Nat), (rdM s n z).1.length = n
  | 0, _ => rfl
  | n + 1, z => by simp [rdM, rdM_len s n z]
theorem rdL_len (s : List UInt8) : ∀ (n : Nat) (z : Option Nat), (rdL s n z).1.length = n
  | 0, _ => rfl
  | n + 1, z => by simp [rdL, rdL_len s n z]

set_option maxHeartbeats 2000000 in
set_option maxRecDepth 100000 in
/-- As many dots as are told. -/
theorem rdots_yes (k : Nat) (s : ByteArray) (z : Option Nat) (w : World) (hs : s.size ≤ maxLen) (h : Rdr k s z w) (h64 : ¬ 64 < (rdN s.data.toList z).1) :
    Calls Try.prog 54 #[.pointer (some ⟨k, 0, none⟩)] w fun e w' => ∃ ao ca, e = .returned (.slice ao (rdM s.data.toList (rdN s.data.toList z).1.toNat (rdN s.data.toList z).2).1.length ca) ∧ w'.ownsRow w.heap.size 23 2 (.slice ao (rdM s.data.toList (rdN s.data.toList z).1.toNat (rdN s.data.toList z).2).1.length ca) (rdM s.data.toList (rdN s.data.toList z).1.toNat (rdN s.data.toList z).2).1.length (flatD (rdM s.data.toList (rdN s.data.toList z).1.toNat (rdN s.data.toList z).2).1) ∧ Rdr k s (rdM s.data.toList (rdN s.data.toList z).1.toNat (rdN s.data.toList z).2).2 w' ∧ KO k w w' := by
  have C1 := rnum_any k s z w hs h
  have hb := rdN_bound (s := s.data.toList) (z := z)
  generalize hz : rdN s.data.toList z = p at C1 hb h64 ⊢
  obtain ⟨m, z1⟩ := p
  clear hz
  simp only at C1 hb h64 ⊢
  obtain ⟨M, rfl⟩ := Int.eq_ofNat_of_zero_le hb.1
  have hM : M ≤ 64 := by omega
  rw [Int.toNat_natCast]
  rw [rdM_len]
  obtain ⟨B, hB⟩ : ∃ B, w.heap.size = B := ⟨_, rfl⟩
  have hkB : k < B := hB ▸ h.lt
  rw [hB]
  have HB : Hid (w.heap.size = B) := hB
  clear hB h h64
  go_enter Try.func54, Try.ntmps54
  go_wp2_with fail
  refine C1.mono ?_
  rintro e w1 ⟨rfl, r1, k1⟩
  have H1 : Hid (Rdr k s z1 w1 ∧ KO k w w1) := ⟨r1, k1⟩
  clear C1 r1 k1
  go_wp2
  go_loopg [4, 13] M (fun n s4 iv wr => ∃ (i : Nat) (ao : Option Addr) (ca : Nat), i + n = M ∧ iv = .int .i64 i ∧ s4 = .slice ao i ca ∧ Hid (wr.ownsRow B 23 2 (.slice ao i ca) i (flatD (rdM s.data.toList i z1).1) ∧ Rdr k s (rdM s.data.toList i z1).2 wr ∧ KO k w wr ∧ B ≤ wr.heap.size))
  case atStart => exact ⟨0, none, 0, by omega, rfl, rfl, own_nil _ _ _ _, H1.out.1, H1.out.2, by rw [← HB.out]; exact Kept.size H1.out.2⟩
  case round =>
    clear H1
    obtain ⟨i, ao, ca, hin, rfl, rfl, HJ⟩ := hrel
    by_cases hi : i < M
    · obtain ⟨l, hl⟩ : ∃ l, (rdM s.data.toList i z1).1 = l := ⟨_, rfl⟩
      obtain ⟨z2, hz2⟩ : ∃ l, (rdM s.data.toList i z1).2 = l := ⟨_, rfl⟩
      have HL : Hid (l.length = i) := by rw [← hl]; exact rdM_len _ _ _
      have HN : Hid ((rdM s.data.toList (i + 1) z1).1 = l ++ [(rdD s.data.toList z2).1] ∧ (rdM s.data.toList (i + 1) z1).2 = (rdD s.data.toList z2).2) := by
        rw [← hl, ← hz2]
        exact ⟨rfl, rfl⟩
      rw [hl, hz2] at HJ
      have C2 := rdot_any k s z2 wr hs HJ.out.2.1
      obtain ⟨⟨x, y⟩, hxy⟩ : ∃ d, (rdD s.data.toList z2).1 = d := ⟨_, rfl⟩
      obtain ⟨z3, hz3⟩ : ∃ d, (rdD s.data.toList z2).2 = d := ⟨_, rfl⟩
      rw [hxy, hz3] at HN C2
      simp only at C2
      clear hl hz2 hxy hz3
      go_wp2_with fail
      refine C2.mono ?_
      rintro e w2 ⟨rfl, r2, k2⟩
      obtain ⟨n2, hn2⟩ : ∃ n, w2.heap.size = n := ⟨_, rfl⟩
      have hB2 : B ≤ n2 := by have := Kept.size k2; have := HJ.out.2.2.2; omega
      have R : Hid (FRow (w2.alloc (.cells #[.int .i64 x, .int .i64 y] 23)) (some ⟨n2, 0, none⟩) [.int .i64 x, .int .i64 y]) := frow_newAt hn2 [.int .i64 x, .int .i64 y] _
      have hal : Below w2.heap.size w2 (w2.alloc (.cells #[.int .i64 x, .int .i64 y] 23)) := (Below.refl _ _).alloc (Nat.le_refl _) _
      have O : Hid ((w2.alloc (.cells #[.int .i64 x, .int .i64 y] 23)).ownsRow B 23 2 (.slice ao i ca) i (flatD l) ∧ Rdr k s z3 (w2.alloc (.cells #[.int .i64 x, .int .i64 y] 23)) ∧ KO k w (w2.alloc (.cells #[.int .i64 x, .int .i64 y] 23))) :=
        ⟨own_later (own_ko HJ.out.1 k2 hkB) hal, r2.later hal, (HJ.out.2.2.1.trans k2).trans (Kept.of hal)⟩
      clear r2 k2 C2 hal
      go_wp2_with (at_builtin; refine wpList_onto rfl _ _ 27 rfl Try.underlying27 Try.infoDot rfl (by decide) (by decide) (B := B) rfl rfl O.out.1 R.out rfl (fun u hu => oneD (l := [(x, y)]) (by simpa [flatD, d2] using hu)) (by omega) (by simp; omega) ?_; intro b2 c2 w3 o3 n3 bb3; have H3 : Hid (w3.ownsRow B 23 2 (.slice b2 (i + 1) c2) (i + 1) (flatD (l ++ [(x, y)])) ∧ Below B (w2.alloc (.cells #[.int .i64 x, .int .i64 y] 23)) w3) := ⟨by rw [flatD_append]; exact o3, bb3⟩; clear o3 n3 bb3)
      go_roundg (gk - 1)
      case measure => omega
      case rel =>
        refine ⟨i + 1, b2, c2, by omega, by go_num, rfl, ?_⟩
        have hb := H3.out.2
        show _ ∧ _ ∧ _ ∧ _
        rw [HN.out.1, HN.out.2]
        refine ⟨H3.out.1, rdr_under O.out.2.1 hkB hb, ko_above O.out.2.2 (by rw [HB.out]; exact Nat.le_refl _) hkB hb, by have := hb.size; simp at this; omega⟩
    · have hd : decide ((i : Int) < (M : Int)) = false := by simp; omega
      have hiM : i = M := by omega
      subst hiM
      go_wp2
      go_ret
      exact ⟨ao, ca, rfl, HJ.out.1, HJ.out.2.1, HJ.out.2.2.1⟩

end Go.Proofs.Ytjfgccjdkflfoaa
