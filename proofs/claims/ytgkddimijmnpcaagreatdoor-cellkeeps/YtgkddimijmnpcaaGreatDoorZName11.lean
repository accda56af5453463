/-
  What a name is: package name's May and the document's NameMay, by contracts over the text's bytes.
-/
import Derived.Test.YtgkddimijmnpcaaGreatDoorZPack1
import Derived.Deep.LoopGhost
namespace Go.Proofs.YtgkddimijmnpcaaGreatDoor
open Go.RowKit
set_option linter.unusedVariables false

def letN (x : Nat) : Bool := decide (65 ≤ x) && decide (x ≤ 90) || decide (97 ≤ x) && decide (x ≤ 122)
def digN (x : Nat) : Bool := decide (48 ≤ x) && decide (x ≤ 57)
def chrN (x : Nat) : Bool := letN x || digN x || x == 95
/-- Is it a name? -/
def nameB (s : ByteArray) : Bool := decide (1 ≤ s.size ∧ s.size ≤ 32) && !(digN (s.data.toList.headD 0).toNat) && s.data.toList.all fun b => chrN b.toNat

theorem letter_any (b : Nat) (w : World) (hb : b < 256) : Calls Tryz.prog 131 #[.int .u8 b] w fun e w' => e = .returned (.bool (letN b)) ∧ w' = w := by
  by_cases h1 : 65 ≤ b
  · by_cases h2 : b ≤ 90
    · go_enter Tryz.func131, Tryz.ntmps131
      go_wp2
      all_goals (go_ret; exact ⟨ret_bool (by unfold letN; simp; try omega), rfl⟩)
    · by_cases h3 : 97 ≤ b
      · go_enter Tryz.func131, Tryz.ntmps131
        go_wp2
        all_goals (go_ret; exact ⟨ret_bool (by unfold letN; rw [Bool.eq_iff_iff]; simp; try omega), rfl⟩)
      · go_enter Tryz.func131, Tryz.ntmps131
        go_wp2
        all_goals (go_ret; exact ⟨ret_bool (by unfold letN; rw [Bool.eq_iff_iff]; simp; try omega), rfl⟩)
  · go_enter Tryz.func131, Tryz.ntmps131
    go_wp2
    all_goals (go_ret; exact ⟨ret_bool (by unfold letN; rw [Bool.eq_iff_iff]; simp; try omega), rfl⟩)

theorem digit_any (b : Nat) (w : World) (hb : b < 256) : Calls Tryz.prog 130 #[.int .u8 b] w fun e w' => e = .returned (.bool (digN b)) ∧ w' = w := by
  by_cases h1 : 48 ≤ b
  · go_enter Tryz.func130, Tryz.ntmps130
    go_wp2
    all_goals (go_ret; exact ⟨ret_bool (by unfold digN; rw [Bool.eq_iff_iff]; simp; try omega), rfl⟩)
  · go_enter Tryz.func130, Tryz.ntmps130
    go_wp2
    all_goals (go_ret; exact ⟨ret_bool (by unfold digN; rw [Bool.eq_iff_iff]; simp; try omega), rfl⟩)

theorem headN {s : ByteArray} (h : 0 < s.size) : s.data.toList.headD 0 = s[0] := by
  obtain ⟨⟨l⟩⟩ := s
  cases l with
  | nil => simp [ByteArray.size] at h
  | cons a l => rfl
theorem allN {s : ByteArray} (h : ∀ i (hi : i < s.size), chrN s[i].toNat = true) : (s.data.toList.all fun b => chrN b.toNat) = true := by
  rw [List.all_eq_true]
  intro b hb
  obtain ⟨i, hi, rfl⟩ := List.getElem_of_mem hb
  have h1 : i < s.size := by simpa using hi
  have e : s.data.toList[i] = s[i] := by rw [Array.getElem_toList]; rfl
  rw [e]
  exact h i h1
theorem notN {s : ByteArray} {i : Nat} (hi : i < s.size) (h : chrN s[i].toNat = false) : (s.data.toList.all fun b => chrN b.toNat) = false := by
  rw [List.all_eq_false]
  have hi2 : i < s.data.toList.length := by simpa using hi
  have e : s.data.toList[i] = s[i] := by rw [Array.getElem_toList]; rfl
  exact ⟨s[i], e ▸ List.getElem_mem hi2, by rw [h]; simp⟩
theorem full_of {s : ByteArray} (h : ¬ s.size = 0) : s.toList.isEmpty = false := by
  rw [ByteArray.toList_eq, List.isEmpty_eq_false_iff]
  intro e
  have : s.data.toList.length = 0 := by rw [e]; rfl
  exact h (by simpa using this)
theorem none_of {s : ByteArray} (h : s.size = 0) : s = ⟨#[]⟩ := by
  apply ByteArray.ext
  exact Array.eq_empty_of_size_eq_zero h

set_option maxHeartbeats 400000 in
set_option maxRecDepth 100000 in
theorem nmay_any (s : ByteArray) (w : World) (hs : s.size ≤ maxLen) : Calls Tryz.prog 95 #[.string s] w fun e w' => e = .returned (.bool (nameB s)) ∧ w' = w := by
  unfold maxLen at hs
  obtain ⟨r, hr⟩ : ∃ r, nameB s = r := ⟨_, rfl⟩
  rw [hr]
  have HR : Hid (nameB s = r) := hr
  clear hr
  by_cases h0 : s.size = 0
  · obtain rfl := none_of h0
    go_enter Tryz.func95, Tryz.ntmps95
    go_wp2
    go_ret
    exact ⟨by rw [← HR.out]; rfl, rfl⟩
  · have hne := full_of h0
    by_cases h1 : 32 < s.size
    · go_enter Tryz.func95, Tryz.ntmps95
      go_wp2
      go_ret
      exact ⟨ret_bool (by rw [← HR.out]; unfold nameB; simp; intro h; omega), rfl⟩
    · have hp : 0 < s.size := by omega
      by_cases hdg : digN s[0].toNat = true
      · go_enter Tryz.func95, Tryz.ntmps95
        go_wp2_with (go_at_call 130; refine (digit_any _ _ (UInt8.toNat_lt _)).mono ?_; rintro e w1 ⟨rfl, hw0⟩; have hw1 := hw0.symm; clear hw0; subst hw1)
        go_ret
        exact ⟨ret_bool (by rw [← HR.out]; unfold nameB; rw [headN hp, hdg]; simp), rfl⟩
      · replace hdg : digN s[0].toNat = false := by simpa using hdg
        have HD : Hid (digN s[0].toNat = false) := hdg
        have hr2 : r = s.data.toList.all fun b => chrN b.toNat := by
          rw [← HR.out]; unfold nameB; rw [headN hp, hdg]
          have : decide (1 ≤ s.size ∧ s.size ≤ 32) = true := by simp; omega
          rw [this]; simp
        have HR2 : Hid (r = s.data.toList.all fun b => chrN b.toNat) := hr2
        clear hr2 HR
        go_enter Tryz.func95, Tryz.ntmps95
        go_wp2_with (go_at_call 130; refine (digit_any _ _ (UInt8.toNat_lt _)).mono ?_; rintro e w1 ⟨rfl, hw0⟩; have hw1 := hw0.symm; clear hw0; subst hw1)
        clear hdg
        go_loopg [3, 18] s.size (fun n _ iv wr => ∃ i : Nat, i + n = s.size ∧ iv = .int .i64 i ∧ wr = w ∧ Hid (∀ j (hj : j < s.size), j < i → chrN s[j].toNat = true))
        case atStart => exact ⟨0, by omega, rfl, rfl, fun j _ hj => by omega⟩
        case round =>
          obtain ⟨i, hin, rfl, rfl, HJ⟩ := hrel
          by_cases hi : i < s.size
          · by_cases hl : letN s[i].toNat = true
            · go_wp2_with (go_at_call 131; refine (letter_any _ _ (UInt8.toNat_lt _)).mono ?_; rintro e w1 ⟨rfl, hw0⟩; have hw1 := hw0.symm; clear hw0; subst hw1)
              go_roundg (gk - 1)
              case measure => omega
              case rel => exact ⟨i + 1, by omega, by go_num, rfl, fun j hj1 hj2 => by
                by_cases e : j = i
                · subst e; unfold chrN; rw [hl]; simp
                · exact HJ.out j hj1 (by omega)⟩
            · replace hl : letN s[i].toNat = false := by simpa using hl
              by_cases hd : digN s[i].toNat = true
              · go_wp2_with (first | (go_at_call 131; refine (letter_any _ _ (UInt8.toNat_lt _)).mono ?_; rintro e w1 ⟨rfl, hw0⟩; have hw1 := hw0.symm; clear hw0; subst hw1) | (go_at_call 130; refine (digit_any _ _ (UInt8.toNat_lt _)).mono ?_; rintro e w1 ⟨rfl, hw0⟩; have hw1 := hw0.symm; clear hw0; subst hw1))
                go_roundg (gk - 1)
                case measure => omega
                case rel => exact ⟨i + 1, by omega, by go_num, rfl, fun j hj1 hj2 => by
                  by_cases e : j = i
                  · subst e; unfold chrN; rw [hd]; simp
                  · exact HJ.out j hj1 (by omega)⟩
              · replace hd : digN s[i].toNat = false := by simpa using hd
                by_cases h95 : s[i].toNat = 95
                · have hb : (s[i].toNat != 95) = false := by rw [h95]; rfl
                  have HB : Hid (s[i].toNat = 95) := h95
                  have hb2 : ((s[i].toNat : Int) != 95) = false := by rw [h95]; rfl
                  clear h95
                  go_wp2_with (first | (go_at_call 131; refine (letter_any _ _ (UInt8.toNat_lt _)).mono ?_; rintro e w1 ⟨rfl, hw0⟩; have hw1 := hw0.symm; clear hw0; subst hw1) | (go_at_call 130; refine (digit_any _ _ (UInt8.toNat_lt _)).mono ?_; rintro e w1 ⟨rfl, hw0⟩; have hw1 := hw0.symm; clear hw0; subst hw1))
                  go_roundg (gk - 1)
                  case measure => omega
                  case rel => exact ⟨i + 1, by omega, by go_num, rfl, fun j hj1 hj2 => by
                    by_cases e : j = i
                    · subst e; unfold chrN; rw [HB.out]; simp
                    · exact HJ.out j hj1 (by omega)⟩
                · have hb2 : ((s[i].toNat : Int) != 95) = true := by rw [bne_iff_ne]; omega
                  have HB : Hid (chrN s[i].toNat = false) := by unfold Hid chrN; rw [hl, hd]; simpa using h95
                  go_wp2_with (first | (go_at_call 131; refine (letter_any _ _ (UInt8.toNat_lt _)).mono ?_; rintro e w1 ⟨rfl, hw0⟩; have hw1 := hw0.symm; clear hw0; subst hw1) | (go_at_call 130; refine (digit_any _ _ (UInt8.toNat_lt _)).mono ?_; rintro e w1 ⟨rfl, hw0⟩; have hw1 := hw0.symm; clear hw0; subst hw1))
                  go_ret
                  exact ⟨ret_bool (by rw [HR2.out, notN hi HB.out]), rfl⟩
          · go_wp2
            go_ret
            exact ⟨ret_bool (by rw [HR2.out, allN fun j hj => HJ.out j hj (by omega)]), rfl⟩

/-- May byte c stand at place j? -/
def okR (j c : Nat) : Bool := letN c || c == 95 || decide (0 < j) && digN c
theorem allR {s : ByteArray} (hp : 0 < s.size) : (∀ j (hj : j < s.size), okR j s[j].toNat = true) ↔ ((!digN s[0].toNat) && s.data.toList.all fun b => chrN b.toNat) = true := by
  have hx : ∀ c, letN c = true → digN c = false := fun c h => by
    unfold letN at h
    unfold digN
    simp at h ⊢
    omega
  constructor
  · intro h
    have h0 := h 0 hp
    have e : digN s[0].toNat = false := by
      unfold okR at h0
      simp at h0
      rcases h0 with h0 | h0
      · exact hx _ h0
      · rw [h0]; rfl
    rw [e, allN fun j hj => ?_]
    · rfl
    · have := h j hj
      unfold okR at this
      unfold chrN
      simp at this ⊢
      rcases this with (h1 | h1) | h1
      · exact Or.inl (Or.inl h1)
      · exact Or.inr h1
      · exact Or.inl (Or.inr h1.2)
  · intro h j hj
    simp only [Bool.and_eq_true, Bool.not_eq_true'] at h
    have h1 : chrN s[j].toNat = true := by
      by_cases e : chrN s[j].toNat = true
      · exact e
      · have := notN hj (by simpa using e)
        rw [this] at h
        exact absurd h.2 (by simp)
    unfold chrN at h1
    unfold okR
    simp at h1 ⊢
    rcases h1 with (h1 | h1) | h1
    · exact Or.inl (Or.inl h1)
    · by_cases e : j = 0
      · subst e
        rw [h.1] at h1
        cases h1
      · exact Or.inr ⟨by omega, h1⟩
    · exact Or.inl (Or.inr h1)

set_option maxHeartbeats 1000000 in
set_option maxRecDepth 100000 in
theorem nref_any (s : ByteArray) (w : World) (hs : s.size ≤ maxLen) : Calls Tryz.prog 67 #[.string s] w fun e w' => e = .returned (.bool (nameB s)) ∧ w' = w := by
  unfold maxLen at hs
  obtain ⟨r, hr⟩ : ∃ r, nameB s = r := ⟨_, rfl⟩
  rw [hr]
  have HR : Hid (nameB s = r) := hr
  clear hr
  go_enter Tryz.func67, Tryz.ntmps67
  go_wp2
  go_loopg [3, 4] s.size (fun n iv _ wr => ∃ i : Nat, i + n = s.size ∧ iv = .int .i64 i ∧ wr = w ∧ Hid (∀ j (hj : j < s.size), j < i → okR j s[j].toNat = true))
  case atStart => exact ⟨0, by omega, rfl, rfl, fun j _ hj => by omega⟩
  case round =>
    obtain ⟨i, hin, rfl, rfl, HJ⟩ := hrel
    by_cases hi : i < s.size
    · obtain ⟨c, hc⟩ : ∃ c, s[i].toNat = c := ⟨_, rfl⟩
      have HC : Hid (s[i].toNat = c) := hc
      have hc2 : (s[i].toNat : Int) = (c : Int) := by rw [hc]
      clear hc
      have hgood : Hid (okR i c = true → ∀ j (hj : j < s.size), j < i + 1 → okR j s[j].toNat = true) := fun h j hj1 hj2 => by
        by_cases e : j = i
        · subst e; rw [HC.out]; exact h
        · exact HJ.out j hj1 (by omega)
      have hbad : Hid (okR i c = false → r = false) := fun h => by
        rw [← HR.out]
        have hp : 0 < s.size := by omega
        have h2 : ¬ ((!digN s[0].toNat) && s.data.toList.all fun b => chrN b.toNat) = true := fun h3 => by
          have h4 := (allR hp).2 h3 i hi
          rw [HC.out, h] at h4
          cases h4
        unfold nameB
        rw [headN hp, Bool.and_assoc, Bool.eq_false_iff.2 h2]
        simp
      have hpart : c ≤ 47 ∨ (48 ≤ c ∧ c ≤ 57) ∨ (58 ≤ c ∧ c ≤ 64) ∨ (65 ≤ c ∧ c ≤ 90) ∨ (91 ≤ c ∧ c ≤ 94) ∨ c = 95 ∨ c = 96 ∨ (97 ≤ c ∧ c ≤ 122) ∨ 123 ≤ c := by omega
      clear HC
      rcases hpart with h | ⟨h, h'⟩ | ⟨h, h'⟩ | ⟨h, h'⟩ | ⟨h, h'⟩ | h | h | ⟨h, h'⟩ | h
      · have d65 : decide ((65 : Int) ≤ (c : Int)) = false := by simp; omega
        have d90 : decide ((c : Int) ≤ 90) = true := by simp; omega
        have d97 : decide ((97 : Int) ≤ (c : Int)) = false := by simp; omega
        have d122 : decide ((c : Int) ≤ 122) = true := by simp; omega
        have d48 : decide ((48 : Int) ≤ (c : Int)) = false := by simp; omega
        have d57 : decide ((c : Int) ≤ 57) = true := by simp; omega
        have hq : ((c : Int) == 95) = false := by rw [beq_eq_false_iff_ne]; omega
        go_wp2
        all_goals (go_ret; exact ⟨ret_bool (hbad.out (by unfold okR letN digN; simp; try omega)).symm, rfl⟩)
      · have d65 : decide ((65 : Int) ≤ (c : Int)) = false := by simp; omega
        have d90 : decide ((c : Int) ≤ 90) = true := by simp; omega
        have d97 : decide ((97 : Int) ≤ (c : Int)) = false := by simp; omega
        have d122 : decide ((c : Int) ≤ 122) = true := by simp; omega
        have d48 : decide ((48 : Int) ≤ (c : Int)) = true := by simp; omega
        have d57 : decide ((c : Int) ≤ 57) = true := by simp; omega
        have hq : ((c : Int) == 95) = false := by rw [beq_eq_false_iff_ne]; omega
        by_cases h0 : 0 < i
        · go_wp2
          go_roundg (gk - 1)
          case measure => omega
          case rel => exact ⟨i + 1, by omega, by go_num, rfl, hgood.out (by unfold okR letN digN; simp; try omega)⟩
        · go_wp2
          go_ret
          exact ⟨ret_bool (hbad.out (by unfold okR letN digN; simp; try omega)).symm, rfl⟩
      · have d65 : decide ((65 : Int) ≤ (c : Int)) = false := by simp; omega
        have d90 : decide ((c : Int) ≤ 90) = true := by simp; omega
        have d97 : decide ((97 : Int) ≤ (c : Int)) = false := by simp; omega
        have d122 : decide ((c : Int) ≤ 122) = true := by simp; omega
        have d48 : decide ((48 : Int) ≤ (c : Int)) = true := by simp; omega
        have d57 : decide ((c : Int) ≤ 57) = false := by simp; omega
        have hq : ((c : Int) == 95) = false := by rw [beq_eq_false_iff_ne]; omega
        go_wp2
        all_goals (go_ret; exact ⟨ret_bool (hbad.out (by unfold okR letN digN; simp; try omega)).symm, rfl⟩)
      · have d65 : decide ((65 : Int) ≤ (c : Int)) = true := by simp; omega
        have d90 : decide ((c : Int) ≤ 90) = true := by simp; omega
        have d97 : decide ((97 : Int) ≤ (c : Int)) = false := by simp; omega
        have d122 : decide ((c : Int) ≤ 122) = true := by simp; omega
        have d48 : decide ((48 : Int) ≤ (c : Int)) = true := by simp; omega
        have d57 : decide ((c : Int) ≤ 57) = false := by simp; omega
        have hq : ((c : Int) == 95) = false := by rw [beq_eq_false_iff_ne]; omega
        go_wp2
        go_roundg (gk - 1)
        case measure => omega
        case rel => exact ⟨i + 1, by omega, by go_num, rfl, hgood.out (by unfold okR letN digN; simp; try omega)⟩
      · have d65 : decide ((65 : Int) ≤ (c : Int)) = true := by simp; omega
        have d90 : decide ((c : Int) ≤ 90) = false := by simp; omega
        have d97 : decide ((97 : Int) ≤ (c : Int)) = false := by simp; omega
        have d122 : decide ((c : Int) ≤ 122) = true := by simp; omega
        have d48 : decide ((48 : Int) ≤ (c : Int)) = true := by simp; omega
        have d57 : decide ((c : Int) ≤ 57) = false := by simp; omega
        have hq : ((c : Int) == 95) = false := by rw [beq_eq_false_iff_ne]; omega
        go_wp2
        all_goals (go_ret; exact ⟨ret_bool (hbad.out (by unfold okR letN digN; simp; try omega)).symm, rfl⟩)
      · have d65 : decide ((65 : Int) ≤ (c : Int)) = true := by simp; omega
        have d90 : decide ((c : Int) ≤ 90) = false := by simp; omega
        have d97 : decide ((97 : Int) ≤ (c : Int)) = false := by simp; omega
        have d122 : decide ((c : Int) ≤ 122) = true := by simp; omega
        have d48 : decide ((48 : Int) ≤ (c : Int)) = true := by simp; omega
        have d57 : decide ((c : Int) ≤ 57) = false := by simp; omega
        have hq : ((c : Int) == 95) = true := by rw [beq_iff_eq]; omega
        go_wp2
        go_roundg (gk - 1)
        case measure => omega
        case rel => exact ⟨i + 1, by omega, by go_num, rfl, hgood.out (by unfold okR letN digN; simp; try omega)⟩
      · have d65 : decide ((65 : Int) ≤ (c : Int)) = true := by simp; omega
        have d90 : decide ((c : Int) ≤ 90) = false := by simp; omega
        have d97 : decide ((97 : Int) ≤ (c : Int)) = false := by simp; omega
        have d122 : decide ((c : Int) ≤ 122) = true := by simp; omega
        have d48 : decide ((48 : Int) ≤ (c : Int)) = true := by simp; omega
        have d57 : decide ((c : Int) ≤ 57) = false := by simp; omega
        have hq : ((c : Int) == 95) = false := by rw [beq_eq_false_iff_ne]; omega
        go_wp2
        all_goals (go_ret; exact ⟨ret_bool (hbad.out (by unfold okR letN digN; simp; try omega)).symm, rfl⟩)
      · have d65 : decide ((65 : Int) ≤ (c : Int)) = true := by simp; omega
        have d90 : decide ((c : Int) ≤ 90) = false := by simp; omega
        have d97 : decide ((97 : Int) ≤ (c : Int)) = true := by simp; omega
        have d122 : decide ((c : Int) ≤ 122) = true := by simp; omega
        have d48 : decide ((48 : Int) ≤ (c : Int)) = true := by simp; omega
        have d57 : decide ((c : Int) ≤ 57) = false := by simp; omega
        have hq : ((c : Int) == 95) = false := by rw [beq_eq_false_iff_ne]; omega
        go_wp2
        go_roundg (gk - 1)
        case measure => omega
        case rel => exact ⟨i + 1, by omega, by go_num, rfl, hgood.out (by unfold okR letN digN; simp; try omega)⟩
      · have d65 : decide ((65 : Int) ≤ (c : Int)) = true := by simp; omega
        have d90 : decide ((c : Int) ≤ 90) = false := by simp; omega
        have d97 : decide ((97 : Int) ≤ (c : Int)) = true := by simp; omega
        have d122 : decide ((c : Int) ≤ 122) = false := by simp; omega
        have d48 : decide ((48 : Int) ≤ (c : Int)) = true := by simp; omega
        have d57 : decide ((c : Int) ≤ 57) = false := by simp; omega
        have hq : ((c : Int) == 95) = false := by rw [beq_eq_false_iff_ne]; omega
        go_wp2
        all_goals (go_ret; exact ⟨ret_bool (hbad.out (by unfold okR letN digN; simp; try omega)).symm, rfl⟩)
    · have hok : ∀ j (hj : j < s.size), okR j s[j].toNat = true := fun j hj => HJ.out j hj (by omega)
      by_cases h0 : s.size = 0
      · obtain rfl := none_of h0
        go_wp2
        go_ret
        exact ⟨by rw [← HR.out]; rfl, rfl⟩
      · have hne := full_of h0
        have hr2 : Hid (r = decide (s.size ≤ 32)) := by
          have h5 := (allR (by omega)).1 hok
          show r = _
          rw [← HR.out]
          unfold nameB
          rw [headN (by omega), Bool.and_assoc, h5]
          have : (1 ≤ s.size ∧ s.size ≤ 32) ↔ s.size ≤ 32 := by omega
          simp [this]
        clear hok HJ
        by_cases h1 : s.size ≤ 32
        · go_wp2
          go_ret
          exact ⟨ret_bool (by rw [hr2.out]; simp; try omega), rfl⟩
        · go_wp2
          go_ret
          exact ⟨ret_bool (by rw [hr2.out]; simp; try omega), rfl⟩

end Go.Proofs.YtgkddimijmnpcaaGreatDoor

