/-
  The law VarintForms: numbers that are longer than need be, or too long, or cut: the walk.
-/
import Derived.Test.YtjlfjhpiapglnaaAwake1
import Derived.Test.YtjlfjhpiapglnaaViForms
namespace Go.Proofs.Ytjlfjhpiapglnaa.VarintForms
open Go.RowKit
set_option linter.unusedVariables false

/-- 'string([]byte{c})'. -/
theorem run_string_one (w : World) (c : Int) (b : UInt8) (hc : c = (b.toNat : Int)) :
    (convert 40 9 (.slice (some ⟨w.heap.size, 0, none⟩) 1 1)).run Try.prog (w.alloc (.cells #[.int .u8 c] 5)) = .ok (.string ⟨#[b]⟩) (w.alloc (.cells #[.int .u8 c] 5)) := by
  refine run_convert_bytes_back _ 40 9 5 ⟨w.heap.size, 0, none⟩ 1 [b] Try.underlying40 Try.underlying5 Try.underlying9 ?_
  intro j hj
  match j, hj with
  | 0, _ => simp [Addr.add, hc]

set_option maxHeartbeats 2000000 in
set_option maxRecDepth 100000 in
theorem walk (x : Int) (m : Int) (w : World) (hx : (Lit.int .i64 x).wf = true) (hm : (Lit.int .i64 m).wf = true) :
    Calls Try.prog 5 #[.int .i64 x, .int .i64 m] w fun e w' => e = .returned (.bool true) ∧ Below w.heap.size w w' := by
  obtain ⟨z, hz, ez⟩ : ∃ z : Nat, z < 16 ∧ bits .and .i64 m 15 = (z : Int) := Vi.and_mask m 4 (by omega)
  obtain ⟨c, hc, ec⟩ : ∃ c : Nat, c < 128 ∧ bits .and .i64 x 127 = (c : Int) := Vi.and_mask x 7 (by omega)
  have eo : bits .or .i64 128 (c : Int) = 128 + (c : Int) := by
    have := Vi.i64_or_join 1 c 7 hc (by omega)
    simpa using this
  obtain ⟨b, hb⟩ : ∃ b : UInt8, b.toNat = 128 + c := ⟨UInt8.ofNat (128 + c), by rw [UInt8.toNat_ofNat']; omega⟩
  have HB : Hid (b.toNat = 128 + c) := hb
  clear hb
  have hone : ∀ wr : World, (convert 40 9 (.slice (some ⟨wr.heap.size, 0, none⟩) 1 1)).run Try.prog (wr.alloc (.cells #[.int .u8 (128 + (c : Int))] 5)) = .ok (.string ⟨#[b]⟩) (wr.alloc (.cells #[.int .u8 (128 + (c : Int))] 5)) :=
    fun wr => run_string_one wr _ b (by rw [HB.out]; omega)
  go_enter Try.func5, Try.ntmps5
  go_wp2_with (first
    | (go_at_call 17; refine (awake_any _).mono ?_; rintro e w7 ⟨rfl, h7⟩))
  go_loopg [6, 7] (z + 1) (fun n v i wr => ∃ (k : Nat) (S : ByteArray), k + n = z + 1 ∧ i = .int .i64 k ∧ v = .string S ∧ S.data.toList = List.replicate k b ∧ Below w7.heap.size w7 wr)
  case atStart => exact ⟨0, ⟨#[]⟩, by omega, rfl, rfl, rfl, Below.refl _ _⟩
  case round =>
    obtain ⟨k, S, hk, rfl, rfl, hS, hbel⟩ := hrel
    have hsz : S.size = k := by rw [← size_list, hS]; simp
    have HS : Hid (S.data.toList = List.replicate k b ∧ S.size = k) := ⟨hS, hsz⟩
    have hs2 : S.size ≤ 16 := by omega
    clear hS hsz
    by_cases hlt : k < z + 1
    · go_wp2
      go_roundg (gk - 1)
      case measure => omega
      case rel => exact ⟨k + 1, _, by omega, by go_num, rfl, by simp [HS.out.1, List.replicate_succ'], hbel.alloc (by have := hbel.size; omega) _⟩
    · have hkz : k = z + 1 := by omega
      subst hkz
      have hb8 : 128 ≤ b.toNat := by rw [HB.out]; omega
      have hcm : b.toNat % 128 = c := by rw [HB.out]; omega
      have HC : Hid (128 ≤ b.toNat ∧ b.toNat % 128 = c) := ⟨hb8, hcm⟩
      clear hb8 hcm
      have l0 : (S ++ (⟨#[0]⟩ : ByteArray)).data.toList = List.replicate (z + 1) b ++ [0] := by simp [HS.out.1]
      have l1 : (S ++ (⟨#[1]⟩ : ByteArray)).data.toList = List.replicate (z + 1) b ++ [1] := by simp [HS.out.1]
      have s0 : (S ++ (⟨#[0]⟩ : ByteArray)).size ≤ maxLen := by rw [← size_list, l0]; simp; unfold maxLen; omega
      have s1 : (S ++ (⟨#[1]⟩ : ByteArray)).size ≤ maxLen := by rw [← size_list, l1]; simp; unfold maxLen; omega
      have s2 : S.size ≤ maxLen := by unfold maxLen; omega
      by_cases hz9 : z + 1 < 9
      · have g1 : Vi.getI S.data.toList 0 = (0, 0, 100) := by
          rw [HS.out.1, Vi.getI_zero]; exact Vi.getAt_err _ (Vi.getF_rep_cut b HC.out.1 _ _ _ _ hz9)
        have g2 : Vi.getI (S ++ (⟨#[0]⟩ : ByteArray)).data.toList 0 = (0, 0, 101) := by
          rw [l0, Vi.getI_zero]; exact Vi.getAt_err _ (Vi.getF_rep_zero b HC.out.1 _ _ _ _ hz9 (by omega))
        have g3 : Vi.getI (S ++ (⟨#[1]⟩ : ByteArray)).data.toList 0 = (Vi.zF c (z + 1), z + 2, 0) := by
          rw [l1, Vi.getI_zero]
          refine Vi.getAt_of _ ?_
          rw [Vi.getF_rep_one b HC.out.1 _ _ _ _ hz9, HC.out.2]
          simp
        have g4 : Vi.getI S.data.toList ((S.size : Int) + 1) = (0, 0, 101) := Vi.getI_out _ _ (.inr (by rw [size_list]; omega))
        have g5 : Vi.getI S.data.toList (-1) = (0, 0, 101) := Vi.getI_out _ _ (.inl (by omega))
        obtain ⟨Z, hZ⟩ : ∃ Z, Z = Vi.zF c (z + 1) := ⟨_, rfl⟩
        rw [← hZ] at g3
        have G : Hid ((Vi.getI S.data.toList 0 = (0, 0, 100) ∧ Vi.getI (S ++ (⟨#[0]⟩ : ByteArray)).data.toList 0 = (0, 0, 101)) ∧ Vi.getI (S ++ (⟨#[1]⟩ : ByteArray)).data.toList 0 = (Z, z + 2, 0) ∧ Vi.getI S.data.toList ((S.size : Int) + 1) = (0, 0, 101) ∧ Vi.getI S.data.toList (-1) = (0, 0, 101)) := ⟨⟨g1, g2⟩, g3, g4, g5⟩
        have HZ : Hid (Z = Vi.zF c (z + 1)) := hZ
        have S3 : Hid (S.size ≤ maxLen ∧ (S ++ (⟨#[0]⟩ : ByteArray)).size ≤ maxLen ∧ (S ++ (⟨#[1]⟩ : ByteArray)).size ≤ maxLen) := ⟨s2, s0, s1⟩
        clear g1 g2 g3 g4 g5 l0 l1 s0 s1 s2 hZ
        have hd1 : decide ((z : Int) + 1 < 1 + (z : Int)) = false := by simp; omega
        have hd2 : decide ((9 : Int) ≤ 1 + (z : Int)) = false := by simp; omega
        go_wp2_with fail
        refine (get_any S 0 _ S3.out.1 (by decide) G.out.1.1).mono ?_
        rintro e w0 ⟨rfl, rfl⟩
        go_wp2_with fail
        refine (get_any (S ++ (⟨#[0]⟩ : ByteArray)) 0 _ S3.out.2.1 (by decide) G.out.1.2).mono ?_
        rintro e w0 ⟨rfl, rfl⟩
        go_wp2_with fail
        refine (get_any (S ++ (⟨#[1]⟩ : ByteArray)) 0 _ S3.out.2.2 (by decide) G.out.2.1).mono ?_
        rintro e w0 ⟨rfl, rfl⟩
        go_wp2_with (go_at_call 16; refine (num_any _ _).mono ?_; rintro e w0 ⟨rfl, rfl⟩)
        go_loopg [18, 19] (z + 1) (fun n v i wr => ∃ (k y : Nat), k + n = z + 1 ∧ i = .int .i64 k ∧ v = .int .i64 y ∧ y = Vi.zF c k ∧ wr = w0)
        case atStart => exact ⟨0, 1, by omega, rfl, rfl, rfl, rfl⟩
        case round =>
          obtain ⟨k, y, hk, rfl, rfl, hy, rfl⟩ := hrel
          have HY : Hid (y = Vi.zF c k) := hy
          by_cases hlt : k < z + 1
          · have hyb : 128 * y + c < 9223372036854775808 := by
              rcases Vi.zF_small (c := c) (k := k) hc (by omega) with h | h
              · rw [hy]; exact h
              · omega
            clear hy
            go_wp2
            go_roundg (gk - 1)
            case measure => omega
            case rel => exact ⟨k + 1, 128 * y + c, by omega, by go_num, congrArg (Value.int .i64) (Vi.join7 y c hc hyb), by rw [HY.out]; rfl, rfl⟩
          · have hkz : k = z + 1 := by omega
            subst hkz
            have hyZ : y = Z := by rw [hy, HZ.out]
            clear hy HY
            subst hyZ
            go_wp2_with fail
            refine (getText_any ⟨#[129, 128, 4]⟩ 0 _ (by decide) (by decide) (l := []) (t := 0) (n := 101) (by decide)).mono ?_
            rintro e w8 ⟨rfl, h8⟩
            go_wp2_with fail
            refine (get_any S ((S.size : Int) + 1) _ S3.out.1 (WalkArith.wf_i64 ⟨by omega, by omega⟩) G.out.2.2.1).mono ?_
            rintro e w9 ⟨rfl, rfl⟩
            go_wp2_with fail
            refine (get_any S (-1) _ S3.out.1 (by decide) G.out.2.2.2).mono ?_
            rintro e w9 ⟨rfl, rfl⟩
            go_wp2_with (go_at_call 16; refine (num_any _ _).mono ?_; rintro e w9 ⟨rfl, rfl⟩)
            go_ret
            exact ⟨rfl, thenB (thenB h7 hbel) h8⟩
      · have g1 : Vi.getI S.data.toList 0 = (0, 0, 101) := by
          rw [HS.out.1, Vi.getI_zero, ← List.append_nil (List.replicate (z + 1) b)]; exact Vi.getAt_err _ (Vi.getF_rep_long b HC.out.1 _ _ _ _ _ (by omega))
        have g2 : Vi.getI (S ++ (⟨#[0]⟩ : ByteArray)).data.toList 0 = (0, 0, 101) := by
          rw [l0, Vi.getI_zero]; exact Vi.getAt_err _ (Vi.getF_rep_long b HC.out.1 _ _ _ _ _ (by omega))
        have g3 : Vi.getI (S ++ (⟨#[1]⟩ : ByteArray)).data.toList 0 = (0, 0, 101) := by
          rw [l1, Vi.getI_zero]; exact Vi.getAt_err _ (Vi.getF_rep_long b HC.out.1 _ _ _ _ _ (by omega))
        have G : Hid ((Vi.getI S.data.toList 0 = (0, 0, 101) ∧ Vi.getI (S ++ (⟨#[0]⟩ : ByteArray)).data.toList 0 = (0, 0, 101)) ∧ Vi.getI (S ++ (⟨#[1]⟩ : ByteArray)).data.toList 0 = (0, 0, 101)) := ⟨⟨g1, g2⟩, g3⟩
        have S3 : Hid (S.size ≤ maxLen ∧ (S ++ (⟨#[0]⟩ : ByteArray)).size ≤ maxLen ∧ (S ++ (⟨#[1]⟩ : ByteArray)).size ≤ maxLen) := ⟨s2, s0, s1⟩
        clear g1 g2 g3 l0 l1 s0 s1 s2
        go_wp2_with fail
        refine (get_any S 0 _ S3.out.1 (by decide) G.out.1.1).mono ?_
        rintro e w0 ⟨rfl, rfl⟩
        go_wp2_with fail
        refine (get_any (S ++ (⟨#[0]⟩ : ByteArray)) 0 _ S3.out.2.1 (by decide) G.out.1.2).mono ?_
        rintro e w0 ⟨rfl, rfl⟩
        go_wp2_with fail
        refine (get_any (S ++ (⟨#[1]⟩ : ByteArray)) 0 _ S3.out.2.2 (by decide) G.out.2).mono ?_
        rintro e w0 ⟨rfl, rfl⟩
        go_wp2_with (go_at_call 16; refine (num_any _ _).mono ?_; rintro e w0 ⟨rfl, rfl⟩)
        go_ret
        exact ⟨rfl, thenB h7 hbel⟩

end Go.Proofs.Ytjlfjhpiapglnaa.VarintForms
