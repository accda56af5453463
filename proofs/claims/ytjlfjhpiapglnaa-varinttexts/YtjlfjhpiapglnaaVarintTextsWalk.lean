/-
  The law VarintTexts: texts one behind the other come back, whatever bytes they have; too long ones are none: the walk.
-/
import Derived.Test.YtjlfjhpiapglnaaAwake1
import Derived.Test.YtjlfjhpiapglnaaTexts
namespace Go.Proofs.Ytjlfjhpiapglnaa.VarintTexts
open Go.RowKit
set_option linter.unusedVariables false

/-- 'string(make([]byte, n))'. -/
theorem zeros_string {w : World} {B n : Nat} {v : Value} (hown : w.ownsRow B 5 1 v n (madeCells (Value.int .u8 0).cells (n * 1)).toList) :
    (convert 40 9 v).run Try.prog w = .ok (.string ⟨(List.replicate n (0 : UInt8)).toArray⟩) w := by
  have e : (madeCells (Value.int .u8 0).cells (n * 1)).toList = Vi.cells (List.replicate n 0) := by
    rw [Nat.mul_one, show (Value.int .u8 0).cells = #[.int .u8 0] from rfl, toList_madeCells_one]
    simp [Vi.cells]
  rw [e] at hown
  refine run_string_own (B := B) ?_
  rw [List.length_replicate]
  exact hown

set_option maxHeartbeats 2000000 in
set_option maxRecDepth 100000 in
theorem core (ao : Option Addr) (cap : Nat) (ss : List ByteArray) (m : Int) (w : World) (hm : (Lit.int .i64 m).wf = true)
    (hl : ss.length ≤ maxLen) (hs : ∀ s ∈ ss, s.size ≤ maxLen)
    (hc : 0 < ss.length → ∃ b off, ao = some ⟨b, off, none⟩ ∧ b < w.heap.size ∧ ∀ i, i < ss.length → w.cell? ⟨b, off + i, none⟩ = some (.string (ss.getD i ByteArray.empty))) :
    Calls Try.prog 7 #[.slice ao ss.length cap, .int .i64 m] w fun e w' => e = .returned (.bool true) ∧ Below w.heap.size w w' := by
  obtain ⟨z, hz, ez⟩ : ∃ z : Nat, z < 8 ∧ bits .and .i64 m 7 = (z : Int) := Vi.and_mask m 3 (by omega)
  have HC : Hid (0 < ss.length → ∃ b off, ao = some ⟨b, off, none⟩ ∧ b < w.heap.size ∧ ∀ i, i < ss.length → w.cell? ⟨b, off + i, none⟩ = some (.string (ss.getD i ByteArray.empty))) := hc
  have HS : Hid (∀ s ∈ ss, s.size ≤ maxLen) := hs
  clear hc hs
  unfold maxLen at hl
  go_enter Try.func7, Try.ntmps7
  go_wp2_with (first
    | (go_at_call 17; refine (awake_any _).mono ?_; rintro e w7 ⟨rfl, h7⟩))
  go_loopg [5, 6, 7] 10 (fun n v kv iv wr => ∃ (i : Nat) (A : ByteArray), i + n = 10 ∧ i ≤ ss.length ∧ iv = .int .i64 i ∧ kv = .int .i64 i ∧ v = .string A ∧ A.data.toList = Vi.joined (ss.take i) ∧ (∀ s ∈ ss.take i, s.size ≤ 500) ∧ Below w.heap.size w wr)
  case atStart => exact ⟨0, ⟨#[]⟩, by omega, by omega, rfl, rfl, rfl, rfl, by simp, h7⟩
  case round =>
    obtain ⟨i, A, hin, hi, rfl, rfl, rfl, hA, h500, hbel⟩ := hrel
    have hAs : A.size ≤ 6000 := by
      have := Vi.joined_length _ h500
      rw [← hA, size_list] at this
      simp at this; omega
    have HA : Hid (A.data.toList = Vi.joined (ss.take i) ∧ ∀ s ∈ ss.take i, s.size ≤ 500) := ⟨hA, h500⟩
    clear hA h500
    by_cases hlt : i < ss.length ∧ i < 10
    · obtain ⟨hlt1, hlt2⟩ := hlt
      obtain ⟨b, off, rfl, hb, hcell⟩ := HC.out (by omega)
      obtain ⟨S, hS⟩ : ∃ S, S = ss.getD i ByteArray.empty := ⟨_, rfl⟩
      have hSm : S.size ≤ maxLen := by
        rw [hS]; exact HS.out _ (by simp [List.getD, hlt1])
      have hcx : wr.cell? ⟨b, off + i, none⟩ = some (.string S) := by
        rw [hbel.cell (by exact hb), hcell i hlt1, hS]
      have HX : Hid (S = ss.getD i ByteArray.empty) := hS
      clear hS hcell
      by_cases h5 : 500 < S.size
      · unfold maxLen at hSm
        go_wp2
        go_ret
        exact ⟨rfl, hbel⟩
      · have hlp := Vi.put_length_le S.size
        go_wp2_with (first
          | (go_at_call 12; refine (putText_any S _ hSm (l := Vi.put S.size ++ S.data.toList) (n := 0) (by rw [Vi.putText_small _ (by rw [size_list]; omega), size_list])).mono ?_; rintro e w1 ⟨rfl, h1⟩)
          | (go_at_call 16; refine (num_any _ _).mono ?_; rintro e w0 ⟨rfl, rfl⟩))
        go_roundg (gk - 1)
        case measure => omega
        case rel =>
          refine ⟨i + 1, _, by omega, by omega, by go_num, by go_num, rfl, ?_, ?_, hbel.trans (h1.mono hbel.size)⟩
          · rw [Vi.take_snoc ss i hlt1, Vi.joined_append, Vi.joined_one, ← HX.out, ← HA.out.1]; simp
          · rw [Vi.take_snoc ss i hlt1, ← HX.out]
            intro s hs
            rcases List.mem_append.1 hs with h | h
            · exact HA.out.2 s h
            · rw [List.mem_singleton.1 h]; omega
    · by_cases hd : i < ss.length
      · have hd1 : decide ((i : Int) < (ss.length : Int)) = true := by simp; omega
        have hd2 : decide ((i : Int) < 10) = false := by simp; omega
        have HI : Hid (A.data.toList = Vi.joined (ss.take i)) := HA.out.1
        obtain ⟨N, hN⟩ : ∃ N, N = ss.take i := ⟨_, rfl⟩
        have hNl : N.length = i := by rw [hN]; simp; omega
        have hAN : A.data.toList = Vi.joined N := by rw [hN]; exact HA.out.1
        have hget : ∀ j, j < i → N.getD j ByteArray.empty = ss.getD j ByteArray.empty := fun j hj => by rw [hN]; simp [List.getD, hj]
        have h500 : ∀ s ∈ N, s.size ≤ 500 := by rw [hN]; exact HA.out.2
        have HN : Hid (N.length = i ∧ A.data.toList = Vi.joined N ∧ (∀ j, j < i → N.getD j ByteArray.empty = ss.getD j ByteArray.empty) ∧ ∀ s ∈ N, s.size ≤ 500) := ⟨hNl, hAN, hget, h500⟩
        clear hN hNl hAN hget h500 HI HA
        go_wp2
        go_loopg [10, 11] i (fun n tv jv wr2 => ∃ (j t : Nat), j + n = i ∧ jv = .int .i64 j ∧ tv = .int .i64 t ∧ t = (Vi.joined (N.take j)).length ∧ Below w.heap.size w wr2)
        case atStart => exact ⟨0, 0, by omega, rfl, rfl, rfl, hbel⟩
        case round =>
          clear hbel
          obtain ⟨j, t, hjn, rfl, rfl, ht, hbel⟩ := hrel
          have htA : t ≤ 6000 := by
            have h1 : (Vi.joined (N.take j)).length ≤ 509 * (N.take j).length := Vi.joined_length _ (fun s hs => HN.out.2.2.2 s (List.mem_of_mem_take hs))
            have h2 : (N.take j).length ≤ 10 := by have := HN.out.1; simp; omega
            rw [ht]; omega
          have HT : Hid (t = (Vi.joined (N.take j)).length) := ht
          clear ht
          by_cases hj : j < i
          · obtain ⟨b, off, rfl, hb, hcell⟩ := HC.out (by omega)
            obtain ⟨S, hS⟩ : ∃ S, S = ss.getD j ByteArray.empty := ⟨_, rfl⟩
            have hcx : wr.cell? ⟨b, off + j, none⟩ = some (.string S) := by
              rw [hbel.cell (by exact hb), hcell j (by omega), hS]
            have hSN : N.getD j ByteArray.empty = S := by rw [HN.out.2.2.1 j hj, hS]
            have hjN : j < N.length := by rw [HN.out.1]; exact hj
            have hS5 : S.size ≤ 500 := by rw [← hSN]; exact HN.out.2.2.2 _ (by simp [List.getD, hjN])
            have hg : Vi.getText A.data.toList (t : Int) = (S.data.toList, (Vi.joined (N.take (j + 1))).length, 0) := by
              have hp := Vi.getText_put (Vi.joined (N.take j)) S.data.toList (Vi.joined (N.drop (j + 1))) (by rw [size_list]; omega)
              rw [HN.out.2.1, Vi.joined_at N j hjN, hSN, HT.out, ← size_list, hp, Vi.take_snoc N j hjN, Vi.joined_append, Vi.joined_one, hSN]
              simp; omega
            obtain ⟨t2, ht2⟩ : ∃ t2, t2 = (Vi.joined (N.take (j + 1))).length := ⟨_, rfl⟩
            rw [← ht2] at hg
            have HG : Hid (Vi.getText A.data.toList (t : Int) = (S.data.toList, t2, 0) ∧ t2 = (Vi.joined (N.take (j + 1))).length) := ⟨hg, ht2⟩
            clear hS hcell hSN hjN hg ht2
            go_wp2_with (first
              | (go_at_call 14; refine (getText_any A t _ (by unfold maxLen; omega) (WalkArith.wf_i64 ⟨by omega, by omega⟩) HG.out.1).mono ?_; rintro e w1 ⟨rfl, h1⟩; have hcy : w1.cell? ⟨b, off + j, none⟩ = some (.string S) := (h1.cell (by have := hbel.size; exact Nat.lt_of_lt_of_le hb this)).trans hcx)
              | (go_at_call 16; refine (num_any _ _).mono ?_; rintro e w0 ⟨rfl, rfl⟩))
            go_roundg (gk - 1)
            case measure => omega
            case rel => exact ⟨j + 1, t2, by omega, by go_num, rfl, HG.out.2, hbel.trans (h1.mono hbel.size)⟩
          · have hji : j = i := by omega
            subst hji
            have htA2 : t = A.size := by
              rw [HT.out, ← size_list, HN.out.2.1, List.take_of_length_le (by have := HN.out.1; omega)]
            subst htA2
            obtain ⟨n, hn⟩ : ∃ n : Nat, n = 65532 + z := ⟨_, rfl⟩
            have hn1 : (65532 : Int) + (z : Int) = (n : Int) := by omega
            have hn2 : 65532 ≤ n := by omega
            have hn3 : n < 65540 := by omega
            clear hn hz
            obtain ⟨i0, hi0, hz0, hz1, hz2⟩ := info_parts Try.infoByte
            have hbs := hbel.size
            have hd3 : decide ((j : Int) < (j : Int)) = false := by simp
            obtain ⟨Z, hZ⟩ : ∃ Z : ByteArray, Z = ⟨(List.replicate n (0 : UInt8)).toArray⟩ := ⟨_, rfl⟩
            have hZs : Z.size = n := by rw [← size_list, hZ]; simp
            by_cases hle : n ≤ 65536
            · obtain ⟨l, hl2, hl3⟩ : ∃ l, Vi.putText Z.data.toList = (l, 0) ∧ l.length = n + 3 := by
                refine ⟨Vi.put Z.size ++ Z.data.toList, by rw [Vi.putText_small _ (by rw [size_list]; omega), size_list], ?_⟩
                rw [List.length_append, size_list, hZs]
                have : (Vi.put n).length = 3 := by
                  rcases Nat.lt_or_ge n 65536 with h | h
                  · exact Vi.put_length (k := 15) (by omega) (by omega) (by omega)
                  · exact Vi.put_length (k := 16) (by omega) (by omega) (by omega)
                omega
              have HZ : Hid (Z = ⟨(List.replicate n (0 : UInt8)).toArray⟩ ∧ Z.size = n ∧ Vi.putText Z.data.toList = (l, 0)) := ⟨hZ, hZs, hl2⟩
              clear hZ hZs hl2
              go_wp2_with (first
                | (at_make; refine wpList_make_full _ rfl _ _ 40 rfl w.heap.size 5 i0 (.int .u8 0) 1 Try.underlying40 hi0 hz0 hz1 .i64 .i64 _ _ n rfl rfl (by omega) (by omega) (by rw [hz2]; omega) (by unfold maxLen; omega) hbs ?_; intro w2 hown hgrow; have hstr := zeros_string hown; rw [← HZ.out.1] at hstr)
                | (go_at_call 12; refine (putText_any Z _ (by rw [HZ.out.2.1]; unfold maxLen; omega) HZ.out.2.2).mono ?_; rintro e w1 ⟨rfl, h1⟩)
                | (go_at_call 16; refine (num_any _ _).mono ?_; rintro e w0 ⟨rfl, rfl⟩))
              go_ret
              exact ⟨rfl, (hbel.grown hgrow hbs (by simp)).trans (h1.mono (Nat.le_trans hbs hgrow.size))⟩
            · have HZ : Hid (Z = ⟨(List.replicate n (0 : UInt8)).toArray⟩ ∧ Z.size = n ∧ Vi.putText Z.data.toList = ([], 101)) := ⟨hZ, hZs, by unfold Vi.putText; rw [if_pos (by rw [size_list]; omega)]⟩
              clear hZ hZs
              go_wp2_with (first
                | (at_make; refine wpList_make_full _ rfl _ _ 40 rfl w.heap.size 5 i0 (.int .u8 0) 1 Try.underlying40 hi0 hz0 hz1 .i64 .i64 _ _ n rfl rfl (by omega) (by omega) (by rw [hz2]; omega) (by unfold maxLen; omega) hbs ?_; intro w2 hown hgrow; have hstr := zeros_string hown; rw [← HZ.out.1] at hstr)
                | (go_at_call 12; refine (putText_any Z _ (by rw [HZ.out.2.1]; unfold maxLen; omega) HZ.out.2.2).mono ?_; rintro e w1 ⟨rfl, h1⟩)
                | (go_at_call 16; refine (num_any _ _).mono ?_; rintro e w0 ⟨rfl, rfl⟩))
              go_ret
              exact ⟨rfl, (hbel.grown hgrow hbs (by simp)).trans (h1.mono (Nat.le_trans hbs hgrow.size))⟩
      · have hd1 : decide ((i : Int) < (ss.length : Int)) = false := by simp; omega
        have HI : Hid (A.data.toList = Vi.joined (ss.take i)) := HA.out.1
        obtain ⟨N, hN⟩ : ∃ N, N = ss.take i := ⟨_, rfl⟩
        have hNl : N.length = i := by rw [hN]; simp; omega
        have hAN : A.data.toList = Vi.joined N := by rw [hN]; exact HA.out.1
        have hget : ∀ j, j < i → N.getD j ByteArray.empty = ss.getD j ByteArray.empty := fun j hj => by rw [hN]; simp [List.getD, hj]
        have h500 : ∀ s ∈ N, s.size ≤ 500 := by rw [hN]; exact HA.out.2
        have HN : Hid (N.length = i ∧ A.data.toList = Vi.joined N ∧ (∀ j, j < i → N.getD j ByteArray.empty = ss.getD j ByteArray.empty) ∧ ∀ s ∈ N, s.size ≤ 500) := ⟨hNl, hAN, hget, h500⟩
        clear hN hNl hAN hget h500 HI HA
        go_wp2
        go_loopg [10, 11] i (fun n tv jv wr2 => ∃ (j t : Nat), j + n = i ∧ jv = .int .i64 j ∧ tv = .int .i64 t ∧ t = (Vi.joined (N.take j)).length ∧ Below w.heap.size w wr2)
        case atStart => exact ⟨0, 0, by omega, rfl, rfl, rfl, hbel⟩
        case round =>
          clear hbel
          obtain ⟨j, t, hjn, rfl, rfl, ht, hbel⟩ := hrel
          have htA : t ≤ 6000 := by
            have h1 : (Vi.joined (N.take j)).length ≤ 509 * (N.take j).length := Vi.joined_length _ (fun s hs => HN.out.2.2.2 s (List.mem_of_mem_take hs))
            have h2 : (N.take j).length ≤ 10 := by have := HN.out.1; simp; omega
            rw [ht]; omega
          have HT : Hid (t = (Vi.joined (N.take j)).length) := ht
          clear ht
          by_cases hj : j < i
          · obtain ⟨b, off, rfl, hb, hcell⟩ := HC.out (by omega)
            obtain ⟨S, hS⟩ : ∃ S, S = ss.getD j ByteArray.empty := ⟨_, rfl⟩
            have hcx : wr.cell? ⟨b, off + j, none⟩ = some (.string S) := by
              rw [hbel.cell (by exact hb), hcell j (by omega), hS]
            have hSN : N.getD j ByteArray.empty = S := by rw [HN.out.2.2.1 j hj, hS]
            have hjN : j < N.length := by rw [HN.out.1]; exact hj
            have hS5 : S.size ≤ 500 := by rw [← hSN]; exact HN.out.2.2.2 _ (by simp [List.getD, hjN])
            have hg : Vi.getText A.data.toList (t : Int) = (S.data.toList, (Vi.joined (N.take (j + 1))).length, 0) := by
              have hp := Vi.getText_put (Vi.joined (N.take j)) S.data.toList (Vi.joined (N.drop (j + 1))) (by rw [size_list]; omega)
              rw [HN.out.2.1, Vi.joined_at N j hjN, hSN, HT.out, ← size_list, hp, Vi.take_snoc N j hjN, Vi.joined_append, Vi.joined_one, hSN]
              simp; omega
            obtain ⟨t2, ht2⟩ : ∃ t2, t2 = (Vi.joined (N.take (j + 1))).length := ⟨_, rfl⟩
            rw [← ht2] at hg
            have HG : Hid (Vi.getText A.data.toList (t : Int) = (S.data.toList, t2, 0) ∧ t2 = (Vi.joined (N.take (j + 1))).length) := ⟨hg, ht2⟩
            clear hS hcell hSN hjN hg ht2
            go_wp2_with (first
              | (go_at_call 14; refine (getText_any A t _ (by unfold maxLen; omega) (WalkArith.wf_i64 ⟨by omega, by omega⟩) HG.out.1).mono ?_; rintro e w1 ⟨rfl, h1⟩; have hcy : w1.cell? ⟨b, off + j, none⟩ = some (.string S) := (h1.cell (by have := hbel.size; exact Nat.lt_of_lt_of_le hb this)).trans hcx)
              | (go_at_call 16; refine (num_any _ _).mono ?_; rintro e w0 ⟨rfl, rfl⟩))
            go_roundg (gk - 1)
            case measure => omega
            case rel => exact ⟨j + 1, t2, by omega, by go_num, rfl, HG.out.2, hbel.trans (h1.mono hbel.size)⟩
          · have hji : j = i := by omega
            subst hji
            have htA2 : t = A.size := by
              rw [HT.out, ← size_list, HN.out.2.1, List.take_of_length_le (by have := HN.out.1; omega)]
            subst htA2
            obtain ⟨n, hn⟩ : ∃ n : Nat, n = 65532 + z := ⟨_, rfl⟩
            have hn1 : (65532 : Int) + (z : Int) = (n : Int) := by omega
            have hn2 : 65532 ≤ n := by omega
            have hn3 : n < 65540 := by omega
            clear hn hz
            obtain ⟨i0, hi0, hz0, hz1, hz2⟩ := info_parts Try.infoByte
            have hbs := hbel.size
            have hd3 : decide ((j : Int) < (j : Int)) = false := by simp
            obtain ⟨Z, hZ⟩ : ∃ Z : ByteArray, Z = ⟨(List.replicate n (0 : UInt8)).toArray⟩ := ⟨_, rfl⟩
            have hZs : Z.size = n := by rw [← size_list, hZ]; simp
            by_cases hle : n ≤ 65536
            · obtain ⟨l, hl2, hl3⟩ : ∃ l, Vi.putText Z.data.toList = (l, 0) ∧ l.length = n + 3 := by
                refine ⟨Vi.put Z.size ++ Z.data.toList, by rw [Vi.putText_small _ (by rw [size_list]; omega), size_list], ?_⟩
                rw [List.length_append, size_list, hZs]
                have : (Vi.put n).length = 3 := by
                  rcases Nat.lt_or_ge n 65536 with h | h
                  · exact Vi.put_length (k := 15) (by omega) (by omega) (by omega)
                  · exact Vi.put_length (k := 16) (by omega) (by omega) (by omega)
                omega
              have HZ : Hid (Z = ⟨(List.replicate n (0 : UInt8)).toArray⟩ ∧ Z.size = n ∧ Vi.putText Z.data.toList = (l, 0)) := ⟨hZ, hZs, hl2⟩
              clear hZ hZs hl2
              go_wp2_with (first
                | (at_make; refine wpList_make_full _ rfl _ _ 40 rfl w.heap.size 5 i0 (.int .u8 0) 1 Try.underlying40 hi0 hz0 hz1 .i64 .i64 _ _ n rfl rfl (by omega) (by omega) (by rw [hz2]; omega) (by unfold maxLen; omega) hbs ?_; intro w2 hown hgrow; have hstr := zeros_string hown; rw [← HZ.out.1] at hstr)
                | (go_at_call 12; refine (putText_any Z _ (by rw [HZ.out.2.1]; unfold maxLen; omega) HZ.out.2.2).mono ?_; rintro e w1 ⟨rfl, h1⟩)
                | (go_at_call 16; refine (num_any _ _).mono ?_; rintro e w0 ⟨rfl, rfl⟩))
              go_ret
              exact ⟨rfl, (hbel.grown hgrow hbs (by simp)).trans (h1.mono (Nat.le_trans hbs hgrow.size))⟩
            · have HZ : Hid (Z = ⟨(List.replicate n (0 : UInt8)).toArray⟩ ∧ Z.size = n ∧ Vi.putText Z.data.toList = ([], 101)) := ⟨hZ, hZs, by unfold Vi.putText; rw [if_pos (by rw [size_list]; omega)]⟩
              clear hZ hZs
              go_wp2_with (first
                | (at_make; refine wpList_make_full _ rfl _ _ 40 rfl w.heap.size 5 i0 (.int .u8 0) 1 Try.underlying40 hi0 hz0 hz1 .i64 .i64 _ _ n rfl rfl (by omega) (by omega) (by rw [hz2]; omega) (by unfold maxLen; omega) hbs ?_; intro w2 hown hgrow; have hstr := zeros_string hown; rw [← HZ.out.1] at hstr)
                | (go_at_call 12; refine (putText_any Z _ (by rw [HZ.out.2.1]; unfold maxLen; omega) HZ.out.2.2).mono ?_; rintro e w1 ⟨rfl, h1⟩)
                | (go_at_call 16; refine (num_any _ _).mono ?_; rintro e w0 ⟨rfl, rfl⟩))
              go_ret
              exact ⟨rfl, (hbel.grown hgrow hbs (by simp)).trans (h1.mono (Nat.le_trans hbs hgrow.size))⟩

theorem walk {H : Type} {enc : TypeId × Value → H} {base : Nat} {d : DataW H} {p : List MemPlace} (v : Value) (m : Int) (w : World)
    (ok : Value.okWide Try.prog w .any base 43 v) (h : DataW.Trod enc Try.prog w 0 (fun _ => true) true 43 v d p) (hm : (Lit.int .i64 m).wf = true) :
    Calls Try.prog 7 #[v, .int .i64 m] w fun e w' => e = .returned (.bool true) ∧ Below w.heap.size w w' := by
  obtain ⟨ss, ao, cap, rfl, hl, hs, hc⟩ := isTexts_of ok h
  exact core ao cap ss m w hm hl hs hc

end Go.Proofs.Ytjlfjhpiapglnaa.VarintTexts
