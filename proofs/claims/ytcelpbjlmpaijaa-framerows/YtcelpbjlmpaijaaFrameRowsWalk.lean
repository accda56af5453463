/-
  The law FrameRows: frames one behind the other come back in their row; a cut one, or one with a byte of its body turned, is none: the walk.
-/
import Derived.Test.YtcelpbjlmpaijaaAwake2
import Derived.Test.YtcelpbjlmpaijaaFrRows
import Derived.Test.YtcelpbjlmpaijaaByteRows
import Derived.Test.YtcelpbjlmpaijaaViLong
import Derived.Test.YtcelpbjlmpaijaaMods
namespace Go.Proofs.Ytcelpbjlmpaijaa.FrameRows
open Go.RowKit
set_option linter.unusedVariables false

/-- What a round needs of the text at hand: its frame F; F cut at c; a byte of F's body turned. -/
theorem parts (S : ByteArray) (h5 : ¬ 500 < S.size) (cut turn : Int) : ∃ (F FC : ByteArray) (c : Nat),
    Fr.put S.data.toList = (F.data.toList, 0) ∧ F.data.toList = Fr.fr S.data.toList ∧ 5 ≤ F.size ∧ F.size ≤ 513 ∧ c < F.size ∧ wrap64 ((IntKind.u64.wrap cut).tmod (F.size : Int)) = (c : Int) ∧ F.extract 0 c = FC ∧ FC.size ≤ 513 ∧ Fr.get FC.data.toList 0 = ([], 0, 200) := by
  obtain ⟨F, hF⟩ : ∃ F : ByteArray, F = ⟨(Fr.fr S.data.toList).toArray⟩ := ⟨_, rfl⟩
  have hl : F.data.toList = Fr.fr S.data.toList := by rw [hF]
  have hb := Fr.fr_bounds S.data.toList
  have hs : F.size = (Fr.fr S.data.toList).length := by rw [← size_list, hl]
  rw [size_list] at hb
  obtain ⟨c, hc, ec⟩ := mod_any cut F.size (by omega) (by omega)
  refine ⟨F, F.extract 0 c, c, ?_, hl, by omega, by omega, hc, ec, rfl, ?_, ?_⟩
  · rw [Fr.put_small _ (by rw [size_list]; omega), hl]
  · rw [ByteArray.size_extract]; omega
  · have e := Vi.extract_eq F 0 c
    rw [Nat.zero_add] at e
    rw [e, List.drop_zero, hl]
    exact Fr.get_cut _ (by rw [size_list]; omega) c (by omega)

theorem parts2 (S F : ByteArray) (h5 : ¬ 500 < S.size) (h0 : 0 < S.size) (hl : F.data.toList = Fr.fr S.data.toList) (turn : Int) : ∃ (r p d : Nat) (hp : p < F.size) (x : UInt8) (TB : ByteArray),
    wrap64 ((IntKind.u64.wrap turn).tmod (S.size : Int)) = (r : Int) ∧ r < S.size ∧ (F.size : Int) - 1 - (r : Int) = (p : Int) ∧ d < 128 ∧ bits .and .i64 turn 127 = (d : Int) ∧ bits .xor .u8 ((F[p]).toNat : Int) (1 + (d : Int)) = (x.toNat : Int) ∧
    TB = ⟨(F.data.toList.set p x).toArray⟩ ∧ Fr.get TB.data.toList 0 = ([], 0, 200) ∧ TB.size = F.size := by
  have hb := Fr.fr_length S.data.toList
  have hs : F.size = (Fr.fr S.data.toList).length := by rw [← size_list, hl]
  rw [size_list] at hb
  obtain ⟨r, hr, er⟩ := mod_any turn S.size h0 (by omega)
  obtain ⟨d, hd, ed⟩ : ∃ d : Nat, d < 128 ∧ bits .and .i64 turn 127 = (d : Int) := Vi.and_mask turn 7 (by omega)
  obtain ⟨p, hp⟩ : ∃ p, p = F.size - 1 - r := ⟨_, rfl⟩
  have hpl : p < F.size := by omega
  refine ⟨r, p, d, hpl, F[p] ^^^ UInt8.ofNat (1 + d), _, er, hr, by omega, hd, ed, xor_byte _ d hd, rfl, ?_, ?_⟩
  · obtain ⟨i, hi⟩ : ∃ i, i = S.size - 1 - r := ⟨_, rfl⟩
    have hpi : p = (Vi.put S.data.toList.length).length + 4 + i := by rw [size_list]; omega
    have hil : i < S.data.toList.length := by rw [size_list]; omega
    have hx : F[p] = S.data.toList[i] := by
      have e1 : F[p] = F.data.toList[p]'(by rw [size_list]; exact hpl) := rfl
      have e2 : F.data.toList[p]? = S.data.toList[i]? := by
        rw [hl, hpi]
        unfold Fr.fr
        rw [List.getElem?_append_right (by omega), List.getElem?_append_right (by rw [Fr.four_length]; omega), Fr.four_length]
        congr 1
        omega
      rw [List.getElem?_eq_getElem (by rw [size_list]; exact hpl), List.getElem?_eq_getElem hil] at e2
      rw [e1]
      exact Option.some.inj e2
    have hg := Fr.get_turned S.data.toList (by rw [size_list]; omega) i (F[p] ^^^ UInt8.ofNat (1 + d)) hil (by rw [← hx]; exact xor_ne _ d hd)
    rw [← hpi, ← hl] at hg
    exact hg
  · rw [← size_list]; simp

set_option maxHeartbeats 2000000 in
set_option maxRecDepth 100000 in
theorem core (ao : Option Addr) (cap : Nat) (ss : List ByteArray) (cut turn : Int) (w : World) (hcut : (Lit.int .i64 cut).wf = true) (hturn : (Lit.int .i64 turn).wf = true)
    (hl : ss.length ≤ maxLen) (hs : ∀ s ∈ ss, s.size ≤ maxLen)
    (hc : 0 < ss.length → ∃ b off, ao = some ⟨b, off, none⟩ ∧ b < w.heap.size ∧ ∀ i, i < ss.length → w.cell? ⟨b, off + i, none⟩ = some (.string (ss.getD i ByteArray.empty))) :
    Calls Try.prog 4 #[.slice ao ss.length cap, .int .i64 cut, .int .i64 turn] w fun e w' => e = .returned (.bool true) ∧ Below w.heap.size w w' := by
  have HC : Hid (0 < ss.length → ∃ b off, ao = some ⟨b, off, none⟩ ∧ b < w.heap.size ∧ ∀ i, i < ss.length → w.cell? ⟨b, off + i, none⟩ = some (.string (ss.getD i ByteArray.empty))) := hc
  have HS : Hid (∀ s ∈ ss, s.size ≤ maxLen) := hs
  clear hc hs
  unfold maxLen at hl
  go_enter Try.func4, Try.ntmps4
  go_wp2_with (first
    | (go_at_call 14; refine (awake_any _).mono ?_; rintro e w7 ⟨rfl, h7⟩))
  go_loopg [7, 8, 9] 8 (fun n v kv iv wr => ∃ (i : Nat) (A : ByteArray), i + n = 8 ∧ i ≤ ss.length ∧ iv = .int .i64 i ∧ kv = .int .i64 i ∧ v = .string A ∧ A.data.toList = Fr.row (ss.take i) ∧ (∀ s ∈ ss.take i, s.size ≤ 500) ∧ Below w.heap.size w wr)
  case atStart => exact ⟨0, ⟨#[]⟩, by omega, by omega, rfl, rfl, rfl, rfl, by simp, h7⟩
  case round =>
    obtain ⟨i, A, hin, hi, rfl, rfl, rfl, hA, h500, hbel⟩ := hrel
    have hAs : A.size ≤ 6000 := by
      have := Fr.row_length _ h500
      rw [← hA, size_list] at this
      simp at this; omega
    have HA : Hid (A.data.toList = Fr.row (ss.take i) ∧ ∀ s ∈ ss.take i, s.size ≤ 500) := ⟨hA, h500⟩
    clear hA h500
    by_cases hlt : i < ss.length ∧ i < 8
    · obtain ⟨hlt1, hlt2⟩ := hlt
      obtain ⟨b, off, rfl, hb, hcell⟩ := HC.out (by omega)
      obtain ⟨S, hS⟩ : ∃ S, S = ss.getD i ByteArray.empty := ⟨_, rfl⟩
      have hSm : S.size ≤ maxLen := by
        rw [hS]; exact HS.out _ (by simp [List.getD, hlt1])
      have hcx : wr.cell? ⟨b, off + i, none⟩ = some (.string S) := by
        rw [hbel.cell (by exact hb), hcell i hlt1, hS]
      have HX : Hid (S = ss.getD i ByteArray.empty) := hS
      clear hS hcell
      by_cases h5 : 500 < S.size
      · unfold maxLen at hSm
        go_wp2
        go_ret
        exact ⟨rfl, hbel⟩
      · obtain ⟨F, FC, c, hput, hF, hF5, hFm, hcl, ec, eFC, hFCs, hFC⟩ := parts S h5 cut turn
        have HP : Hid (Fr.put S.data.toList = (F.data.toList, 0) ∧ F.data.toList = Fr.fr S.data.toList ∧ Fr.get FC.data.toList 0 = ([], 0, 200)) := ⟨hput, hF, hFC⟩
        clear hput hF hFC
        have P1 : ∀ w, Calls Try.prog 7 #[.string S] w fun e w' => e = .returned (.tuple #[.string F, .int .i64 0]) ∧ Below w.heap.size w w' := fun w => by
          have h := framePut_any S w hSm HP.out.1
          rw [list_string] at h
          exact h
        have P2 := fun w => frameGet_any FC 0 w (by unfold maxLen; omega) (by decide) HP.out.2.2
        have hdF : decide ((F.size : Int) < 5) = false := by simp; omega
        have REL : Hid ((A ++ F).data.toList = Fr.row (ss.take (i + 1)) ∧ ∀ s ∈ ss.take (i + 1), s.size ≤ 500) := by
          rw [Vi.take_snoc ss i hlt1, Fr.row_append, Fr.row_one, ← HX.out, ← HA.out.1, ← HP.out.2.1]
          refine ⟨by simp, ?_⟩
          intro s hs
          rcases List.mem_append.1 hs with h | h
          · exact HA.out.2 s h
          · rw [List.mem_singleton.1 h]; omega
        go_wp2_with fail
        refine (P1 _).mono ?_
        rintro e w1 ⟨rfl, h1⟩
        have hc1 := cell_later h1 hcx
        go_wp2_with (go_at_call 11; refine (num_any _ _).mono ?_; rintro e w0 ⟨rfl, rfl⟩)
        refine (P2 _).mono ?_
        rintro e w2 ⟨rfl, h2⟩
        have hc2 := cell_later h2 hc1
        have hb2 := (hbel.trans (h1.mono hbel.size)).trans (h2.mono (Nat.le_trans hbel.size h1.size))
        by_cases h0 : 0 < S.size
        · obtain ⟨r, p, d, hpl, x, TB, er, hr, ep, hd, ed, ex, eTB, hgT, hTs⟩ := parts2 S F h5 h0 HP.out.2.1 turn
          have HTB : Hid (TB = ⟨(F.data.toList.set p x).toArray⟩ ∧ Fr.get TB.data.toList 0 = ([], 0, 200) ∧ TB.size = F.size) := ⟨eTB, hgT, hTs⟩
          clear eTB hgT hTs
          have P3 := fun w => frameGet_any TB 0 w (by rw [HTB.out.2.2]; unfold maxLen; omega) (by decide) HTB.out.2.1
          obtain ⟨W3, c3, R3, B3, S3, L3, Z3⟩ := bytes_made F w2
          have hc3 := cell_later B3 hc2
          have k3 : W3.cell? ⟨w2.heap.size, p, none⟩ = some (.int .u8 (F[p].toNat : Int)) := L3 p (by simpa using hpl)
          have f3 := Z3 p hpl
          have LB := L3.set p x
          have RB := string_lies LB c3 (n := F.size) (by simp)
          rw [← HTB.out.1] at RB
          have BB : Hid (Below w.heap.size w (W3.setCell ⟨w2.heap.size, p, none⟩ (.int .u8 (x.toNat : Int)))) := (hb2.trans (B3.mono hb2.size)).setCell (p := ⟨w2.heap.size, p, none⟩) hb2.size _
          clear S3 L3 Z3 LB B3
          go_wp2_with (go_at_call 11; refine (num_any _ _).mono ?_; rintro e w0 ⟨rfl, rfl⟩)
          refine (P3 _).mono ?_
          rintro e w4 ⟨rfl, h4⟩
          have hb4 := thenB BB.out h4
          go_wp2_with (go_at_call 11; refine (num_any _ _).mono ?_; rintro e w0 ⟨rfl, rfl⟩)
          go_roundg (gk - 1)
          case measure => omega
          case rel => exact ⟨i + 1, _, by omega, by omega, by go_num, by go_num, rfl, REL.out.1, REL.out.2, hb4⟩
        · go_wp2_with (go_at_call 11; refine (num_any _ _).mono ?_; rintro e w0 ⟨rfl, rfl⟩)
          go_roundg (gk - 1)
          case measure => omega
          case rel => exact ⟨i + 1, _, by omega, by omega, by go_num, by go_num, rfl, REL.out.1, REL.out.2, hb2⟩
    · by_cases hd : i < ss.length
      · have hd1 : decide ((i : Int) < (ss.length : Int)) = true := by simp; omega
        have hd2 : decide ((i : Int) < 8) = false := by simp; omega
        have HI : Hid (A.data.toList = Fr.row (ss.take i)) := HA.out.1
        obtain ⟨N, hN⟩ : ∃ N, N = ss.take i := ⟨_, rfl⟩
        have hNl : N.length = i := by rw [hN]; simp; omega
        have hAN : A.data.toList = Fr.row N := by rw [hN]; exact HA.out.1
        have hget : ∀ j, j < i → N.getD j ByteArray.empty = ss.getD j ByteArray.empty := fun j hj => by rw [hN]; simp [List.getD, hj]
        have h500 : ∀ s ∈ N, s.size ≤ 500 := by rw [hN]; exact HA.out.2
        have HN : Hid (N.length = i ∧ A.data.toList = Fr.row N ∧ (∀ j, j < i → N.getD j ByteArray.empty = ss.getD j ByteArray.empty) ∧ ∀ s ∈ N, s.size ≤ 500) := ⟨hNl, hAN, hget, h500⟩
        clear hN hNl hAN hget h500 HI HA
        go_wp2
        go_loopg [20, 21] i (fun n tv jv wr2 => ∃ (j t : Nat), j + n = i ∧ jv = .int .i64 j ∧ tv = .int .i64 t ∧ t = (Fr.row (N.take j)).length ∧ Below w.heap.size w wr2)
        case atStart => exact ⟨0, 0, by omega, rfl, rfl, rfl, hbel⟩
        case round =>
          clear hbel
          obtain ⟨j, t, hjn, rfl, rfl, ht, hbel⟩ := hrel
          have htA : t ≤ 6000 := by
            have h1 : (Fr.row (N.take j)).length ≤ 513 * (N.take j).length := Fr.row_length _ (fun s hs => HN.out.2.2.2 s (List.mem_of_mem_take hs))
            have h2 : (N.take j).length ≤ 8 := by have := HN.out.1; simp; omega
            rw [ht]; omega
          have HT : Hid (t = (Fr.row (N.take j)).length) := ht
          clear ht
          by_cases hj : j < i
          · obtain ⟨b, off, rfl, hb, hcell⟩ := HC.out (by omega)
            obtain ⟨S, hS⟩ : ∃ S, S = ss.getD j ByteArray.empty := ⟨_, rfl⟩
            have hcx : wr.cell? ⟨b, off + j, none⟩ = some (.string S) := by
              rw [hbel.cell (by exact hb), hcell j (by omega), hS]
            have hSN : N.getD j ByteArray.empty = S := by rw [HN.out.2.2.1 j hj, hS]
            have hjN : j < N.length := by rw [HN.out.1]; exact hj
            have hS5 : S.size ≤ 500 := by rw [← hSN]; exact HN.out.2.2.2 _ (by simp [List.getD, hjN])
            have hg : Fr.get A.data.toList (t : Int) = (S.data.toList, (Fr.row (N.take (j + 1))).length, 0) := by
              have hp := Fr.get_fr (Fr.row (N.take j)) S.data.toList (Fr.row (N.drop (j + 1))) (by rw [size_list]; omega)
              rw [HN.out.2.1, Fr.row_at N j hjN, hSN, HT.out, hp, Vi.take_snoc N j hjN, Fr.row_append, Fr.row_one, hSN, List.length_append]
            obtain ⟨t2, ht2⟩ : ∃ t2, t2 = (Fr.row (N.take (j + 1))).length := ⟨_, rfl⟩
            rw [← ht2] at hg
            have HG : Hid (Fr.get A.data.toList (t : Int) = (S.data.toList, t2, 0) ∧ t2 = (Fr.row (N.take (j + 1))).length) := ⟨hg, ht2⟩
            clear hS hcell hSN hjN hg ht2
            go_wp2_with (first
              | (go_at_call 9; refine (frameGet_any A t _ (by unfold maxLen; omega) (WalkArith.wf_i64 ⟨by omega, by omega⟩) HG.out.1).mono ?_; rintro e w1 ⟨rfl, h1⟩; have hcy : w1.cell? ⟨b, off + j, none⟩ = some (.string S) := (h1.cell (by have := hbel.size; exact Nat.lt_of_lt_of_le hb this)).trans hcx)
              | (go_at_call 11; refine (num_any _ _).mono ?_; rintro e w0 ⟨rfl, rfl⟩))
            go_roundg (gk - 1)
            case measure => omega
            case rel => exact ⟨j + 1, t2, by omega, by go_num, rfl, HG.out.2, hbel.trans (h1.mono hbel.size)⟩
          · have hji : j = i := by omega
            subst hji
            have htA2 : t = A.size := by
              rw [HT.out, ← size_list, HN.out.2.1, List.take_of_length_le (by have := HN.out.1; omega)]
            subst htA2
            have hd3 : decide ((j : Int) < (j : Int)) = false := by simp
            go_wp2
            go_ret
            exact ⟨rfl, hbel⟩
      · have hd1 : decide ((i : Int) < (ss.length : Int)) = false := by simp; omega
        have HI : Hid (A.data.toList = Fr.row (ss.take i)) := HA.out.1
        obtain ⟨N, hN⟩ : ∃ N, N = ss.take i := ⟨_, rfl⟩
        have hNl : N.length = i := by rw [hN]; simp; omega
        have hAN : A.data.toList = Fr.row N := by rw [hN]; exact HA.out.1
        have hget : ∀ j, j < i → N.getD j ByteArray.empty = ss.getD j ByteArray.empty := fun j hj => by rw [hN]; simp [List.getD, hj]
        have h500 : ∀ s ∈ N, s.size ≤ 500 := by rw [hN]; exact HA.out.2
        have HN : Hid (N.length = i ∧ A.data.toList = Fr.row N ∧ (∀ j, j < i → N.getD j ByteArray.empty = ss.getD j ByteArray.empty) ∧ ∀ s ∈ N, s.size ≤ 500) := ⟨hNl, hAN, hget, h500⟩
        clear hN hNl hAN hget h500 HI HA
        go_wp2
        go_loopg [20, 21] i (fun n tv jv wr2 => ∃ (j t : Nat), j + n = i ∧ jv = .int .i64 j ∧ tv = .int .i64 t ∧ t = (Fr.row (N.take j)).length ∧ Below w.heap.size w wr2)
        case atStart => exact ⟨0, 0, by omega, rfl, rfl, rfl, hbel⟩
        case round =>
          clear hbel
          obtain ⟨j, t, hjn, rfl, rfl, ht, hbel⟩ := hrel
          have htA : t ≤ 6000 := by
            have h1 : (Fr.row (N.take j)).length ≤ 513 * (N.take j).length := Fr.row_length _ (fun s hs => HN.out.2.2.2 s (List.mem_of_mem_take hs))
            have h2 : (N.take j).length ≤ 8 := by have := HN.out.1; simp; omega
            rw [ht]; omega
          have HT : Hid (t = (Fr.row (N.take j)).length) := ht
          clear ht
          by_cases hj : j < i
          · obtain ⟨b, off, rfl, hb, hcell⟩ := HC.out (by omega)
            obtain ⟨S, hS⟩ : ∃ S, S = ss.getD j ByteArray.empty := ⟨_, rfl⟩
            have hcx : wr.cell? ⟨b, off + j, none⟩ = some (.string S) := by
              rw [hbel.cell (by exact hb), hcell j (by omega), hS]
            have hSN : N.getD j ByteArray.empty = S := by rw [HN.out.2.2.1 j hj, hS]
            have hjN : j < N.length := by rw [HN.out.1]; exact hj
            have hS5 : S.size ≤ 500 := by rw [← hSN]; exact HN.out.2.2.2 _ (by simp [List.getD, hjN])
            have hg : Fr.get A.data.toList (t : Int) = (S.data.toList, (Fr.row (N.take (j + 1))).length, 0) := by
              have hp := Fr.get_fr (Fr.row (N.take j)) S.data.toList (Fr.row (N.drop (j + 1))) (by rw [size_list]; omega)
              rw [HN.out.2.1, Fr.row_at N j hjN, hSN, HT.out, hp, Vi.take_snoc N j hjN, Fr.row_append, Fr.row_one, hSN, List.length_append]
            obtain ⟨t2, ht2⟩ : ∃ t2, t2 = (Fr.row (N.take (j + 1))).length := ⟨_, rfl⟩
            rw [← ht2] at hg
            have HG : Hid (Fr.get A.data.toList (t : Int) = (S.data.toList, t2, 0) ∧ t2 = (Fr.row (N.take (j + 1))).length) := ⟨hg, ht2⟩
            clear hS hcell hSN hjN hg ht2
            go_wp2_with (first
              | (go_at_call 9; refine (frameGet_any A t _ (by unfold maxLen; omega) (WalkArith.wf_i64 ⟨by omega, by omega⟩) HG.out.1).mono ?_; rintro e w1 ⟨rfl, h1⟩; have hcy : w1.cell? ⟨b, off + j, none⟩ = some (.string S) := (h1.cell (by have := hbel.size; exact Nat.lt_of_lt_of_le hb this)).trans hcx)
              | (go_at_call 11; refine (num_any _ _).mono ?_; rintro e w0 ⟨rfl, rfl⟩))
            go_roundg (gk - 1)
            case measure => omega
            case rel => exact ⟨j + 1, t2, by omega, by go_num, rfl, HG.out.2, hbel.trans (h1.mono hbel.size)⟩
          · have hji : j = i := by omega
            subst hji
            have htA2 : t = A.size := by
              rw [HT.out, ← size_list, HN.out.2.1, List.take_of_length_le (by have := HN.out.1; omega)]
            subst htA2
            have hd3 : decide ((j : Int) < (j : Int)) = false := by simp
            go_wp2
            go_ret
            exact ⟨rfl, hbel⟩

theorem walk {H : Type} {enc : TypeId × Value → H} {base : Nat} {d : DataW H} {p : List MemPlace} (v : Value) (m n : Int) (w : World)
    (ok : Value.okWide Try.prog w .any base 35 v) (h : DataW.Trod enc Try.prog w 0 (fun _ => true) true 35 v d p) (hm : (Lit.int .i64 m).wf = true) (hn : (Lit.int .i64 n).wf = true) :
    Calls Try.prog 4 #[v, .int .i64 m, .int .i64 n] w fun e w' => e = .returned (.bool true) ∧ Below w.heap.size w w' := by
  obtain ⟨ss, ao, cap, rfl, hl, hs, hc⟩ := isTexts_of ok h
  exact core ao cap ss m n w hm hn hl hs hc

end Go.Proofs.Ytcelpbjlmpaijaa.FrameRows
