/-
  The law FrameSums: a text's sum hangs on each byte and on their row: the walk.
-/
import Derived.Test.YtcelpbjlmpaijaaAwake2
import Derived.Test.YtcelpbjlmpaijaaFrSums
import Derived.Test.YtcelpbjlmpaijaaByteRows
import Derived.Test.YtcelpbjlmpaijaaViLong
import Derived.Test.YtcelpbjlmpaijaaMods
namespace Go.Proofs.Ytcelpbjlmpaijaa.FrameSums
open Go.RowKit
set_option linter.unusedVariables false

set_option maxHeartbeats 1000000 in
set_option maxRecDepth 100000 in
theorem short (s : ByteArray) (a b : Int) (w : World) (hs : s.size ≤ 2000) (h0 : 0 < s.size) (ha : (Lit.int .i64 a).wf = true) (hb : (Lit.int .i64 b).wf = true) :
    Calls Try.prog 6 #[.string s, .int .i64 a, .int .i64 b] w fun e w' => e = .returned (.bool true) ∧ Below w.heap.size w w' := by
  have hd0 : ((s.size : Int) == 0) = false := by rw [beq_eq_false_iff_ne]; omega
  have hd1 : decide ((2000 : Int) < (s.size : Int)) = false := by simp; omega
  obtain ⟨k, hk, ek⟩ := mod_any a s.size h0 (by omega)
  obtain ⟨d, hd, ed⟩ : ∃ d : Nat, d < 128 ∧ bits .and .i64 b 127 = (d : Int) := Vi.and_mask b 7 (by omega)
  obtain ⟨m, hm⟩ : ∃ m, m = s.size - 1 - k := ⟨_, rfl⟩
  have hml : m < s.size := by omega
  have em : (s.size : Int) - 1 - (k : Int) = (m : Int) := by omega
  have ex := xor_byte s[k] d hd
  obtain ⟨x, hx⟩ : ∃ x, s[k] ^^^ UInt8.ofNat (1 + d) = x := ⟨_, rfl⟩
  rw [hx] at ex
  have hkl : k < s.data.toList.length := by simpa using hk
  have hx1 : x ≠ s.data.toList[k] := by rw [← hx]; exact xor_ne _ d hd
  obtain ⟨TB, hTB⟩ : ∃ TB : ByteArray, TB = ⟨(s.data.toList.set k x).toArray⟩ := ⟨_, rfl⟩
  obtain ⟨TC, hTC⟩ : ∃ TC : ByteArray, TC = ⟨((s.data.toList.set k s[m]).set m s[k]).toArray⟩ := ⟨_, rfl⟩
  have hl : s.data.toList.length = s.size := size_list _
  have hnB : Fr.sum TB.data.toList ≠ Fr.sum s.data.toList := by
    rw [hTB]; exact Fr.sum_turned _ k x hkl hx1
  have hmm := Fr.sum_mirrored s.data.toList k hkl (by omega)
  have hzB : TB.size ≤ maxLen := by rw [← size_list, hTB]; unfold maxLen; simp; omega
  have hzC : TC.size ≤ maxLen := by rw [← size_list, hTC]; unfold maxLen; simp; omega
  have hzs : s.size ≤ maxLen := by unfold maxLen; omega
  have hC1 : TC.data.toList = (s.data.toList.set k s[m]).set m s[k] := by rw [hTC]
  have hC2 : TC.data.toList ≠ s.data.toList → Fr.sum TC.data.toList ≠ Fr.sum s.data.toList := by
    rw [hC1]
    have e2 : ∀ m', m' = s.size - 1 - k → (h : m' < s.data.toList.length) → ((s.data.toList.set k s.data.toList[m']).set m' s.data.toList[k] ≠ s.data.toList → Fr.sum ((s.data.toList.set k s.data.toList[m']).set m' s.data.toList[k]) ≠ Fr.sum s.data.toList) := by
      intro m' hm' h
      have : m' = s.data.toList.length - 1 - k := by omega
      subst this
      exact hmm
    exact e2 m hm (by omega)
  obtain ⟨nB, eB⟩ : ∃ n, Fr.sum TB.data.toList = n := ⟨_, rfl⟩
  obtain ⟨nC, eC⟩ : ∃ n, Fr.sum TC.data.toList = n := ⟨_, rfl⟩
  obtain ⟨nS, eS⟩ : ∃ n, Fr.sum s.data.toList = n := ⟨_, rfl⟩
  have SB := fun w => sum_is TB w hzB eB
  have SC := fun w => sum_is TC w hzC eC
  have SS := fun w => sum_is s w hzs eS
  rw [eB, eS] at hnB
  rw [eC, eS] at hC2
  have q1 : ((nB : Int) != (nS : Int)) = true := by rw [bne_iff_ne]; omega
  have HT : Hid (TB = ⟨(s.data.toList.set k x).toArray⟩ ∧ TC = ⟨((s.data.toList.set k s[m]).set m s[k]).toArray⟩) := ⟨hTB, hTC⟩
  have HQ : Hid (TC.data.toList ≠ s.data.toList → nC ≠ nS) := hC2
  have HE : Hid (TC.data.toList = s.data.toList → nC = nS) := fun h => by rw [← eC, ← eS, h]
  clear hm hx hTB hTC hnB hmm hC1 hC2 hx1 hl eB eC eS
  go_enter Try.func6, Try.ntmps6
  go_wp2_with fail
  refine (awake_any _).mono ?_
  rintro e w1 ⟨rfl, h1⟩
  obtain ⟨W1, c1, R1, B1, S1, L1, Z1⟩ := bytes_made s w1
  obtain ⟨W3, c2, R3, B3, S3, L3, Z3⟩ := bytes_made s (W1.setCell ⟨w1.heap.size, k, none⟩ (.int .u8 (x.toNat : Int)))
  have LB0 := (L1.set k x).later B3
  rw [World.size_setCell] at R3 S3 L3 Z3
  have k1 : W1.cell? ⟨w1.heap.size, k, none⟩ = some (.int .u8 (s[k].toNat : Int)) := L1 k (by simpa using hk)
  have f1 := Z1 k hk
  have k3 : W3.cell? ⟨W1.heap.size, k, none⟩ = some (.int .u8 (s[k].toNat : Int)) := L3 k (by simpa using hk)
  have f3 := Z3 k hk
  have g3 := Z3 m hml
  obtain ⟨v4, k4⟩ := cell?_setCell_some (w := W3) (p := ⟨W1.heap.size, k, none⟩) (x := .int .u8 (s[m].toNat : Int)) (q := ⟨W1.heap.size, m, none⟩) (L3 m (by simpa using hml))
  have LC := (L3.set k s[m]).set m s[k]
  have LB := (LB0.other (show W1.heap.size ≠ w1.heap.size by omega) (k := k) (.int .u8 (s[m].toNat : Int))).other (show W1.heap.size ≠ w1.heap.size by omega) (k := m) (.int .u8 (s[k].toNat : Int))
  have RC := string_lies LC c2 (n := s.size) (by simp)
  have RB := string_lies LB c1 (n := s.size) (by simp)
  rw [← HT.out.1] at RB
  rw [← HT.out.2] at RC
  have BB : Hid (Below w.heap.size w ((W3.setCell ⟨W1.heap.size, k, none⟩ (.int .u8 (s[m].toNat : Int))).setCell ⟨W1.heap.size, m, none⟩ (.int .u8 (s[k].toNat : Int)))) := by
    have hz := h1.size
    refine ((((h1.trans (B1.mono hz)).setCell (p := ⟨w1.heap.size, k, none⟩) hz _).trans (B3.mono (by rw [World.size_setCell]; omega))).setCell (p := ⟨W1.heap.size, k, none⟩) (by show w.heap.size ≤ W1.heap.size; omega) _).setCell (p := ⟨W1.heap.size, m, none⟩) (by show w.heap.size ≤ W1.heap.size; omega) _
  clear S1 S3 L1 L3 LB LB0 LC Z1 Z3 B1 B3
  by_cases hsame : TC.data.toList = s.data.toList
  · have q2 : (TC.toList == s.toList) = true := by rw [ByteArray.toList_eq, ByteArray.toList_eq, beq_iff_eq]; exact hsame
    have q3 : ((nC : Int) == (nS : Int)) = true := by rw [beq_iff_eq, HE.out hsame]
    clear hsame
    go_wp2_with (first
      | (go_at_call_of 12 TB; refine (SB _).mono ?_; rintro e w0 ⟨rfl, rfl⟩)
      | (go_at_call_of 12 TC; refine (SC _).mono ?_; rintro e w0 ⟨rfl, rfl⟩)
      | (go_at_call 12; refine (SS _).mono ?_; rintro e w0 ⟨rfl, rfl⟩))
    go_ret
    exact ⟨rfl, BB.out⟩
  · have q2 : (TC.toList == s.toList) = false := by rw [ByteArray.toList_eq, ByteArray.toList_eq, beq_eq_false_iff_ne]; exact hsame
    have q3 : ((nC : Int) != (nS : Int)) = true := by have := HQ.out hsame; rw [bne_iff_ne]; omega
    clear hsame
    go_wp2_with (first
      | (go_at_call_of 12 TB; refine (SB _).mono ?_; rintro e w0 ⟨rfl, rfl⟩)
      | (go_at_call_of 12 TC; refine (SC _).mono ?_; rintro e w0 ⟨rfl, rfl⟩)
      | (go_at_call 12; refine (SS _).mono ?_; rintro e w0 ⟨rfl, rfl⟩))
    go_ret
    exact ⟨rfl, BB.out⟩

set_option maxHeartbeats 1000000 in
set_option maxRecDepth 100000 in
theorem long (s : ByteArray) (a b : Int) (w : World) (hs : ¬ s.size ≤ 2000) (hz : s.size ≤ maxLen) (ha : (Lit.int .i64 a).wf = true) (hb : (Lit.int .i64 b).wf = true) :
    Calls Try.prog 6 #[.string s, .int .i64 a, .int .i64 b] w fun e w' => e = .returned (.bool true) ∧ Below w.heap.size w w' := by
  unfold maxLen at hz
  have hd0 : ((s.size : Int) == 0) = false := by rw [beq_eq_false_iff_ne]; omega
  have hd1 : decide ((2000 : Int) < (s.size : Int)) = true := by simp; omega
  obtain ⟨T, hT⟩ : ∃ T, s.extract 0 2000 = T := ⟨_, rfl⟩
  have hTs : T.size = 2000 := by rw [← hT, ByteArray.size_extract]; omega
  have hs2 : T.size ≤ 2000 := by omega
  have h0 : 0 < T.size := by omega
  have HTs : Hid (T.size = 2000) := hTs
  clear hTs
  obtain ⟨k, hk, ek⟩ := mod_any a T.size h0 (by omega)
  obtain ⟨d, hd, ed⟩ : ∃ d : Nat, d < 128 ∧ bits .and .i64 b 127 = (d : Int) := Vi.and_mask b 7 (by omega)
  obtain ⟨m, hm⟩ : ∃ m, m = T.size - 1 - k := ⟨_, rfl⟩
  have hml : m < T.size := by omega
  have em : (T.size : Int) - 1 - (k : Int) = (m : Int) := by omega
  have ex := xor_byte T[k] d hd
  obtain ⟨x, hx⟩ : ∃ x, T[k] ^^^ UInt8.ofNat (1 + d) = x := ⟨_, rfl⟩
  rw [hx] at ex
  have hkl : k < T.data.toList.length := by simpa using hk
  have hx1 : x ≠ T.data.toList[k] := by rw [← hx]; exact xor_ne _ d hd
  obtain ⟨TB, hTB⟩ : ∃ TB : ByteArray, TB = ⟨(T.data.toList.set k x).toArray⟩ := ⟨_, rfl⟩
  obtain ⟨TC, hTC⟩ : ∃ TC : ByteArray, TC = ⟨((T.data.toList.set k T[m]).set m T[k]).toArray⟩ := ⟨_, rfl⟩
  have hl : T.data.toList.length = T.size := size_list _
  have hnB : Fr.sum TB.data.toList ≠ Fr.sum T.data.toList := by
    rw [hTB]; exact Fr.sum_turned _ k x hkl hx1
  have hmm := Fr.sum_mirrored T.data.toList k hkl (by omega)
  have hzB : TB.size ≤ maxLen := by rw [← size_list, hTB]; unfold maxLen; simp; omega
  have hzC : TC.size ≤ maxLen := by rw [← size_list, hTC]; unfold maxLen; simp; omega
  have hzs : T.size ≤ maxLen := by unfold maxLen; omega
  have hC1 : TC.data.toList = (T.data.toList.set k T[m]).set m T[k] := by rw [hTC]
  have hC2 : TC.data.toList ≠ T.data.toList → Fr.sum TC.data.toList ≠ Fr.sum T.data.toList := by
    rw [hC1]
    have e2 : ∀ m', m' = T.size - 1 - k → (h : m' < T.data.toList.length) → ((T.data.toList.set k T.data.toList[m']).set m' T.data.toList[k] ≠ T.data.toList → Fr.sum ((T.data.toList.set k T.data.toList[m']).set m' T.data.toList[k]) ≠ Fr.sum T.data.toList) := by
      intro m' hm' h
      have : m' = T.data.toList.length - 1 - k := by omega
      subst this
      exact hmm
    exact e2 m hm (by omega)
  obtain ⟨nB, eB⟩ : ∃ n, Fr.sum TB.data.toList = n := ⟨_, rfl⟩
  obtain ⟨nC, eC⟩ : ∃ n, Fr.sum TC.data.toList = n := ⟨_, rfl⟩
  obtain ⟨nS, eS⟩ : ∃ n, Fr.sum T.data.toList = n := ⟨_, rfl⟩
  have SB := fun w => sum_is TB w hzB eB
  have SC := fun w => sum_is TC w hzC eC
  have SS := fun w => sum_is T w hzs eS
  rw [eB, eS] at hnB
  rw [eC, eS] at hC2
  have q1 : ((nB : Int) != (nS : Int)) = true := by rw [bne_iff_ne]; omega
  have HT : Hid (TB = ⟨(T.data.toList.set k x).toArray⟩ ∧ TC = ⟨((T.data.toList.set k T[m]).set m T[k]).toArray⟩) := ⟨hTB, hTC⟩
  have HQ : Hid (TC.data.toList ≠ T.data.toList → nC ≠ nS) := hC2
  have HE : Hid (TC.data.toList = T.data.toList → nC = nS) := fun h => by rw [← eC, ← eS, h]
  clear hm hx hTB hTC hnB hmm hC1 hC2 hx1 hl eB eC eS
  go_enter Try.func6, Try.ntmps6
  go_wp2_with fail
  refine (awake_any _).mono ?_
  rintro e w1 ⟨rfl, h1⟩
  obtain ⟨W1, c1, R1, B1, S1, L1, Z1⟩ := bytes_made T w1
  obtain ⟨W3, c2, R3, B3, S3, L3, Z3⟩ := bytes_made T (W1.setCell ⟨w1.heap.size, k, none⟩ (.int .u8 (x.toNat : Int)))
  have LB0 := (L1.set k x).later B3
  rw [World.size_setCell] at R3 S3 L3 Z3
  have k1 : W1.cell? ⟨w1.heap.size, k, none⟩ = some (.int .u8 (T[k].toNat : Int)) := L1 k (by simpa using hk)
  have f1 := Z1 k hk
  have k3 : W3.cell? ⟨W1.heap.size, k, none⟩ = some (.int .u8 (T[k].toNat : Int)) := L3 k (by simpa using hk)
  have f3 := Z3 k hk
  have g3 := Z3 m hml
  obtain ⟨v4, k4⟩ := cell?_setCell_some (w := W3) (p := ⟨W1.heap.size, k, none⟩) (x := .int .u8 (T[m].toNat : Int)) (q := ⟨W1.heap.size, m, none⟩) (L3 m (by simpa using hml))
  have LC := (L3.set k T[m]).set m T[k]
  have LB := (LB0.other (show W1.heap.size ≠ w1.heap.size by omega) (k := k) (.int .u8 (T[m].toNat : Int))).other (show W1.heap.size ≠ w1.heap.size by omega) (k := m) (.int .u8 (T[k].toNat : Int))
  have RC := string_lies LC c2 (n := T.size) (by simp)
  have RB := string_lies LB c1 (n := T.size) (by simp)
  rw [← HT.out.1] at RB
  rw [← HT.out.2] at RC
  have BB : Hid (Below w.heap.size w ((W3.setCell ⟨W1.heap.size, k, none⟩ (.int .u8 (T[m].toNat : Int))).setCell ⟨W1.heap.size, m, none⟩ (.int .u8 (T[k].toNat : Int)))) := by
    have hz := h1.size
    refine ((((h1.trans (B1.mono hz)).setCell (p := ⟨w1.heap.size, k, none⟩) hz _).trans (B3.mono (by rw [World.size_setCell]; omega))).setCell (p := ⟨W1.heap.size, k, none⟩) (by show w.heap.size ≤ W1.heap.size; omega) _).setCell (p := ⟨W1.heap.size, m, none⟩) (by show w.heap.size ≤ W1.heap.size; omega) _
  clear S1 S3 L1 L3 LB LB0 LC Z1 Z3 B1 B3
  by_cases hsame : TC.data.toList = T.data.toList
  · have q2 : (TC.toList == T.toList) = true := by rw [ByteArray.toList_eq, ByteArray.toList_eq, beq_iff_eq]; exact hsame
    have q3 : ((nC : Int) == (nS : Int)) = true := by rw [beq_iff_eq, HE.out hsame]
    clear hsame
    go_wp2_with (first
      | (go_at_call_of 12 TB; refine (SB _).mono ?_; rintro e w0 ⟨rfl, rfl⟩)
      | (go_at_call_of 12 TC; refine (SC _).mono ?_; rintro e w0 ⟨rfl, rfl⟩)
      | (go_at_call 12; refine (SS _).mono ?_; rintro e w0 ⟨rfl, rfl⟩))
    go_ret
    exact ⟨rfl, BB.out⟩
  · have q2 : (TC.toList == T.toList) = false := by rw [ByteArray.toList_eq, ByteArray.toList_eq, beq_eq_false_iff_ne]; exact hsame
    have q3 : ((nC : Int) != (nS : Int)) = true := by have := HQ.out hsame; rw [bne_iff_ne]; omega
    clear hsame
    go_wp2_with (first
      | (go_at_call_of 12 TB; refine (SB _).mono ?_; rintro e w0 ⟨rfl, rfl⟩)
      | (go_at_call_of 12 TC; refine (SC _).mono ?_; rintro e w0 ⟨rfl, rfl⟩)
      | (go_at_call 12; refine (SS _).mono ?_; rintro e w0 ⟨rfl, rfl⟩))
    go_ret
    exact ⟨rfl, BB.out⟩

set_option maxHeartbeats 1000000 in
set_option maxRecDepth 100000 in
theorem empty (s : ByteArray) (a b : Int) (w : World) (hs : s.size = 0) :
    Calls Try.prog 6 #[.string s, .int .i64 a, .int .i64 b] w fun e w' => e = .returned (.bool true) ∧ Below w.heap.size w w' := by
  have hd0 : ((s.size : Int) == 0) = true := by rw [beq_iff_eq]; omega
  have e0 : s.data.toList = [] := List.eq_nil_of_length_eq_zero (by rw [size_list]; exact hs)
  have SS := fun w => sum_is s w (by unfold maxLen; omega) (n := 1) (by rw [e0]; decide)
  clear hs e0
  go_enter Try.func6, Try.ntmps6
  go_wp2_with (first
    | (go_at_call 14; refine (awake_any _).mono ?_; rintro e w1 ⟨rfl, h1⟩)
    | (go_at_call 12; refine (SS _).mono ?_; rintro e w0 ⟨rfl, rfl⟩))
  go_ret
  exact ⟨rfl, h1⟩

theorem walk (s : ByteArray) (a b : Int) (w : World) (hs : s.size ≤ maxLen) (ha : (Lit.int .i64 a).wf = true) (hb : (Lit.int .i64 b).wf = true) :
    Calls Try.prog 6 #[.string s, .int .i64 a, .int .i64 b] w fun e w' => e = .returned (.bool true) ∧ Below w.heap.size w w' := by
  by_cases h0 : s.size = 0
  · exact empty s a b w h0
  · by_cases h1 : s.size ≤ 2000
    · exact short s a b w h1 (by omega) ha hb
    · exact long s a b w h1 hs ha hb

end Go.Proofs.Ytcelpbjlmpaijaa.FrameSums
