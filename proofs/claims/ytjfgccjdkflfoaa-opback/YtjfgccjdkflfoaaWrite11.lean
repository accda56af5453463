/-
  Package op's writer: number, text, dot, dots, by contracts: what it writes behind what stands there.
-/
import Derived.Test.YtjfgccjdkflfoaaWriter11
import Derived.Test.YtjfgccjdkflfoaaVarintText
import Derived.Test.YtjfgccjdkflfoaaMay11
import Derived.Deep.Cut
import Derived.Deep.CutRange
namespace Go.Proofs.Ytjfgccjdkflfoaa
open Go.RowKit
set_option linter.unusedVariables false
set_option linter.unusedSimpArgs false

set_option maxHeartbeats 1000000 in
set_option maxRecDepth 100000 in
theorem wnum_any (b : Nat) (l : List UInt8) (x : Int) (w : World) (h : Wrt b l w) (h0 : 0 ≤ x ∧ x < 9223372036854775808) (hl : l.length ≤ 1000000) :
    Calls Try.prog 46 #[.pointer (some ⟨b, 0, none⟩), .int .i64 x] w fun e w' => e = .returned (.tuple #[]) ∧ Wrt b (l ++ pI x) w' ∧ WF b w w' := by
  obtain ⟨n, rfl⟩ := Int.eq_ofNat_of_zero_le h0.1
  have hn9 := Vi.put_length_le n
  have HW : Hid (Wrt b l w) := h
  have hlt := h.lt
  clear h
  go_enter Try.func46, Try.ntmps46
  go_wp2_with fail
  refine (put_nat n _ (by omega)).mono ?_
  rintro e w1 ⟨rfl, b1⟩
  have H1 := HW.out.later b1
  go_wp2_with fail
  refine (wstring_any b l _ _ H1 (by simp [ByteArray.size]; omega)).mono ?_
  rintro e w2 ⟨rfl, h2, k2⟩
  go_wp2
  first | go_ret | go_end0
  refine ⟨rfl, ?_, (WF.of b1 (Nat.le_of_lt hlt)).trans k2⟩
  simpa [pI] using h2

theorem pT_size (s : ByteArray) : (⟨(pT s).toArray⟩ : ByteArray).size = (Vi.put s.size).length + s.size := by
  show (List.toArray (pT s)).size = _
  unfold pT
  rw [List.size_toArray, List.length_append, size_list]

set_option maxHeartbeats 1000000 in
set_option maxRecDepth 100000 in
theorem wtext_any (b : Nat) (l : List UInt8) (s : ByteArray) (w : World) (h : Wrt b l w) (hs : s.size ≤ 65536) (hl : l.length ≤ 1000000) :
    Calls Try.prog 47 #[.pointer (some ⟨b, 0, none⟩), .string s] w fun e w' => e = .returned (.tuple #[]) ∧ Wrt b (l ++ pT s) w' ∧ WF b w w' := by
  have hn9 := Vi.put_length_le s.size
  have HW : Hid (Wrt b l w) := h
  have hlt := h.lt
  have hp : Vi.putText s.data.toList = (pT s, 0) := by
    unfold Vi.putText pT
    rw [size_list, if_neg (by omega)]
  clear h
  go_enter Try.func47, Try.ntmps47
  go_wp2_with fail
  refine (putText_any s _ (by unfold maxLen; omega) hp).mono ?_
  rintro e w1 ⟨rfl, b1⟩
  have H1 := HW.out.later b1
  go_wp2_with fail
  refine (wstring_any b l _ _ H1 (by rw [pT_size]; omega)).mono ?_
  rintro e w2 ⟨rfl, h2, k2⟩
  go_wp2
  first | go_ret | go_end0
  exact ⟨rfl, by simpa using h2, (WF.of b1 (Nat.le_of_lt hlt)).trans k2⟩

set_option maxHeartbeats 1000000 in
set_option maxRecDepth 100000 in
theorem wdot_any (b : Nat) (l : List UInt8) (x y : Int) (w : World) (h : Wrt b l w) (h0 : 0 ≤ x ∧ x < 9223372036854775808) (h1 : 0 ≤ y ∧ y < 9223372036854775808) (hl : l.length ≤ 900000) :
    Calls Try.prog 45 #[.pointer (some ⟨b, 0, none⟩), .agg #[.int .i64 x, .int .i64 y]] w fun e w' => e = .returned (.tuple #[]) ∧ Wrt b (l ++ pD (x, y)) w' ∧ WF b w w' := by
  obtain ⟨k, hk⟩ : ∃ k, w.heap.size = k := ⟨_, rfl⟩
  have hbk : b < k := hk ▸ h.lt
  have hal : Below w.heap.size w (w.alloc (.cells #[.int .i64 x, .int .i64 y] 23)) := (Below.refl _ _).alloc (Nat.le_refl _) _
  have H0 : Hid (Wrt b l (w.alloc (.cells #[.int .i64 x, .int .i64 y] 23)) ∧ Box (w.alloc (.cells #[.int .i64 x, .int .i64 y] 23)) k 23 [.int .i64 x, .int .i64 y] ∧ WF b w (w.alloc (.cells #[.int .i64 x, .int .i64 y] 23))) := ⟨h.later hal, box_new hk _ [.int .i64 x, .int .i64 y], WF.of hal (by omega)⟩
  have hx9 := pI_len x
  clear h hal
  go_enter Try.func45, Try.ntmps45
  go_upto_region 1 with fail
  generalize hW : w.alloc (.cells #[.int .i64 x, .int .i64 y] 23) = w1 at H0 ⊢
  clear hW hk
  obtain ⟨c0, c1⟩ := (⟨H0.out.2.1.has.at 0 rfl, H0.out.2.1.has.at 1 rfl⟩ : w1.cell? ⟨k, 0, none⟩ = some (.int .i64 x) ∧ w1.cell? ⟨k, 1, none⟩ = some (.int .i64 y))
  go_wp2_with fail
  refine (wnum_any b l x _ H0.out.1 h0 (by omega)).mono ?_
  rintro e w2 ⟨rfl, g2, k2⟩
  have H2 : Hid (Wrt b (l ++ pI x) w2 ∧ WF b w w2) := ⟨g2, H0.out.2.2.trans k2⟩
  have B2 := H0.out.2.1.kept k2 hbk (by decide)
  obtain ⟨c0, c1⟩ := (⟨B2.has.at 0 rfl, B2.has.at 1 rfl⟩ : w2.cell? ⟨k, 0, none⟩ = some (.int .i64 x) ∧ w2.cell? ⟨k, 1, none⟩ = some (.int .i64 y))
  clear g2 k2
  go_wp2_with fail
  refine (wnum_any b (l ++ pI x) y _ H2.out.1 h1 (by simp; omega)).mono ?_
  rintro e w3 ⟨rfl, g3, k3⟩
  go_wp2
  first | go_ret | go_end0
  exact ⟨rfl, by unfold pD; rw [← List.append_assoc]; exact g3, H2.out.2.trans k3⟩

end Go.Proofs.Ytjfgccjdkflfoaa
