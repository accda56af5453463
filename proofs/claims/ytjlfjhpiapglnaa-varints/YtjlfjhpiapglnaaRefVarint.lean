/-
  The document's own answers for layer 1 (put, PutNum, GetNum, PutText, GetText of the reference package), by contracts: the same plain functions.
-/
import Derived.Test.YtjlfjhpiapglnaaVarintText
import Derived.Test.YtjlfjhpiapglnaaRefGetNum
namespace Go.Proofs.Ytjlfjhpiapglnaa
open Go.RowKit
set_option linter.unusedVariables false

set_option maxHeartbeats 1000000 in
set_option maxRecDepth 100000 in
theorem refput_nat (x : Nat) (w : World) (hx : x < 9223372036854775808) :
    Calls Try.prog 18 #[.int .i64 x] w fun e w' => e = .returned (.string ⟨(Vi.put x).toArray⟩) ∧ Below w.heap.size w w' := by
  have H : Hid (Vi.put x = [] ++ Vi.putF 9 x) := rfl
  go_enter Try.func18, Try.ntmps18
  go_wp2
  go_loopg [0, 3] 9 (fun f xv v wr => ∃ (y : Nat) (l : List UInt8), l.length + f = 9 ∧ 0 < f ∧ y < 128 ^ f ∧ Vi.put x = l ++ Vi.putF f y ∧ xv = .int .i64 y ∧ wr.ownsRow w.heap.size 5 1 v l.length (Vi.cells l) ∧ Below w.heap.size w wr)
  case atStart => exact ⟨x, [], rfl, by omega, hx, H.out, rfl, World.ownsRow_nil _ _ _ _, Below.refl _ _⟩
  case round =>
    clear H
    obtain ⟨y, l, hlf, hf, hy, hput, rfl, hown, hbel⟩ := hrel
    have HY : Hid (y < 128 ^ gk ∧ l.length + gk = 9 ∧ 0 < gk ∧ Vi.put x = l ++ Vi.putF gk y) := ⟨hy, hlf, hf, hput⟩
    have hy63 : y < 9223372036854775808 := Vi.lt63 hy (by omega)
    clear hy hlf hf hput
    have hsz : w.heap.size ≤ wr.heap.size := hbel.size
    by_cases hc : 128 ≤ y
    · go_wp2_with (at_builtin; refine wpList_append_byte rfl _ _ rfl (UInt8.ofNat (y % 128 + 128)) (Vi.ref128 y) rfl rfl hown (by have := HY.out; omega) hsz ?_; intro v' w' hown' hbel')
      have hb2 := hbel.trans hbel'
      have hn := Vi.putF_more HY.out.1 HY.out.2.2.1 hc
      go_roundg (gk - 1)
      case measure => omega
      case rel =>
        refine ⟨y / 128, l ++ [UInt8.ofNat (y % 128 + 128)], by have := HY.out.2.1; simp; omega, by omega, hn.2.1, ?_, ?_, hown', hb2⟩
        · rw [HY.out.2.2.2, hn.2.2]; simp
        · go_num
    · have hc2 : ¬ (127 : Int) < (y : Int) := by omega
      have hc3 : y ≤ 127 := by omega
      go_wp2_with (at_builtin; refine wpList_append_byte rfl _ _ rfl (UInt8.ofNat y) (Vi.byte_small hc) rfl rfl hown (by have := HY.out; omega) hsz ?_; intro v' w' hown' hbel'; have hstr := run_string_own hown')
      go_ret
      exact ⟨by rw [HY.out.2.2.2, Vi.putF_last HY.out.2.2.1 hc]; rfl, hbel.trans hbel'⟩

theorem refPutNum_any (x : Int) (w : World) (hw : (Lit.int .i64 x).wf = true) {l : List UInt8} {n : Nat} (hp : Vi.putI x = (l, n)) :
    Calls Try.prog 9 #[.int .i64 x] w fun e w' => e = .returned (.tuple #[.string ⟨l.toArray⟩, .int .i64 n]) ∧ Below w.heap.size w w' := by
  by_cases h : x < 0
  · rw [show Vi.putI x = ([], 101) by unfold Vi.putI; rw [if_pos h]] at hp
    simp only [Prod.mk.injEq] at hp
    obtain ⟨rfl, rfl⟩ := hp
    go_enter Try.func9, Try.ntmps9
    go_wp2
    go_ret2
    exact ⟨rfl, Below.refl _ _⟩
  · rw [show Vi.putI x = (Vi.put x.toNat, 0) by unfold Vi.putI; rw [if_neg h]] at hp
    simp only [Prod.mk.injEq] at hp
    obtain ⟨rfl, rfl⟩ := hp
    obtain ⟨y, rfl⟩ := Int.eq_ofNat_of_zero_le (show 0 ≤ x by omega)
    have hb := bounds_i64 hw
    go_enter Try.func9, Try.ntmps9
    go_wp2_with (go_at_call 18; refine (refput_nat y _ (by omega)).mono ?_; rintro e w1 ⟨rfl, hb1⟩)
    go_ret2
    exact ⟨by rw [Int.toNat_natCast]; rfl, hb1⟩

set_option maxHeartbeats 1000000 in
set_option maxRecDepth 100000 in
theorem refPutText_any (s : ByteArray) (w : World) (hs : s.size ≤ maxLen) {l : List UInt8} {n : Nat} (hp : Vi.putText s.data.toList = (l, n)) :
    Calls Try.prog 13 #[.string s] w fun e w' => e = .returned (.tuple #[.string ⟨l.toArray⟩, .int .i64 n]) ∧ Below w.heap.size w w' := by
  unfold maxLen at hs
  unfold Vi.putText at hp
  rw [size_list] at hp
  by_cases h : 65536 < s.size
  · rw [if_pos h] at hp
    simp only [Prod.mk.injEq] at hp
    obtain ⟨rfl, rfl⟩ := hp
    go_enter Try.func13, Try.ntmps13
    go_wp2
    go_ret2
    exact ⟨rfl, Below.refl _ _⟩
  · rw [if_neg h] at hp
    simp only [Prod.mk.injEq] at hp
    obtain ⟨rfl, rfl⟩ := hp
    have hl9 := Vi.put_length_le s.size
    go_enter Try.func13, Try.ntmps13
    go_wp2_with (go_at_call 18; refine (refput_nat s.size _ (by omega)).mono ?_; rintro e w1 ⟨rfl, hb⟩)
    go_ret2
    exact ⟨rfl, hb⟩

set_option maxHeartbeats 1000000 in
set_option maxRecDepth 100000 in
theorem refGetText_any (s : ByteArray) (a : Int) (w : World) (hs : s.size ≤ maxLen) (hw : (Lit.int .i64 a).wf = true) {l : List UInt8} {t n : Nat} (hp : Vi.getText s.data.toList a = (l, t, n)) :
    Calls Try.prog 15 #[.string s, .int .i64 a] w fun e w' => e = .returned (.tuple #[.string ⟨l.toArray⟩, .int .i64 t, .int .i64 n]) ∧ Below w.heap.size w w' := by
  obtain ⟨x, to, er, hg⟩ : ∃ x to er, Vi.getI s.data.toList a = (x, to, er) := ⟨_, _, _, rfl⟩
  unfold Vi.getText at hp
  rw [hg, size_list] at hp
  simp only at hp
  have G : Hid (Vi.getI s.data.toList a = (x, to, er)) := hg
  by_cases he : er = 0
  · subst he
    rw [if_pos rfl] at hp
    have hok := Vi.getI_ok hg
    rw [size_list] at hok
    obtain ⟨ha0, ha1, hx, hat, hto, _⟩ := hok
    clear hg
    by_cases h1 : 65536 < x
    · rw [if_pos h1] at hp
      simp only [Prod.mk.injEq] at hp
      obtain ⟨rfl, rfl, rfl⟩ := hp
      go_enter Try.func15, Try.ntmps15
      go_wp2_with (go_at_call 11; refine (refGetNum_any s a _ hs hw G.out).mono ?_; rintro e w1 ⟨rfl, rfl⟩)
      go_ret3
      exact ⟨rfl, Below.refl _ _⟩
    · rw [if_neg h1] at hp
      by_cases h2 : s.size - to < x
      · rw [if_pos h2] at hp
        simp only [Prod.mk.injEq] at hp
        obtain ⟨rfl, rfl, rfl⟩ := hp
        unfold maxLen at hs
        go_enter Try.func15, Try.ntmps15
        go_wp2_with (go_at_call 11; refine (refGetNum_any s a _ hs hw G.out).mono ?_; rintro e w1 ⟨rfl, rfl⟩)
        go_ret3
        exact ⟨rfl, Below.refl _ _⟩
      · rw [if_neg h2] at hp
        simp only [Prod.mk.injEq] at hp
        obtain ⟨rfl, rfl, rfl⟩ := hp
        unfold maxLen at hs
        go_enter Try.func15, Try.ntmps15
        go_wp2_with (go_at_call 11; refine (refGetNum_any s a _ hs hw G.out).mono ?_; rintro e w1 ⟨rfl, rfl⟩)
        go_ret3
        exact ⟨ret_sii (Vi.extract_eq s to x) (by simp) rfl, Below.refl _ _⟩
  · rw [if_neg he] at hp
    simp only [Prod.mk.injEq] at hp
    obtain ⟨rfl, rfl, rfl⟩ := hp
    have hx : x = 0 ∧ to = 0 := by
      have := Vi.getI_err (l := s.data.toList) (a := a) (by rw [hg]; exact he)
      rw [hg] at this
      simpa using this
    obtain ⟨rfl, rfl⟩ := hx
    have hne : ((er : Int) != 0) = true := by rw [bne_iff_ne]; omega
    clear hg
    go_enter Try.func15, Try.ntmps15
    go_wp2_with (go_at_call 11; refine (refGetNum_any s a _ hs hw G.out).mono ?_; rintro e w1 ⟨rfl, rfl⟩)
    go_ret3
    exact ⟨rfl, Below.refl _ _⟩

end Go.Proofs.Ytjlfjhpiapglnaa
