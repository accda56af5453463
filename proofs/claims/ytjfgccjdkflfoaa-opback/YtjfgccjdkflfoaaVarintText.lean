/-
  Package varint's PutText and GetText, by contracts.
-/
import Derived.Test.YtjfgccjdkflfoaaVarintGet
import Derived.Test.YtjfgccjdkflfoaaVarintPut
import Derived.Test.YtjfgccjdkflfoaaClone
import Derived.Test.YtjfgccjdkflfoaaStrs
namespace Go.Proofs.Ytjfgccjdkflfoaa
open Go.RowKit
set_option linter.unusedVariables false

set_option maxHeartbeats 1000000 in
set_option maxRecDepth 100000 in
theorem putText_any (s : ByteArray) (w : World) (hs : s.size ≤ maxLen) {l : List UInt8} {n : Nat} (hp : Vi.putText s.data.toList = (l, n)) :
    Calls Try.prog 66 #[.string s] w fun e w' => e = .returned (.tuple #[.string ⟨l.toArray⟩, .int .i64 n]) ∧ Below w.heap.size w w' := by
  unfold maxLen at hs
  unfold Vi.putText at hp
  rw [size_list] at hp
  by_cases h : 65536 < s.size
  · rw [if_pos h] at hp
    simp only [Prod.mk.injEq] at hp
    obtain ⟨rfl, rfl⟩ := hp
    go_enter Try.func66, Try.ntmps66
    go_wp2
    go_ret2
    exact ⟨rfl, Below.refl _ _⟩
  · rw [if_neg h] at hp
    simp only [Prod.mk.injEq] at hp
    obtain ⟨rfl, rfl⟩ := hp
    have hl9 := Vi.put_length_le s.size
    go_enter Try.func66, Try.ntmps66
    go_wp2_with (go_at_call 64; refine (put_nat s.size _ (by omega)).mono ?_; rintro e w1 ⟨rfl, hb⟩)
    go_ret2
    exact ⟨rfl, hb⟩

set_option maxHeartbeats 1000000 in
set_option maxRecDepth 100000 in
theorem getText_any (s : ByteArray) (a : Int) (w : World) (hs : s.size ≤ maxLen) (hw : (Lit.int .i64 a).wf = true) {l : List UInt8} {t n : Nat} (hp : Vi.getText s.data.toList a = (l, t, n)) :
    Calls Try.prog 68 #[.string s, .int .i64 a] w fun e w' => e = .returned (.tuple #[.string ⟨l.toArray⟩, .int .i64 t, .int .i64 n]) ∧ Below w.heap.size w w' := by
  obtain ⟨x, to, er, hg⟩ : ∃ x to er, Vi.getI s.data.toList a = (x, to, er) := ⟨_, _, _, rfl⟩
  unfold Vi.getText at hp
  rw [hg, size_list] at hp
  simp only at hp
  have G : Hid (Vi.getI s.data.toList a = (x, to, er)) := hg
  by_cases he : er = 0
  · subst he
    rw [if_pos rfl] at hp
    have hok := Vi.getI_ok hg
    rw [size_list] at hok
    obtain ⟨ha0, ha1, hx, hat, hto, _⟩ := hok
    clear hg
    by_cases h1 : 65536 < x
    · rw [if_pos h1] at hp
      simp only [Prod.mk.injEq] at hp
      obtain ⟨rfl, rfl, rfl⟩ := hp
      go_enter Try.func68, Try.ntmps68
      go_wp2_with (go_at_call 67; refine (get_any s a _ hs hw G.out).mono ?_; rintro e w1 ⟨rfl, rfl⟩)
      go_ret3
      exact ⟨rfl, Below.refl _ _⟩
    · rw [if_neg h1] at hp
      by_cases h2 : s.size - to < x
      · rw [if_pos h2] at hp
        simp only [Prod.mk.injEq] at hp
        obtain ⟨rfl, rfl, rfl⟩ := hp
        unfold maxLen at hs
        go_enter Try.func68, Try.ntmps68
        go_wp2_with (go_at_call 67; refine (get_any s a _ hs hw G.out).mono ?_; rintro e w1 ⟨rfl, rfl⟩)
        go_ret3
        exact ⟨rfl, Below.refl _ _⟩
      · rw [if_neg h2] at hp
        simp only [Prod.mk.injEq] at hp
        obtain ⟨rfl, rfl, rfl⟩ := hp
        unfold maxLen at hs
        go_enter Try.func68, Try.ntmps68
        go_wp2_with (first | (go_at_call 67; refine (get_any s a _ hs hw G.out).mono ?_; rintro e w1 ⟨rfl, rfl⟩) | (go_at_call 74; refine (clone_any _ _ (by rw [Vi.extract_size s to x (by omega)]; omega)).mono ?_; rintro e w2 ⟨rfl, hb⟩))
        go_ret3
        exact ⟨ret_sii (Vi.extract_eq s to x) (by simp) rfl, hb⟩
  · rw [if_neg he] at hp
    simp only [Prod.mk.injEq] at hp
    obtain ⟨rfl, rfl, rfl⟩ := hp
    have hx : x = 0 ∧ to = 0 := by
      have := Vi.getI_err (l := s.data.toList) (a := a) (by rw [hg]; exact he)
      rw [hg] at this
      simpa using this
    obtain ⟨rfl, rfl⟩ := hx
    have hne : ((er : Int) != 0) = true := by rw [bne_iff_ne]; omega
    clear hg
    go_enter Try.func68, Try.ntmps68
    go_wp2_with (go_at_call 67; refine (get_any s a _ hs hw G.out).mono ?_; rintro e w1 ⟨rfl, rfl⟩)
    go_ret3
    exact ⟨rfl, Below.refl _ _⟩

end Go.Proofs.Ytjfgccjdkflfoaa
