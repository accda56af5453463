/-
  The document's own answers for layer 1 (put, PutNum, GetNum, PutText, GetText of the reference package), by contracts: the same plain functions.
-/
import Derived.Test.YtjfgccjdkflfoaaVarintText
import Derived.Test.YtjfgccjdkflfoaaRefGetNum
import Derived.Test.YtjfgccjdkflfoaaRefPut
namespace Go.Proofs.Ytjfgccjdkflfoaa
open Go.RowKit
set_option linter.unusedVariables false

set_option maxHeartbeats 1000000 in
set_option maxRecDepth 100000 in
theorem refGetText_any (s : ByteArray) (a : Int) (w : World) (hs : s.size ≤ maxLen) (hw : (Lit.int .i64 a).wf = true) {l : List UInt8} {t n : Nat} (hp : Vi.getText s.data.toList a = (l, t, n)) :
    Calls Try.prog 56 #[.string s, .int .i64 a] w fun e w' => e = .returned (.tuple #[.string ⟨l.toArray⟩, .int .i64 t, .int .i64 n]) ∧ Below w.heap.size w w' := by
  obtain ⟨x, to, er, hg⟩ : ∃ x to er, Vi.getI s.data.toList a = (x, to, er) := ⟨_, _, _, rfl⟩
  unfold Vi.getText at hp
  rw [hg, size_list] at hp
  simp only at hp
  have G : Hid (Vi.getI s.data.toList a = (x, to, er)) := hg
  by_cases he : er = 0
  · subst he
    rw [if_pos rfl] at hp
    have hok := Vi.getI_ok hg
    rw [size_list] at hok
    obtain ⟨ha0, ha1, hx, hat, hto, _⟩ := hok
    clear hg
    by_cases h1 : 65536 < x
    · rw [if_pos h1] at hp
      simp only [Prod.mk.injEq] at hp
      obtain ⟨rfl, rfl, rfl⟩ := hp
      go_enter Try.func56, Try.ntmps56
      go_wp2_with (go_at_call 55; refine (refGetNum_any s a _ hs hw G.out).mono ?_; rintro e w1 ⟨rfl, rfl⟩)
      go_ret3
      exact ⟨rfl, Below.refl _ _⟩
    · rw [if_neg h1] at hp
      by_cases h2 : s.size - to < x
      · rw [if_pos h2] at hp
        simp only [Prod.mk.injEq] at hp
        obtain ⟨rfl, rfl, rfl⟩ := hp
        unfold maxLen at hs
        go_enter Try.func56, Try.ntmps56
        go_wp2_with (go_at_call 55; refine (refGetNum_any s a _ hs hw G.out).mono ?_; rintro e w1 ⟨rfl, rfl⟩)
        go_ret3
        exact ⟨rfl, Below.refl _ _⟩
      · rw [if_neg h2] at hp
        simp only [Prod.mk.injEq] at hp
        obtain ⟨rfl, rfl, rfl⟩ := hp
        unfold maxLen at hs
        go_enter Try.func56, Try.ntmps56
        go_wp2_with (go_at_call 55; refine (refGetNum_any s a _ hs hw G.out).mono ?_; rintro e w1 ⟨rfl, rfl⟩)
        go_ret3
        exact ⟨ret_sii (Vi.extract_eq s to x) (by simp) rfl, Below.refl _ _⟩
  · rw [if_neg he] at hp
    simp only [Prod.mk.injEq] at hp
    obtain ⟨rfl, rfl, rfl⟩ := hp
    have hx : x = 0 ∧ to = 0 := by
      have := Vi.getI_err (l := s.data.toList) (a := a) (by rw [hg]; exact he)
      rw [hg] at this
      simpa using this
    obtain ⟨rfl, rfl⟩ := hx
    have hne : ((er : Int) != 0) = true := by rw [bne_iff_ne]; omega
    clear hg
    go_enter Try.func56, Try.ntmps56
    go_wp2_with (go_at_call 55; refine (refGetNum_any s a _ hs hw G.out).mono ?_; rintro e w1 ⟨rfl, rfl⟩)
    go_ret3
    exact ⟨rfl, Below.refl _ _⟩

end Go.Proofs.Ytjfgccjdkflfoaa
