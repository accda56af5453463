/-
  The document's GetOp, by contract.
-/
import Derived.Test.YtjfgccjdkflfoaaZRefGetA11
import Derived.Test.YtjfgccjdkflfoaaZRefGetB11
import Derived.Test.YtjfgccjdkflfoaaZRefGetC11
import Derived.Test.YtjfgccjdkflfoaaZRefGetD11
namespace Go.Proofs.Ytjfgccjdkflfoaa
open Go.RowKit
set_option linter.unusedVariables false
set_option linter.unusedSimpArgs false

set_option maxHeartbeats 4000000 in
set_option maxRecDepth 100000 in
/-- GetOp, of no number of nodes that may be. -/
theorem rgetop_bad (s : ByteArray) (n : Int) (w : World) (hn : ¬ (1 ≤ n ∧ n ≤ 16)) :
    Calls Try.prog 12 #[.string s, .int .i64 n] w fun e w' => ∃ q, e = .returned (.tuple #[oV o0 q, .int .i64 1100]) ∧ OOwn w.heap.size w' o0 q ∧ Below w.heap.size w w' := by
  obtain ⟨g, hg⟩ : ∃ g, w.heap.size = g := ⟨_, rfl⟩
  have hal : Below w.heap.size w (w.alloc (.cells zL.toArray 29)) := (Below.refl _ _).alloc (Nat.le_refl _) _
  have H0 : Hid (Has (w.alloc (.cells zL.toArray 29)) g zL ∧ Below g w (w.alloc (.cells zL.toArray 29))) := ⟨hg ▸ has_new w zL _, hg ▸ hal⟩
  rw [hg]
  clear hal
  by_cases h1 : n < 1
  · go_enter Try.func12, Try.ntmps12
    go_upto_region 1 with fail
    generalize hW : w.alloc (.cells zL.toArray 29) = w1 at H0 ⊢
    clear hW hg
    obtain ⟨b0, b1, b2, b3, b4, b5, b6, b7, b8, b9, b10, b11, b12, b13⟩ := (show Has w1 g zL from H0.out.1).f14
    obtain ⟨f0, f1, f2, f3, f4, f5, f6, f7, f8, f9, f10, f11, f12, f13⟩ := (show Has w1 g zL from H0.out.1).f14f
    have HEND : Hid (Has (putO14 w1 g o0 pq0) g zL ∧ OOwn g (putO14 w1 g o0 pq0) o0 pq0 ∧ Below g w (putO14 w1 g o0 pq0)) := zero_put H0.out.1 H0.out.2 (Nat.le_refl _)
    go_wp2
    dsimp only [putO14, put14, List.length_nil, o0, pq0] at HEND
    generalize hW : World.setCell _ (⟨g, 13, none⟩ : Addr) _ = w9 at HEND ⊢
    exact bodyPost_ret (ret_op2 rfl rfl rfl HEND.out.1) rfl ⟨pq0, rfl, HEND.out.2⟩
  · have h2 : 16 < n := by omega
    have h3 : ¬ n < 1 := h1
    go_enter Try.func12, Try.ntmps12
    go_upto_region 1 with fail
    generalize hW : w.alloc (.cells zL.toArray 29) = w1 at H0 ⊢
    clear hW hg
    obtain ⟨b0, b1, b2, b3, b4, b5, b6, b7, b8, b9, b10, b11, b12, b13⟩ := (show Has w1 g zL from H0.out.1).f14
    obtain ⟨f0, f1, f2, f3, f4, f5, f6, f7, f8, f9, f10, f11, f12, f13⟩ := (show Has w1 g zL from H0.out.1).f14f
    have HEND : Hid (Has (putO14 w1 g o0 pq0) g zL ∧ OOwn g (putO14 w1 g o0 pq0) o0 pq0 ∧ Below g w (putO14 w1 g o0 pq0)) := zero_put H0.out.1 H0.out.2 (Nat.le_refl _)
    go_wp2
    dsimp only [putO14, put14, List.length_nil, o0, pq0] at HEND
    generalize hW : World.setCell _ (⟨g, 13, none⟩ : Addr) _ = w9 at HEND ⊢
    exact bodyPost_ret (ret_op2 rfl rfl rfl HEND.out.1) rfl ⟨pq0, rfl, HEND.out.2⟩

theorem rgetop_good (s : ByteArray) (n : Nat) (w : World) (hs : s.size ≤ maxLen) (hm : 1 ≤ n ∧ n ≤ 16) :
    Calls Try.prog 12 #[.string s, .int .i64 (n : Nat)] w fun e w' => ∃ q, e = .returned (.tuple #[oV (getO s.data.toList n) q, .int .i64 (getE s.data.toList n)]) ∧ OOwn w.heap.size w' (getO s.data.toList n) q ∧ Below w.heap.size w w' := by
  have hk : (rdHead s.data.toList n).1.kind = 0 ∨ (rdHead s.data.toList n).1.kind = 1 ∨ (rdHead s.data.toList n).1.kind = 2 ∨ (rdHead s.data.toList n).1.kind = 3 ∨ (rdHead s.data.toList n).1.kind = 4 ∨ (rdHead s.data.toList n).1.kind = 5 ∨ ¬ (0 ≤ (rdHead s.data.toList n).1.kind ∧ (rdHead s.data.toList n).1.kind ≤ 5) := by omega
  rcases hk with hk | hk | hk | hk | hk | hk | hk
  · exact rgetop_k0 s n w hs hm hk
  · exact rgetop_k1 s n w hs hm hk
  · exact rgetop_k2 s n w hs hm hk
  · exact rgetop_k3 s n w hs hm hk
  · exact rgetop_k4 s n w hs hm hk
  · exact rgetop_k5 s n w hs hm hk
  · exact rgetop_kx s n w hs hm hk
theorem rgetop_any (s : ByteArray) (n : Int) (w : World) (hs : s.size ≤ maxLen) :
    Calls Try.prog 12 #[.string s, .int .i64 n] w fun e w' => ∃ q, e = .returned (.tuple #[oV (getO s.data.toList n) q, .int .i64 (getE s.data.toList n)]) ∧ OOwn w.heap.size w' (getO s.data.toList n) q ∧ Below w.heap.size w w' := by
  by_cases hn : 1 ≤ n ∧ n ≤ 16
  · obtain ⟨m, rfl⟩ := Int.eq_ofNat_of_zero_le (show 0 ≤ n by omega)
    exact rgetop_good s m w hs (by omega)
  · have e : okG s.data.toList n = false := by unfold okG; rw [decide_eq_false hn]; rfl
    unfold getO getE
    rw [e]
    exact rgetop_bad s n w hn

end Go.Proofs.Ytjfgccjdkflfoaa

