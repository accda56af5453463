/-
  The walk of the law Pairs, at whatever comes as its arguments.
-/
import Derived.Test.YthogncopedfmmaaDoorPairsCore
namespace Go.Proofs.YthogncopedfmmaaDoor.Pairs
open Go.RowKit
set_option linter.unusedVariables false

theorem walk {H : Type} {enc : TypeId × Value → H} {base : Nat} {d0 d1 d2 : DataW H} {p0 p1 p2 : List MemPlace} (v0 v1 v2 : Value) (w : World)
    (o0 : Value.okWide Tryd.prog w .any base 23 v0) (h0 : DataW.Trod enc Tryd.prog w 0 (fun _ => true) true 23 v0 d0 p0)
    (o1 : Value.okWide Tryd.prog w .any base 23 v1) (h1 : DataW.Trod enc Tryd.prog w 0 (fun _ => true) true 23 v1 d1 p1)
    (o2 : Value.okWide Tryd.prog w .any base 24 v2) (h2 : DataW.Trod enc Tryd.prog w 0 (fun _ => true) true 24 v2 d2 p2)
    (z2 : ∀ es sp, d2 = .slice es sp → (es.length + sp.length) * Tryd.prog.bytesOf 23 ≤ reachBytes) (ht : Tab w) :
    Calls Tryd.prog 3 #[v0, v1, v2] w fun e w' => e = .returned (.bool true) ∧ Below w.heap.size w w' := by
  have eb : Tryd.prog.bytesOf 23 = 16 := by kernel_rfl
  obtain ⟨a1, a2, rfl, w1, w2⟩ := open_two Tryd.underlying23 (by kernel_rfl) rfl rfl (by kernel_rfl) (by kernel_rfl) Tryd.underlying3 Tryd.underlying3 o0 h0
  obtain ⟨b1, b2, rfl, _, _⟩ := open_two Tryd.underlying23 (by kernel_rfl) rfl rfl (by kernel_rfl) (by kernel_rfl) Tryd.underlying3 Tryd.underlying3 o1 h1
  obtain ⟨ps, ao, cap, rfl, _, hr, _, hk⟩ := isPairs_of o2 h2
  have hl := hk 140737488351232 fun es sp e => by
    have := z2 es sp e
    rw [eb] at this
    unfold reachBytes at this
    omega
  exact core a1 a2 b1 b2 ao cap ps w (by simpa [Lit.wf, IntKind.min, IntKind.max, IntKind.bits, IntKind.signed] using w1) (by simpa [Lit.wf, IntKind.min, IntKind.max, IntKind.bits, IntKind.signed] using w2) hr hl ht

end Go.Proofs.YthogncopedfmmaaDoor.Pairs
