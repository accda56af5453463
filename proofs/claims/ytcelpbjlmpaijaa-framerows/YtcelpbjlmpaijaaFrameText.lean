/-
  Package frame's sumText, by a contract: the four bytes of a text's Sum.
-/
import Derived.Test.YtcelpbjlmpaijaaFrameSum
import Derived.Test.YtcelpbjlmpaijaaBytes
namespace Go.Proofs.Ytcelpbjlmpaijaa
open Go.RowKit
set_option linter.unusedVariables false

/-- 'string(b)', b a block of bytes that was laid just now. -/
theorem run_string_new (w : World) (l : List UInt8) {C : Array Value} {n : Nat} (cap : Nat) (hC : C = (Vi.cells l).toArray) (hn : n = l.length) :
    (convert 37 9 (.slice (some ⟨w.heap.size, 0, none⟩) n cap)).run Try.prog (w.alloc (.cells C 5)) = .ok (.string ⟨l.toArray⟩) (w.alloc (.cells C 5)) := by
  subst hn
  subst hC
  refine run_convert_bytes_back _ 37 9 5 ⟨w.heap.size, 0, none⟩ cap l Try.underlying37 Try.underlying5 Try.underlying9 ?_
  intro j hj
  have e : (⟨w.heap.size, 0, none⟩ : Addr).add j = ⟨w.heap.size, j, none⟩ := by simp [Addr.add]; exact fun h => h.symm
  rw [e, World.cell?_alloc_new]
  simp [Vi.cells, List.getElem?_eq_getElem hj]

theorem run_string_new_drew (w : World) (l : List UInt8) {C : Array Value} {n : Nat} (cap : Nat) (hC : C = (Vi.cells l).toArray) (hn : n = l.length) :
    (convert 37 9 (.slice (some ⟨w.heap.size, 0, none⟩) n cap)).run Try.prog (w.alloc (.cells C 5)).drew = .ok (.string ⟨l.toArray⟩) (w.alloc (.cells C 5)).drew := by
  subst hn
  subst hC
  refine run_convert_bytes_back _ 37 9 5 ⟨w.heap.size, 0, none⟩ cap l Try.underlying37 Try.underlying5 Try.underlying9 ?_
  intro j hj
  have e : (⟨w.heap.size, 0, none⟩ : Addr).add j = ⟨w.heap.size, j, none⟩ := by simp [Addr.add]; exact fun h => h.symm
  rw [e, World.cell?_drew, World.cell?_alloc_new]
  simp [Vi.cells, List.getElem?_eq_getElem hj]

theorem four_cells (n : Nat) (h : n < 4294967296) : #[Value.int .u8 ((n : Int) / 16777216), .int .u8 ((n : Int) / 65536 % 256), .int .u8 ((n : Int) / 256 % 256), .int .u8 ((n : Int) % 256)] = (Vi.cells (Fr.four n)).toArray := by
  have h0 : ((n : Int) / 16777216) = ((UInt8.ofNat (n / 16777216)).toNat : Int) := by rw [UInt8.toNat_ofNat']; omega
  have h1 : ((n : Int) / 65536 % 256) = ((UInt8.ofNat (n / 65536)).toNat : Int) := by rw [UInt8.toNat_ofNat']; omega
  have h2 : ((n : Int) / 256 % 256) = ((UInt8.ofNat (n / 256)).toNat : Int) := by rw [UInt8.toNat_ofNat']; omega
  have h3 : ((n : Int) % 256) = ((UInt8.ofNat n).toNat : Int) := by rw [UInt8.toNat_ofNat']; omega
  rw [h0, h1, h2, h3]
  rfl

set_option maxHeartbeats 400000 in
set_option maxRecDepth 100000 in
theorem sumText_any (s : ByteArray) (w : World) (hs : s.size ≤ maxLen) :
    Calls Try.prog 16 #[.string s] w fun e w' => e = .returned (.string ⟨(Fr.four (Fr.sum s.data.toList)).toArray⟩) ∧ Below w.heap.size w w' := by
  have hlt := Fr.sum_lt s.data.toList
  have S := fun w => sum_any s w hs
  generalize Fr.sum s.data.toList = n at *
  have K := fun (w : World) => run_string_new w (Fr.four n) (n := 4) 4 (four_cells n hlt) rfl
  go_enter Try.func16, Try.ntmps16
  go_wp2_with (go_at_call 12; refine (S _).mono ?_; rintro e w1 ⟨rfl, rfl⟩)
  go_ret
  exact ⟨rfl, (Below.refl _ _).alloc (Nat.le_refl _) _⟩

end Go.Proofs.Ytcelpbjlmpaijaa
