/-
  The document's own answers for layer 2 (PutFrame, GetFrame of the reference package), by contracts: the same plain functions.
-/
import Derived.Test.YtcelpbjlmpaijaaFrameGet
import Derived.Test.YtcelpbjlmpaijaaRefSum
import Derived.Test.YtcelpbjlmpaijaaRefPut
import Derived.Test.YtcelpbjlmpaijaaRefGetNum
import Derived.Deep.QuietTactic
import Derived.BigQuiet
namespace Go.Proofs.Ytcelpbjlmpaijaa
open Go.RowKit
set_option linter.unusedVariables false

theorem wrap_byte (k : Nat) : IntKind.u8.wrap (k : Int) = ((UInt8.ofNat k).toNat : Int) := by
  rw [UInt8.toNat_ofNat', IntKind.wrap_u8]; omega

theorem four_wraps (k : Nat) : #[Value.int .u8 (IntKind.u8.wrap ((k : Int) / 16777216)), .int .u8 (IntKind.u8.wrap ((k : Int) / 65536)), .int .u8 (IntKind.u8.wrap ((k : Int) / 256)), .int .u8 (IntKind.u8.wrap (k : Int))] = (Vi.cells (Fr.four k)).toArray := by
  have h0 : IntKind.u8.wrap ((k : Int) / 16777216) = ((UInt8.ofNat (k / 16777216)).toNat : Int) := by rw [UInt8.toNat_ofNat', IntKind.wrap_u8]; omega
  have h1 : IntKind.u8.wrap ((k : Int) / 65536) = ((UInt8.ofNat (k / 65536)).toNat : Int) := by rw [UInt8.toNat_ofNat', IntKind.wrap_u8]; omega
  have h2 : IntKind.u8.wrap ((k : Int) / 256) = ((UInt8.ofNat (k / 256)).toNat : Int) := by rw [UInt8.toNat_ofNat', IntKind.wrap_u8]; omega
  have h3 := wrap_byte k
  rw [h0, h1, h2, h3]
  rfl

/-- The four bytes of a block that was laid ahead of a call, as a string behind it. -/
theorem conv_later {w w2 : World} (hb : Below w.heap.size w w2) (k g : Nat)
    (h0 : w.cell? ⟨g, 0, none⟩ = some (.int .u8 (IntKind.u8.wrap ((k : Int) / 16777216)))) (h1 : w.cell? ⟨g, 1, none⟩ = some (.int .u8 (IntKind.u8.wrap ((k : Int) / 65536))))
    (h2 : w.cell? ⟨g, 2, none⟩ = some (.int .u8 (IntKind.u8.wrap ((k : Int) / 256)))) (h3 : w.cell? ⟨g, 3, none⟩ = some (.int .u8 (IntKind.u8.wrap (k : Int)))) :
    (convert 37 9 (.slice (some ⟨g, 0, none⟩) 4 4)).run Try.prog w2 = .ok (.string ⟨(Fr.four k).toArray⟩) w2 := by
  have e0 : IntKind.u8.wrap ((k : Int) / 16777216) = ((UInt8.ofNat (k / 16777216)).toNat : Int) := by rw [UInt8.toNat_ofNat', IntKind.wrap_u8]; omega
  have e1 : IntKind.u8.wrap ((k : Int) / 65536) = ((UInt8.ofNat (k / 65536)).toNat : Int) := by rw [UInt8.toNat_ofNat', IntKind.wrap_u8]; omega
  have e2 : IntKind.u8.wrap ((k : Int) / 256) = ((UInt8.ofNat (k / 256)).toNat : Int) := by rw [UInt8.toNat_ofNat', IntKind.wrap_u8]; omega
  have e3 := wrap_byte k
  rw [e0] at h0; rw [e1] at h1; rw [e2] at h2; rw [e3] at h3
  refine run_convert_bytes_back _ 37 9 5 ⟨g, 0, none⟩ 4 (Fr.four k) Try.underlying37 Try.underlying5 Try.underlying9 ?_
  intro j hj
  have hj' : j < 4 := hj
  match j, hj' with
  | 0, _ => exact cell_later hb h0
  | 1, _ => exact cell_later hb h1
  | 2, _ => exact cell_later hb h2
  | 3, _ => exact cell_later hb h3

set_option maxHeartbeats 400000 in
set_option maxRecDepth 100000 in
theorem refPutFrame_any (s : ByteArray) (w : World) (hs : s.size ≤ maxLen) {l : List UInt8} {n : Nat} (hp : Fr.put s.data.toList = (l, n)) :
    Calls Try.prog 8 #[.string s] w fun e w' => e = .returned (.tuple #[.string ⟨l.toArray⟩, .int .i64 n]) ∧ Below w.heap.size w w' := by
  unfold Fr.put at hp
  rw [size_list] at hp
  have hlt := Fr.sum_lt s.data.toList
  have S := fun w => refSum_any s w hs
  generalize Fr.sum s.data.toList = k at *
  unfold maxLen at hs
  by_cases h : 32768 < s.size
  · rw [if_pos h] at hp
    simp only [Prod.mk.injEq] at hp
    obtain ⟨rfl, rfl⟩ := hp
    go_enter Try.func8, Try.ntmps8
    go_wp2
    go_ret2
    exact ⟨rfl, Below.refl _ _⟩
  · rw [if_neg h] at hp
    simp only [Prod.mk.injEq] at hp
    obtain ⟨rfl, rfl⟩ := hp
    have hl9 := Vi.put_length_le s.size
    have K := fun (w : World) => run_string_new w (Fr.four k) (n := 4) 4 (four_wraps k) rfl
    have f1 : ∀ w2 : World, Below w.drew.heap.size w.drew w2 → ∀ o, Below w.heap.size w (w2.alloc o) := fun w2 h o => ((Below.refl _ _).drew.trans h).alloc h.size o
    have f2 : ∀ (o : Obj) (w2 : World), Below (w.alloc o).drew.heap.size (w.alloc o).drew w2 → Below w.heap.size w w2 := fun o w2 h => ((Below.refl _ _).alloc (Nat.le_refl _) o).drew.trans (h.mono (by simp))
    have K2 := fun (w : World) => run_string_new_drew w (Fr.four k) (n := 4) 4 (four_wraps k) rfl
    have KL := fun (w w2 : World) (hb : Below w.heap.size w w2) => conv_later hb k
    have h4 : (Fr.four k).length ≤ 4 := Nat.le_refl _
    generalize Fr.four k = q at *
    go_enter Try.func8, Try.ntmps8
    go_wp2_with (go_at_call 13; refine (S _).mono ?_; rintro e w1 ⟨rfl, rfl⟩)
    go_region_with (first | (go_at_call 17; refine (refput_nat s.size _ (by omega)).mono ?_; rintro e w2 ⟨rfl, hb2⟩; have K3 := KL _ _ hb2))
    all_goals go_wp2
    all_goals go_ret2
    · exact ⟨ret_si (join3 _ _ _) rfl, f1 _ hb2 _⟩
    · exact ⟨ret_si (join3 _ _ _) rfl, f2 _ _ hb2⟩
    · exact ⟨ret_si (join3 _ _ _) rfl, f2 _ _ hb2⟩

end Go.Proofs.Ytcelpbjlmpaijaa
