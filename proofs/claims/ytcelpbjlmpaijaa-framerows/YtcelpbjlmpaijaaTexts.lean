/-
  A list of texts that came in, as the walks are told of it; and texts put one behind the other.
-/
import Derived.Test.YtcelpbjlmpaijaaChecked
import Derived.Test.YtcelpbjlmpaijaaViBack
import Derived.WalkKit
import Derived.ProofKit
import Derived.SliceStrings
import Derived.OpenShut
namespace Go.Proofs.Ytcelpbjlmpaijaa
open Go.ChangeShapes Go.WideShapes Go.ChangeAt Go.RowKit
set_option linter.unusedVariables false

/-- The value is a slice of just these strings. -/
def IsTexts (w : World) (v : Value) (ss : List ByteArray) : Prop :=
  ∃ ao cap, v = .slice ao ss.length cap ∧ ss.length ≤ maxLen ∧ (∀ s ∈ ss, s.size ≤ maxLen) ∧
    (0 < ss.length → ∃ b off, ao = some ⟨b, off, none⟩ ∧ b < w.heap.size ∧ ∀ i, i < ss.length → w.cell? ⟨b, off + i, none⟩ = some (.string (ss.getD i ByteArray.empty)))

theorem isTexts_of {H : Type} {enc : TypeId × Value → H} {w : World} {base : Nat} {v : Value} {d : DataW H} {p : List MemPlace}
    (ok : Value.okWide Try.prog w .any base 35 v) (h : DataW.Trod enc Try.prog w 0 (fun _ => true) true 35 v d p) : ∃ ss, IsTexts w v ss := by
  obtain ⟨a0, len, cap, rfl⟩ := okWide_slice Try.underlying35 ok
  obtain ⟨fuel, hf⟩ := h
  rcases open_strings Try.underlying35 Try.underlying9 (by kernel_rfl) hf with ⟨hcs, _⟩ | ⟨x, l, c, ss, hcs, _, hl, hm, hz, _, hcell, hws⟩
  · simp [Value.cells] at hcs
    obtain ⟨rfl, rfl, rfl⟩ := hcs
    exact ⟨[], none, 0, rfl, by simp, by simp, fun h => by simp at h⟩
  · simp [Value.cells] at hcs
    obtain ⟨rfl, rfl, rfl⟩ := hcs
    have hz' : ss.length = cap := by simpa using hz
    have e : (ss.take len).length = len := by simp; omega
    refine ⟨ss.take len, some x, cap, by rw [e], by rw [e]; omega, fun s hs => hws s (List.mem_of_mem_take hs), fun h => ?_⟩
    rw [e] at h ⊢
    obtain ⟨b, off, spot⟩ := x
    have hc := hcell 0 (by omega)
    have hspot : spot = none := by simpa [Addr.add] using World.cell?_spot hc
    subst hspot
    have hb := World.block_lt_of_cell? w _ hc
    refine ⟨b, off, rfl, by simpa [Addr.add] using hb, fun i hi => ?_⟩
    have := hcell i (by omega)
    have e2 : (ss.take len).getD i ByteArray.empty = ss.getD i ByteArray.empty := by
      simp [List.getD, hi]
    rw [e2, ← this]
    rcases i with _ | i
    · simp [Addr.add]
    · simp [Addr.add]

namespace Vi
/-- Texts one behind the other. -/
def joined (l : List ByteArray) : List UInt8 := l.flatMap fun s => put s.size ++ s.data.toList

theorem joined_append (a b : List ByteArray) : joined (a ++ b) = joined a ++ joined b := by simp [joined]

theorem joined_one (s : ByteArray) : joined [s] = put s.size ++ s.data.toList := by simp [joined]

theorem take_snoc (ss : List ByteArray) (i : Nat) (h : i < ss.length) : ss.take (i + 1) = ss.take i ++ [ss.getD i ByteArray.empty] := by
  rw [List.take_succ_eq_append_getElem h]
  simp [List.getD, h]

theorem joined_at (ss : List ByteArray) (i : Nat) (h : i < ss.length) :
    joined ss = joined (ss.take i) ++ ((put (ss.getD i ByteArray.empty).size ++ (ss.getD i ByteArray.empty).data.toList) ++ joined (ss.drop (i + 1))) := by
  have e : ss = ss.take i ++ ([ss.getD i ByteArray.empty] ++ ss.drop (i + 1)) := by
    rw [← List.append_assoc, ← take_snoc ss i h, List.take_append_drop]
  rw [← joined_one, ← joined_append, ← joined_append, ← e]

theorem joined_length : ∀ (l : List ByteArray), (∀ s ∈ l, s.size ≤ 500) → (joined l).length ≤ 509 * l.length
  | [], _ => by simp [joined]
  | s :: l, h => by
    have ih := joined_length l (fun x hx => h x (List.mem_cons_of_mem _ hx))
    have h1 := h s (List.mem_cons_self ..)
    have h2 := put_length_le s.size
    have e : joined (s :: l) = (put s.size ++ s.data.toList) ++ joined l := by simp [joined]
    rw [e]
    simp only [List.length_append, List.length_cons]
    have : s.data.toList.length = s.size := by simp
    omega
end Vi

end Go.Proofs.Ytcelpbjlmpaijaa
