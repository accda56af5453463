/-
  '[]byte(s)' as one step: a new block that holds the bytes of s, which may be written; and 'string(b)' of such a block.
-/
import Derived.Test.YtcelpbjlmpaijaaChecked
import Derived.Test.YtcelpbjlmpaijaaBytes
namespace Go.Proofs.Ytcelpbjlmpaijaa
open Go.RowKit
set_option linter.unusedVariables false

/-- The world behind '[]byte(s)'. -/
def bytesWorld (s : ByteArray) (w : World) : World :=
  w.drew.alloc (.cells (bytesRow s (grownCap w s.size 0 5)) 5 ((bytesRow s (grownCap w s.size 0 5)).size, (bytesRow s (grownCap w s.size 0 5)).size + 1))

/-- The capacity that was drawn. -/
def bytesCap (s : ByteArray) (w : World) : Nat := grownCap w s.size 0 5

theorem run_bytes (s : ByteArray) (w : World) :
    (convert 9 37 (.string s)).run Try.prog w = .ok (.slice (some ⟨w.heap.size, 0, none⟩) s.size (bytesCap s w)) (bytesWorld s w) :=
  run_bytes_of_string w 9 37 5 s Try.underlying9 Try.underlying37 Try.underlying5

theorem bytesWorld_below (s : ByteArray) (w : World) : Below w.heap.size w (bytesWorld s w) := (Below.refl _ _).drew.alloc (Nat.le_refl _) _

theorem bytesWorld_size (s : ByteArray) (w : World) : (bytesWorld s w).heap.size = w.heap.size + 1 := by
  unfold bytesWorld; rw [World.size_alloc]; rfl

theorem bytesWorld_cell (s : ByteArray) (w : World) (j : Nat) (hj : j < s.size) : (bytesWorld s w).cell? ⟨w.heap.size, j, none⟩ = some (.int .u8 (s[j].toNat : Int)) := by
  have h := World.cell?_alloc_mark w.drew (bytesRow s (grownCap w s.size 0 5)) 5 ((bytesRow s (grownCap w s.size 0 5)).size, (bytesRow s (grownCap w s.size 0 5)).size + 1) j
  refine h.trans ?_
  unfold bytesRow
  have hj' : j < s.data.size := hj
  rw [Array.getElem?_append_left (by simpa using hj')]
  simp
  exact ⟨s[j], Array.getElem?_eq_getElem hj', rfl⟩

theorem bytesWorld_soft (s : ByteArray) (w : World) (j : Nat) (hj : j < s.size) : (bytesWorld s w).frozen? ⟨w.heap.size, j, none⟩ = false := by
  have h : (bytesWorld s w).heap[w.heap.size]? = some (.cells (bytesRow s (grownCap w s.size 0 5)) 5 ((bytesRow s (grownCap w s.size 0 5)).size, (bytesRow s (grownCap w s.size 0 5)).size + 1)) := by
    show (w.heap.push _)[w.heap.size]? = _
    simp
  have hsz : s.size ≤ (bytesRow s (grownCap w s.size 0 5)).size := by
    unfold bytesRow
    simp
  unfold World.frozen?
  rw [h]
  simp
  omega

/-- 'string(b)', b the bytes l of some block. -/
theorem run_string_at (w : World) (g cap : Nat) (l : List UInt8) {n : Nat} (hn : n = l.length) (hc : ∀ j (hj : j < l.length), w.cell? ⟨g, j, none⟩ = some (.int .u8 (l[j].toNat : Int))) :
    (convert 37 9 (.slice (some ⟨g, 0, none⟩) n cap)).run Try.prog w = .ok (.string ⟨l.toArray⟩) w := by
  subst hn
  refine run_convert_bytes_back _ 37 9 5 ⟨g, 0, none⟩ cap l Try.underlying37 Try.underlying5 Try.underlying9 ?_
  intro j hj
  have e : (⟨g, 0, none⟩ : Addr).add j = ⟨g, j, none⟩ := by simp [Addr.add]; exact fun h => h.symm
  rw [e]
  exact hc j hj

/-- The bytes l lie in block g from its begin on. -/
def Lies (w : World) (g : Nat) (l : List UInt8) : Prop := ∀ j (hj : j < l.length), w.cell? ⟨g, j, none⟩ = some (.int .u8 (l[j].toNat : Int))

theorem Lies.set {w : World} {g : Nat} {l : List UInt8} (h : Lies w g l) (k : Nat) (v : UInt8) : Lies (w.setCell ⟨g, k, none⟩ (.int .u8 (v.toNat : Int))) g (l.set k v) := by
  intro j hj
  have hj' : j < l.length := by simpa using hj
  by_cases e : k = j
  · subst e
    rw [World.cell?_setCell_same _ _ _ (h k hj')]
    simp
  · rw [World.cell?_setCell_other _ _ _ _ (by simp), h j hj', List.getElem_set_ne e]

theorem Lies.other {w : World} {g g' k : Nat} {l : List UInt8} (h : Lies w g l) (hg : g' ≠ g) (v : Value) : Lies (w.setCell ⟨g', k, none⟩ v) g l := by
  intro j hj
  rw [World.cell?_setCell_other _ _ _ _ (by simp)]
  exact h j hj

theorem Lies.later {w w' : World} {g : Nat} {l : List UInt8} (h : Lies w g l) (hb : Below w.heap.size w w') : Lies w' g l := fun j hj => cell_later hb (h j hj)

/-- '[]byte(s)', as a step whose world is a letter. -/
theorem bytes_made (s : ByteArray) (w : World) : ∃ (W : World) (c : Nat), (convert 9 37 (.string s)).run Try.prog w = .ok (.slice (some ⟨w.heap.size, 0, none⟩) s.size c) W ∧
    Below w.heap.size w W ∧ W.heap.size = w.heap.size + 1 ∧ Lies W w.heap.size s.data.toList ∧ ∀ j, j < s.size → W.frozen? ⟨w.heap.size, j, none⟩ = false := by
  refine ⟨bytesWorld s w, bytesCap s w, run_bytes s w, bytesWorld_below s w, bytesWorld_size s w, ?_, bytesWorld_soft s w⟩
  intro j hj
  exact bytesWorld_cell s w j (by simpa using hj)

theorem string_lies {w : World} {g : Nat} {l : List UInt8} (h : Lies w g l) (cap : Nat) {n : Nat} (hn : n = l.length) :
    (convert 37 9 (.slice (some ⟨g, 0, none⟩) n cap)).run Try.prog w = .ok (.string ⟨l.toArray⟩) w := run_string_at w g cap l hn h

end Go.Proofs.Ytcelpbjlmpaijaa
