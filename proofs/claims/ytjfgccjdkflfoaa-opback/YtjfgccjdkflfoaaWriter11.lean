/-
  A strings.Builder that is the one field of a writer of one's own: copyCheck, WriteString, String, by contracts (the library's own speak of a Builder in a block of its own type).
-/
import Derived.Test.YtjfgccjdkflfoaaOnTo
import Derived.Lib.Builder
import Derived.Lib.AppendStr
import Derived.Lib.UnsafeStr
import Derived.Lib.OthersKept
import Derived.RegionTactic
namespace Go.Proofs.Ytjfgccjdkflfoaa
open Go.RowKit
set_option linter.unusedVariables false
set_option linter.unusedSimpArgs false

theorem Try.infoWb : (Try.prog.info? 5).map (fun i => (i.zero, i.size, i.bytes)) = some (some (.int .u8 0), 1, 1) := by kernel_rfl
theorem Try.sizeWb : (Try.prog.info? 54).map (·.size) = some 2 := by kernel_rfl
theorem Try.liesWb : liesAt Try.prog Try.prog.depth 56 (2 / Try.prog.cellsOf 56) 0 54 1 = true := by kernel_rfl
theorem Try.cellsWb : Try.prog.cellsOf 5 = 1 := by kernel_rfl

/-- A writer in block b that holds the bytes l. -/
def Wrt (b : Nat) (l : List UInt8) (w : World) : Prop := Lib.IsBuilder 56 5 b b (Lib.byteCells l) w
/-- .. that was written to. -/
def Wru (b : Nat) (l : List UInt8) (w : World) : Prop := Lib.BuilderAt 56 5 b b (.pointer (some ⟨b, 0, none⟩)) (Lib.byteCells l) w
theorem Wru.is {b : Nat} {l : List UInt8} {w : World} (h : Wru b l w) : Wrt b l w := Or.inr h
theorem wrt_new (w : World) : Wrt w.heap.size [] (w.alloc (.cells #[.pointer none, .slice none 0 0] 56)) := Lib.fresh_isBuilder _ _ w
theorem builder_later {T e : TypeId} {B b : Nat} {p : Value} {bs : List Value} {w w' : World} (h : Lib.BuilderAt T e B b p bs w) (hb : Below w.heap.size w w') : Lib.BuilderAt T e B b p bs w' := by
  have hlt := h.lt
  obtain ⟨hB, v, hk, ho, hn⟩ := h
  exact ⟨hB, v, (hb.block b hlt).trans hk, own_later ho hb, hn⟩
theorem Wrt.later {b : Nat} {l : List UInt8} {w w' : World} (h : Wrt b l w) (hb : Below w.heap.size w w') : Wrt b l w' := by
  rcases h with h | h
  · exact Or.inl (builder_later h hb)
  · exact Or.inr (builder_later h hb)
theorem Wrt.lt {b : Nat} {l : List UInt8} {w : World} (h : Wrt b l w) : b < w.heap.size := by
  rcases h with h | h
  · exact h.lt
  · exact h.lt

/-- What a write leaves alone: all below the writer, and what is above it but the rows of bytes. -/
def WF (b : Nat) (w w' : World) : Prop := Below b w w' ∧ Lib.OthersKept 5 (some b) w w'
theorem WF.refl (b : Nat) (w : World) : WF b w w := ⟨Below.refl _ _, Lib.OthersKept.refl _ _ _⟩
theorem WF.trans {b : Nat} {w w1 w2 : World} (h : WF b w w1) (k : WF b w1 w2) : WF b w w2 := ⟨h.1.trans k.1, h.2.trans k.2⟩
theorem WF.of {b : Nat} {w w' : World} (h : Below w.heap.size w w') (hb : b ≤ w.heap.size) : WF b w w' :=
  ⟨h.mono hb, fun k o hk _ _ => (h.block k (Array.getElem?_eq_some_iff.1 hk).1).trans hk⟩
/-- Block k holds the cells xs, of type T, and nothing else. -/
def Box (w : World) (k : Nat) (T : TypeId) (xs : List Value) : Prop := w.heap[k]? = some (.cells xs.toArray T (0, 0))
theorem Box.kept {b k : Nat} {T : TypeId} {xs : List Value} {w w' : World} (h : Box w k T xs) (hw : WF b w w') (hb : b < k) (hT : T ≠ 5) : Box w' k T xs :=
  hw.2 k _ h (by simp; omega) (fun c fz e => by injection e with _ e2 _; exact hT e2)
theorem Box.later {k : Nat} {T : TypeId} {xs : List Value} {w w' : World} (h : Box w k T xs) (hw : Below w.heap.size w w') : Box w' k T xs :=
  (hw.block k (Array.getElem?_eq_some_iff.1 h).1).trans h
theorem box_new {w : World} {k : Nat} (hk : w.heap.size = k) (T : TypeId) (xs : List Value) : Box (w.alloc (.cells xs.toArray T)) k T xs := hk ▸ heap_alloc_new w _
theorem Box.lt {k : Nat} {T : TypeId} {xs : List Value} {w : World} (h : Box w k T xs) : k < w.heap.size := (Array.getElem?_eq_some_iff.1 h).1
theorem Box.has {k : Nat} {T : TypeId} {xs : List Value} {w : World} (h : Box w k T xs) : Has w k xs :=
  ⟨h.lt, fun i u hu => ⟨by rw [Lib.cell_of_heap h]; simpa using hu, Lib.frozen_of_heap h i⟩⟩

set_option maxHeartbeats 1000000 in
set_option maxRecDepth 100000 in
theorem wcheck_any (b : Nat) (l : List UInt8) (w : World) (h : Wrt b l w) :
    Calls Try.prog 73 #[.pointer (some ⟨b, 0, none⟩)] w fun e w' => e = .returned (.tuple #[]) ∧ Wru b l w' ∧ WF b w w' := by
  obtain ⟨j, hj, hjs⟩ := Option.map_eq_some_iff.1 Try.sizeWb
  rcases h with h | h
  · have c0 := h.cell0
    have hsh := h.shape
    have f0 := h.frozen0
    go_enter Try.func73, Try.ntmps73
    go_wp2
    rw [Lib.run_to_unsafe w ⟨b, 0, none⟩ Try.underlying52 Try.underlying109 hj (by rw [hjs]; decide) hsh (Nat.zero_lt_succ 1)]
    simp only [Result.andThen]
    rw [Oper.upon_value]
    go_wp2
    rw [run_callFunc_extern Try.func76 (by kernel_rfl) (by kernel_rfl) (by kernel_rfl) (e := Extern.AbiNoEscape.same) (by kernel_rfl)]
    rw [Lib.run_noEscape]
    simp only [Result.andThen]
    rw [Oper.upon_value]
    go_wp2
    rw [Lib.run_from_unsafe w ⟨b, 0, none⟩ Try.underlying109 Try.underlying52 hj hsh Try.liesWb]
    simp only [Result.andThen]
    rw [Oper.upon_value]
    go_wp2
    go_end0
    exact ⟨rfl, h.used _, (Below.refl b w).setCell (p := ⟨b, 0, none⟩) (Nat.le_refl _) _, (Lib.OthersKept.refl _ _ w).setCell ⟨b, 0, none⟩ rfl _⟩
  · have c0 := h.cell0
    go_enter Try.func73, Try.ntmps73
    go_wp2
    rw [Lib.run_neq_ptr_same w _ Try.underlying52 hj]
    go_wp2
    go_end0
    exact ⟨rfl, h, WF.refl _ _⟩

theorem bytes_join (l : List UInt8) (s : ByteArray) : Lib.byteCells l ++ Lib.strCells s = Lib.byteCells (l ++ s.data.toList) := by
  simp [Lib.byteCells, Lib.strCells]

set_option maxHeartbeats 2000000 in
set_option maxRecDepth 100000 in
/-- WriteString, where there is room for all bytes that may be. -/
theorem wstring_any (b : Nat) (l : List UInt8) (s : ByteArray) (w : World) (h : Wrt b l w) (hl : l.length + s.size ≤ 140737488355328) :
    Calls Try.prog 65 #[.pointer (some ⟨b, 0, none⟩), .string s] w fun e w' => e = .returned (.tuple #[.int .i64 s.size, .nilIface]) ∧ Wrt b (l ++ s.data.toList) w' ∧ WF b w w' := by
  obtain ⟨i0, hi, hz0, hz1, hz2⟩ := info_parts Try.infoWb
  have hlt := h.lt
  go_enter Try.func65, Try.ntmps65
  go_wp2_with fail
  refine (wcheck_any b l _ h).mono ?_
  rintro e w1 ⟨rfl, h1, hb1, hk1⟩
  obtain ⟨hB, v, hbk, hown, hne⟩ := id h1
  have c0 : w1.cell? ⟨b, 0, none⟩ = some (.pointer (some ⟨b, 0, none⟩)) := by rw [Lib.cell_of_heap hbk]; rfl
  have c1 : w1.cell? ⟨b, 1, none⟩ = some v := by rw [Lib.cell_of_heap hbk]; rfl
  have hbl : (Lib.byteCells l).length = l.length := by simp [Lib.byteCells]
  rw [hbl] at hown
  go_wp2_with (at_builtin; refine Lib.wpList_append_own_string _ rfl _ _ 50 9 rfl b 5 i0 Try.underlying50 Try.underlying9 hi hz0 hz1 hz2 _ _ _ rfl hown s rfl ?c3 ?c4 ?c5 ?_)
  case c3 => unfold maxLen; omega
  case c4 => omega
  case c5 => have := hb1.size; omega
  intro v' w2 hown' hgrow _
  have hlt1 : b < w1.heap.size := h1.lt
  have hb2 : w2.heap[b]? = some (.cells #[.pointer (some ⟨b, 0, none⟩), v] 56 (0, 0)) := by
    rw [hgrow.block b hlt1 (fun e => hne e.symm)]
    exact hbk
  have d0 : w2.cell? ⟨b, 0, none⟩ = some (.pointer (some ⟨b, 0, none⟩)) := by rw [Lib.cell_of_heap hb2]; rfl
  have d1 : w2.cell? ⟨b, 1, none⟩ = some v := by rw [Lib.cell_of_heap hb2]; rfl
  have f1 : w2.frozen? ⟨b, 1, none⟩ = false := Lib.frozen_of_heap hb2 1
  obtain ⟨ao, n', cap, rfl⟩ : ∃ ao n' cap, v' = .slice ao n' cap := by
    rcases hown'.2 with ⟨hv, _⟩ | ⟨g, cap, cur, hv, _⟩
    · exact ⟨_, _, _, hv⟩
    · exact ⟨_, _, _, hv⟩
  go_wp2
  go_ret2
  refine ⟨rfl, Or.inr ?_, (hb1.grown hgrow (by have := hb1.size; omega) (fun k hk => (hown.lt k hk).1)).setCell (p := ⟨b, 1, none⟩) hB _, (hk1.grown hgrow (Lib.ownsRowF_kind (World.ownsRowF_of hown))).setCell ⟨b, 1, none⟩ rfl _⟩
  rw [← bytes_join]
  exact Lib.BuilderAt.put hB hb2 (by simpa [Lib.strCells_length, hbl] using hown') (by decide)

set_option maxHeartbeats 1000000 in
set_option maxRecDepth 100000 in
/-- String, of a builder that holds something. -/
theorem wget_any (b : Nat) (l : List UInt8) (w : World) (h : Wrt b l w) (h0 : l ≠ []) :
    Calls Try.prog 23 #[.pointer (some ⟨b, 0, none⟩)] w fun e w' => e = .returned (.string ⟨l.toArray⟩) ∧ Below b w w' := by
  obtain ⟨p, hB, v, hbk, hown, hne⟩ : ∃ p, Lib.BuilderAt 56 5 b b p (Lib.byteCells l) w := by
    rcases h with h | h
    · exact ⟨_, h⟩
    · exact ⟨_, h⟩
  have hl0 : l.length ≠ 0 := by simpa using h0
  have hbl : (Lib.byteCells l).length = l.length := by simp [Lib.byteCells]
  rw [hbl] at hown
  obtain ⟨g, cap, cur, rfl, hbg, hg, hnc, hcm, hcs, htake⟩ : ∃ g cap cur, v = .slice (some ⟨g, 0, none⟩) l.length cap ∧ b ≤ g ∧ w.heap[g]? = some (.cells cur 5 (0, 0)) ∧ l.length ≤ cap ∧ cap ≤ maxLen ∧ cur.size = cap * 1 ∧ cur.toList.take (l.length * 1) = Lib.byteCells l := by
    rcases hown.2 with ⟨_, hz⟩ | ⟨g, cap, cur, hv, r⟩
    · exact absurd hz hl0
    · exact ⟨g, cap, cur, hv, r⟩
  have c1 : w.drew.cell? ⟨b, 1, none⟩ = some (.slice (some ⟨g, 0, none⟩) l.length cap) := by
    have : w.drew.heap[b]? = some (.cells #[p, .slice (some ⟨g, 0, none⟩) l.length cap] 56 (0, 0)) := hbk
    rw [Lib.cell_of_heap this]; rfl
  have hSD : (Builtin.unsafeSliceData_ #[50] 84 #[.slice (some ⟨g, 0, none⟩) l.length cap]).run Try.prog w.drew = .ok (.pointer (some ⟨g, 0, none⟩)) w.drew :=
    Lib.run_unsafeSliceData_row _ _ _ _ _ _ (by omega)
  have hUS : (Builtin.unsafeString_ #[84, 3] 9 #[.pointer (some ⟨g, 0, none⟩), .int .i64 l.length]).run Try.prog w.drew = .ok (.string ⟨l.toArray⟩) (w.drew.freeze ⟨g, 0, none⟩ l.length) := by
    refine Lib.run_unsafeString_row w.drew 84 3 9 5 Try.underlying84 Try.cellsWb g cur.size (by have hg' : w.drew.heap[g]? = some (.cells cur 5 (0, 0)) := hg; simp [World.shape?, hg']) l h0 (by omega) (by unfold maxLen at hcm; omega) ?_
    intro j x hx
    exact hown.cells (g := g) rfl j (.int .u8 x.toNat) (by simp [Lib.byteCells, hx])
  go_enter Try.func23, Try.ntmps23
  go_wp2
  go_region
  all_goals (go_wp2; go_ret; exact ⟨rfl, Lib.below_freeze (Below.drew (Below.refl b w)) (p := ⟨g, 0, none⟩) hbg _⟩)

end Go.Proofs.Ytjfgccjdkflfoaa
