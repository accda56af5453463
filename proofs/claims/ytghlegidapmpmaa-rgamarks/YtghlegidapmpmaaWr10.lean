/-
  The law's own writes: a few elements, each behind the one ahead.
-/
import Derived.Test.YtghlegidapmpmaaStepL
import Derived.Test.YtghlegidapmpmaaAwake10
import Derived.Test.YtghlegidapmpmaaDeci
import Derived.OwnWalk
namespace Go.Proofs.Ytghlegidapmpmaa
open Go.RowKit Go.Shelf
set_option linter.unusedVariables false
set_option linter.unusedSimpArgs false

theorem deci_v (x : Nat) (v : ByteArray) (hx : x < 9223372036854775808) (hv : (⟨(Lib.decDigits x).toArray⟩ : ByteArray) = v) (w : World) :
    Calls Try.prog 7 #[.int .i64 x] w fun e w' => e = .returned (.string v) ∧ Below w.heap.size w w' := hv ▸ deci_any x w hx
theorem runL_step {v : ByteArray} {node : Int} {m i : Nat} {d : D2} {l L : List L5} (h : runL v node (m + 1) i d l = some L) :
    okX l ⟨node, (i : Int), 3 + (i : Int), v, false⟩ = true ∧ ∃ l', insL l ⟨node, (i : Int), 3 + (i : Int), v, false⟩ d = some l' ∧ runL v node m (i + 1) (node, (i : Int)) l' = some L := by
  unfold runL at h
  simp only at h
  split at h
  · rename_i hok
    refine ⟨hok, ?_⟩
    split at h
    · cases h
    · rename_i l' hl'
      exact ⟨l', hl', h⟩
  · cases h
theorem smallX_next {l l' : List L5} {e : L5} {d : D2} {k : Nat} (h : SmallX l) (hl : l.length + (k + 1) ≤ 40) (hv : e.val.size ≤ 256) (hi : insL l e d = some l') : SmallX l' ∧ l'.length + k ≤ 40 ∧ l'.length = l.length + 1 := by
  have := insL_len hi
  exact ⟨smallX_ins h (by omega) hv hi, by omega, this⟩

/-- What the loop keeps. -/
def Wr (w : World) (h n : Nat) (q : Pl) (l : List L5) (d : D2) (wr : World) : Prop := Regs h w wr [(h, llL n q), (h + 1, [.int .i64 d.1, .int .i64 d.2]), (h + 2, zl 0)] ∧ (FRow w q.lo (flatL l) ∨ FOwn (h + 3) wr q.lo (flatL l))
theorem Wr.row {w wr : World} {h n : Nat} {q : Pl} {l : List L5} {d : D2} (H : Wr w h n q l d wr) (hh : w.heap.size = h) : FRow wr q.lo (flatL l) := by
  rcases H.2 with h1 | h1
  · exact h1.later (hh.symm ▸ H.1.base.1)
  · exact h1.row

end Go.Proofs.Ytghlegidapmpmaa
