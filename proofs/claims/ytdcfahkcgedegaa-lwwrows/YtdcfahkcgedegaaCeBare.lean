/-
  Cells of no lists: Set and SameCell at them. What a law keeps in blocks of its own, from call to call.
-/
import Derived.Test.YtdcfahkcgedegaaAwake7
import Derived.Test.YtdcfahkcgedegaaMasks
namespace Go.Proofs.Ytdcfahkcgedegaa
open Go.RowKit
set_option linter.unusedVariables false
set_option linter.unusedSimpArgs false

/-- A cell of a stamp and a value, of nothing more. -/
def bc (T N : Int) (v : ByteArray) : Ce := ⟨0, true, T, N, v, 0, 0, [], [], []⟩
abbrev bl (T N : Int) (v : ByteArray) : List Value := [.int .i64 0, .bool true, .int .i64 T, .int .i64 N, .string v, .int .i64 0, .int .i64 0, .slice none 0 0, .slice none 0 0, .slice none 0 0]
abbrev bv (T N : Int) (v : ByteArray) : Value := .agg #[.int .i64 0, .bool true, .int .i64 T, .int .i64 N, .string v, .int .i64 0, .int .i64 0, .slice none 0 0, .slice none 0 0, .slice none 0 0]
/-- The cell of nothing but a kind. -/
abbrev zl (k : Int) : List Value := [.int .i64 k, .bool false, .int .i64 0, .int .i64 0, .string ⟨#[]⟩, .int .i64 0, .int .i64 0, .slice none 0 0, .slice none 0 0, .slice none 0 0]
abbrev zv (k : Int) : Value := .agg #[.int .i64 k, .bool false, .int .i64 0, .int .i64 0, .string ⟨#[]⟩, .int .i64 0, .int .i64 0, .slice none 0 0, .slice none 0 0, .slice none 0 0]
abbrev sv (t n : Int) : Value := .agg #[.int .i64 t, .int .i64 n]

theorem nils_all {c : Ce} {q : Pl} (h1 : c.ents.length = 0) (h2 : c.elems.length = 0) (h3 : c.seen.length = 0) (h : Nils c q) : q = pl0 := by
  obtain ⟨eo, ec, lo, lc, so, sc⟩ := q
  obtain ⟨a, b⟩ := h.1 h1
  obtain ⟨a', b'⟩ := h.2.1 h2
  obtain ⟨a'', b''⟩ := h.2.2 h3
  simp only at a b a' b' a'' b''
  subst a b a' b' a'' b''
  rfl

theorem bare_row (w : World) {c : Ce} (h1 : c.ents = []) (h2 : c.elems = []) (h3 : c.seen = []) (q : Pl) : CRow w c q := ⟨by rw [h1]; exact FRow.nil _ _, by rw [h2]; exact FRow.nil _ _, by rw [h3]; exact FRow.nil _ _⟩

/-- The first write. -/
theorem lset_first (T N : Int) (v : ByteArray) (w : World) (hm : mayS T N = true) (hv : v.size ≤ 256) :
    Calls Try.prog 8 #[zv 0, sv T N, .string v] w fun e w' => e = .returned (.tuple #[bv T N v, .int .i64 0]) ∧ Below w.heap.size w w' := by
  refine Calls.mono (lset_is ce0 (bc T N v) pl0 T N v w rfl (bare_row w rfl rfl rfl _) (fit_bare rfl rfl (by decide) (by decide)) (by simp [setB, hm, hv, ce0])) ?_
  rintro e w1 ⟨q, rfl, _, hn, b⟩
  obtain rfl := nils_all rfl rfl rfl hn
  exact ⟨rfl, b⟩

/-- A write of another stamp at a cell that is Set. -/
theorem lset_again (T N T' N' : Int) (v v' : ByteArray) (w : World) (hm : mayS T' N' = true) (hv : v.size ≤ 256) (hv' : v'.size ≤ 256) (hl : lessB T N T' N' = false) :
    Calls Try.prog 8 #[bv T N v, sv T' N', .string v'] w fun e w' => e = .returned (.tuple #[bv T N v, .int .i64 0]) ∧ Below w.heap.size w w' := by
  refine Calls.mono (lset_is (bc T N v) (bc T N v) pl0 T' N' v' w (by simp [setC, bc, hl]) (bare_row w rfl rfl rfl _) (fit_bare rfl rfl (by simp [bc]) (by simp only [bc]; omega)) (by simp [setB, hm, hv', bc])) ?_
  rintro e w1 ⟨q, rfl, _, hn, b⟩
  obtain rfl := nils_all rfl rfl rfl hn
  exact ⟨rfl, b⟩

theorem lset_next (T N T' N' : Int) (v v' : ByteArray) (w : World) (hm : mayS T' N' = true) (hv : v.size ≤ 256) (hv' : v'.size ≤ 256) (hl : lessB T N T' N' = true) :
    Calls Try.prog 8 #[bv T N v, sv T' N', .string v'] w fun e w' => e = .returned (.tuple #[bv T' N' v', .int .i64 0]) ∧ Below w.heap.size w w' := by
  refine Calls.mono (lset_is (bc T N v) (bc T' N' v') pl0 T' N' v' w (by simp [setC, bc, hl]) (bare_row w rfl rfl rfl _) (fit_bare rfl rfl (by simp [bc]) (by simp only [bc]; omega)) (by simp [setB, hm, hv', bc])) ?_
  rintro e w1 ⟨q, rfl, _, hn, b⟩
  obtain rfl := nils_all rfl rfl rfl hn
  exact ⟨rfl, b⟩

/-- A write that is refused. -/
theorem lset_bad (k T N : Int) (v : ByteArray) (w : World) (hb : setB ⟨k, false, 0, 0, ByteArray.empty, 0, 0, [], [], []⟩ T N v = false) (hv : v.size ≤ maxLen) :
    Calls Try.prog 8 #[zv k, sv T N, .string v] w fun e w' => e = .returned (.tuple #[zv 0, .int .i64 700]) ∧ Below w.heap.size w w' :=
  Calls.mono (lset_no ⟨k, false, 0, 0, ByteArray.empty, 0, 0, [], [], []⟩ pl0 T N v w hb hv) fun e w' h => h

theorem same_bare (T N : Int) (v : ByteArray) (w : World) (hv : v.size ≤ 256) :
    Calls Try.prog 10 #[bv T N v, bv T N v] w fun e w' => e = .returned (.bool true) ∧ Below w.heap.size w w' :=
  sameCell_any (bc T N v) pl0 pl0 w (bare_row w rfl rfl rfl _) (bare_row w rfl rfl rfl _) (fit_bare rfl rfl (by simp [bc]) (by simp only [bc]; omega))

theorem same_none (w : World) :
    Calls Try.prog 10 #[zv 0, zv 0] w fun e w' => e = .returned (.bool true) ∧ Below w.heap.size w w' :=
  sameCell_any ce0 pl0 pl0 w (bare_row w rfl rfl rfl _) (bare_row w rfl rfl rfl _) (fit_bare rfl rfl (by decide) (by decide))

/-- The blocks of the list hold its cells, and nothing below h has turned. -/
def Regs (h : Nat) (w w1 : World) : List (Nat × List Value) → Prop
  | [] => Below h w w1 ∧ h ≤ w1.heap.size
  | e :: L => Has w1 e.1 e.2 ∧ Regs h w w1 L

theorem Regs.base {h : Nat} {w w1 : World} {L : List (Nat × List Value)} (H : Regs h w w1 L) : Below h w w1 ∧ h ≤ w1.heap.size := by
  induction L with
  | nil => exact H
  | cons e L ih => exact ih H.2

theorem Regs.later {h : Nat} {w w1 w2 : World} {L : List (Nat × List Value)} (H : Regs h w w1 L) (hb : Below w1.heap.size w1 w2) : Regs h w w2 L := by
  induction L with
  | nil => exact ⟨H.1.trans (hb.mono H.2), Nat.le_trans H.2 hb.size⟩
  | cons e L ih => exact ⟨H.1.later hb, ih H.2⟩

theorem Regs.push {h : Nat} {w w1 : World} {L : List (Nat × List Value)} (H : Regs h w w1 L) {g : Nat} (hg : w1.heap.size = g) (xs : List Value) (t : TypeId) : Regs h w (w1.alloc (.cells xs.toArray t)) ((g, xs) :: L) :=
  ⟨hg ▸ has_new w1 xs t, H.later ((Below.refl _ _).alloc (Nat.le_refl _) _)⟩

end Go.Proofs.Ytdcfahkcgedegaa
