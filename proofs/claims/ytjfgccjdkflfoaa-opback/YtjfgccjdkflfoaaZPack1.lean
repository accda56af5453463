/-
  Small laws that every layer uses: one call behind another, answers that are equal; a struct of two numbers, read; what cells hold behind a call that only makes memory.
-/
import Derived.Test.YtjfgccjdkflfoaaChecked
import Derived.WalkKit
import Derived.Below
import Derived.ProofKit
import Derived.ChangeSame
import Derived.WideShapes
import Derived.Deep.Slices
import Derived.Laws.OwnMore
import Derived.Laws.BitsAllLaws
import Derived.Laws.Bits128
import Derived.RowKit
import Derived.WalkSpells
import Derived.WalkLawsBesides
import Derived.Laws.IdiomStrings
import Derived.OpenShut
import Derived.Deep.LoopGhost
import Derived.Shelf.LaysM
import Derived.Shelf.Strconv.Clone
import Derived.Deep.RegionHeld3
namespace Go.Proofs.Ytjfgccjdkflfoaa
open Go.ChangeShapes Go.WideShapes Go.ChangeAt Go.RowKit
set_option linter.unusedVariables false

/-- One call behind another: nothing old has turned. -/
theorem thenB {w w1 w2 : World} (h : Below w.heap.size w w1) (h2 : Below w1.heap.size w1 w2) : Below w.heap.size w w2 := h.trans (h2.mono h.size)

theorem ret_bool {a b : Bool} (h : a = b) : Ending.returned (.bool a) = .returned (.bool b) := by rw [h]

/-- All old cells, all old marks read as before. -/
theorem bcell {W w1 : World} (hb : Below W.heap.size W w1) : (∀ b o, b < W.heap.size → w1.cell? ⟨b, o, none⟩ = W.cell? ⟨b, o, none⟩) ∧ (∀ b o, b < W.heap.size → w1.frozen? ⟨b, o, none⟩ = W.frozen? ⟨b, o, none⟩) :=
  ⟨fun b o h => hb.cell (p := ⟨b, o, none⟩) h, fun b o h => hb.frozen (p := ⟨b, o, none⟩) h⟩

/-- A struct of two numbers that comes as an argument. -/
theorem open_two {H : Type} {enc : TypeId × Value → H} {P : Program} {w : World} {b0 base : Nat} {spare : Nat → Bool} {held : Bool} {t : TypeId} {f0 f1 : Field} {v : Value} {d : DataW H} {ps : List MemPlace}
    (ht : P.underlying t = some (.struct #[f0, f1])) (ct : P.cellsOf t = 2) (o0 : f0.offset = 0) (o1 : f1.offset = 1) (c0 : P.cellsOf f0.type = 1) (c1 : P.cellsOf f1.type = 1)
    (u0 : P.underlying f0.type = some (.int .i64)) (u1 : P.underlying f1.type = some (.int .i64))
    (hval : Value.okWide P w .any b0 t v) (hd : DataW.Trod enc P w base spare held t v d ps) :
    ∃ x y : Int, v = .agg #[.int .i64 x, .int .i64 y] ∧ (Lit.int .i64 x).wf = true ∧ (Lit.int .i64 y).wf = true := by
  obtain ⟨cs, rfl, hcs⟩ := okWide_struct ht hval
  obtain ⟨fuel, hf⟩ := hd
  obtain ⟨y0, y1, m, _, _, g0, g1⟩ := trod_struct2 ht hf
  rw [ct] at hcs
  obtain ⟨l⟩ := cs
  match l, hcs with
  | [a, b], _ =>
    simp [Value.cells, o0, o1, c0, c1] at g0 g1
    obtain ⟨x, hx, _, wx⟩ := DataW.trod_int u0 g0
    obtain ⟨y, hy, _, wy⟩ := DataW.trod_int u1 g1
    simp only [List.cons.injEq, and_true] at hx hy
    subst hx hy
    exact ⟨x, y, rfl, wx, wy⟩

end Go.Proofs.Ytjfgccjdkflfoaa

/-
  Rows of numbers: where they lie, how they stay, those that a call itself made; a row that comes as an argument.
-/
namespace Go.Proofs.Ytjfgccjdkflfoaa
open Go.ChangeShapes Go.WideShapes Go.ChangeAt Go.RowKit
set_option linter.unusedVariables false

theorem Try.infoInt : (Try.prog.info? 3).map (fun i => (i.zero, i.size, i.bytes)) = some (some (.int .i64 0), 1, 8) := by kernel_rfl

/-- The numbers l lie where ao points to. -/
def RowAt (w : World) (ao : Option Addr) (l : List Int) : Prop :=
  0 < l.length → ∃ b off, ao = some ⟨b, off, none⟩ ∧ b < w.heap.size ∧ ∀ i, i < l.length → w.cell? ⟨b, off + i, none⟩ = some (.int .i64 (l.getD i 0))

/-- They lie in memory that was made since B, and may be written. -/
def OwnAt (B : Nat) (w : World) (ao : Option Addr) (l : List Int) : Prop :=
  0 < l.length → ∃ b off, ao = some ⟨b, off, none⟩ ∧ B ≤ b ∧ b < w.heap.size ∧ ∀ i, i < l.length → w.cell? ⟨b, off + i, none⟩ = some (.int .i64 (l.getD i 0)) ∧ w.frozen? ⟨b, off + i, none⟩ = false

theorem OwnAt.row {B : Nat} {w : World} {ao : Option Addr} {l : List Int} (h : OwnAt B w ao l) : RowAt w ao l := fun h0 => by
  obtain ⟨b, off, h1, _, h2, h3⟩ := h h0
  exact ⟨b, off, h1, h2, fun i hi => (h3 i hi).1⟩

theorem OwnAt.mono {B B' : Nat} {w : World} {ao : Option Addr} {l : List Int} (h : OwnAt B w ao l) (hB : B' ≤ B) : OwnAt B' w ao l := fun h0 => by
  obtain ⟨b, off, h1, hb, h2, h3⟩ := h h0
  exact ⟨b, off, h1, Nat.le_trans hB hb, h2, h3⟩

theorem RowAt.later {w w' : World} {ao : Option Addr} {l : List Int} (h : RowAt w ao l) (hb : Below w.heap.size w w') : RowAt w' ao l := fun h0 => by
  obtain ⟨b, off, h1, h2, h3⟩ := h h0
  exact ⟨b, off, h1, Nat.lt_of_lt_of_le h2 hb.size, fun i hi => (hb.cell (by exact h2)).trans (h3 i hi)⟩

theorem OwnAt.later {B : Nat} {w w' : World} {ao : Option Addr} {l : List Int} (h : OwnAt B w ao l) (hb : Below w.heap.size w w') : OwnAt B w' ao l := fun h0 => by
  obtain ⟨b, off, h1, h4, h2, h3⟩ := h h0
  exact ⟨b, off, h1, h4, Nat.lt_of_lt_of_le h2 hb.size, fun i hi => ⟨(hb.cell (by exact h2)).trans (h3 i hi).1, (hb.frozen (by exact h2)).trans (h3 i hi).2⟩⟩

theorem RowAt.nil (w : World) (ao : Option Addr) : RowAt w ao [] := fun h => by simp at h

theorem OwnAt.nil (B : Nat) (w : World) (ao : Option Addr) : OwnAt B w ao [] := fun h => by simp at h

theorem cells_at (l : List Int) (i : Nat) (h : i < l.length) : (l.map (Value.int .i64))[i]? = some (.int .i64 (l.getD i 0)) := by
  simp [List.getElem?_eq_getElem h, List.getD]

/-- A row of the call's own, as its value. -/
theorem own_at {B : Nat} {w : World} {v : Value} {l : List Int} (h : w.ownsRow B 3 1 v l.length (l.map (.int .i64))) : ∃ ao cap, v = .slice ao l.length cap ∧ OwnAt B w ao l := by
  rcases h.2 with ⟨rfl, h0⟩ | ⟨g, cap, cur, rfl, hb, hh, hn, hm, hcs, htake⟩
  · refine ⟨none, 0, by rw [h0], fun h => by omega⟩
  · refine ⟨_, _, rfl, fun h0 => ⟨g, 0, rfl, hb, ?_, fun i hi => ?_⟩⟩
    · exact (Array.getElem?_eq_some_iff.1 hh).1
    · rw [Nat.zero_add]
      exact ⟨(h.cellAt i (by omega)).trans (cells_at l i hi), h.frozenAt i⟩

set_option maxRecDepth 100000 in
/-- A row that comes as an argument. -/
theorem isInts_of {H : Type} {enc : TypeId × Value → H} {w : World} {base : Nat} {v : Value} {d : DataW H} {p : List MemPlace}
    (ok : Value.okWide Try.prog w .any base 24 v) (h : DataW.Trod enc Try.prog w 0 (fun _ => true) true 24 v d p) : ∃ l ao cap, v = .slice ao l.length cap ∧ l.length ≤ maxLen ∧ RowAt w ao l ∧ ∀ K, (∀ es sp, d = .slice es sp → (es.length + sp.length) * 8 ≤ K) → l.length * 8 ≤ K := by
  obtain ⟨a0, len, cap, rfl⟩ := okWide_slice Try.underlying24 ok
  obtain ⟨fuel, hf⟩ := h
  rcases Go.Deep.open_slice1 Try.underlying24 (by kernel_rfl) hf with ⟨hcs, _⟩ | ⟨x, ln, c, m, n, V, D, Pl, hcs, _, hl, hm, hmm, hdp, hcell⟩
  · simp [Value.cells] at hcs
    obtain ⟨rfl, rfl, rfl⟩ := hcs
    exact ⟨[], none, 0, rfl, by simp, RowAt.nil _ _, fun K _ => by simp⟩
  · simp [Value.cells] at hcs
    obtain ⟨rfl, rfl, rfl⟩ := hcs
    have hmc : m = cap := by simpa using hmm
    have hV : ∀ i, i < m → ∃ z : Int, V i = .int .i64 z := fun i hi => by
      obtain ⟨z, hz, _, _⟩ := DataW.trod_int Try.underlying3 (hcell i hi).2
      simp only [List.cons.injEq, and_true] at hz
      exact ⟨z, hz⟩
    let Z : Nat → Int := fun i => match V i with | .int _ z => z | _ => 0
    refine ⟨(List.range len).map Z, some x, cap, by simp, by simp; omega, fun h0 => ?_, fun K hK => ?_⟩
    rotate_left
    · simp only [Prod.mk.injEq] at hdp
      have := hK _ _ hdp.1
      simp only [List.length_map, List.length_range] at this ⊢
      omega
    simp only [List.length_map, List.length_range] at h0 ⊢
    obtain ⟨b, off, spot⟩ := x
    have hc := (hcell 0 (by omega)).1
    have hspot : spot = none := by simpa [Addr.add] using World.cell?_spot hc
    subst hspot
    have hb := World.block_lt_of_cell? w _ hc
    refine ⟨b, off, rfl, by simpa [Addr.add] using hb, fun i hi => ?_⟩
    have h1 := (hcell i (by omega)).1
    obtain ⟨z, hz⟩ := hV i (by omega)
    have e2 : ((List.range len).map Z).getD i 0 = z := by
      simp [List.getD, hi, Z, hz]
    rw [e2, ← hz, ← h1]
    rcases i with _ | i
    · simp [Addr.add]
    · simp [Addr.add]

end Go.Proofs.Ytjfgccjdkflfoaa

/-
  Vectors as plain lists of numbers: which may be, which dots one has, the greater and the lesser, which is under which.
-/
namespace Go.Proofs.Ytjfgccjdkflfoaa.Ve
set_option linter.unusedVariables false

/-- A vector of n nodes. -/
def May (l : List Int) (n : Int) : Prop := 1 ≤ n ∧ n ≤ 16 ∧ (l.length : Int) = n ∧ ∀ i, i < l.length → 0 ≤ l.getD i 0 ∧ l.getD i 0 ≤ 1048575

/-- Vectors of one cluster. -/
def Alike (a b : List Int) : Prop := May a a.length ∧ May b a.length

def Under (a b : List Int) : Prop := Alike a b ∧ ∀ i, i < a.length → a.getD i 0 ≤ b.getD i 0

def Has (l : List Int) (k s : Int) : Prop := 0 ≤ k ∧ k < l.length ∧ 1 ≤ s ∧ s ≤ l.getD k.toNat 0

/-- A number out of each two. -/
def mk (f : Int → Int → Int) (a b : List Int) : List Int := (List.range a.length).map fun i => f (a.getD i 0) (b.getD i 0)

/-- What Max and Min answer. -/
def Made (f : Int → Int → Int) (a b l : List Int) (n : Int) : Prop := (Alike a b ∧ l = mk f a b ∧ n = 0) ∨ (¬ Alike a b ∧ l = [] ∧ n = 400)

theorem bool_of (P : Prop) : ∃ b : Bool, b = true ↔ P := by
  by_cases h : P
  · exact ⟨true, by simp [h]⟩
  · exact ⟨false, by simp [h]⟩

theorem made_of (f : Int → Int → Int) (a b : List Int) : ∃ l n, Made f a b l n := by
  by_cases h : Alike a b
  · exact ⟨_, _, Or.inl ⟨h, rfl, rfl⟩⟩
  · exact ⟨_, _, Or.inr ⟨h, rfl, rfl⟩⟩

theorem mk_length (f : Int → Int → Int) (a b : List Int) : (mk f a b).length = a.length := by simp [mk]

theorem mk_at (f : Int → Int → Int) (a b : List Int) {i : Nat} (h : i < a.length) : (mk f a b).getD i 0 = f (a.getD i 0) (b.getD i 0) := by
  simp [mk, List.getD, h]

theorem same {l m : List Int} (hl : l.length = m.length) (h : ∀ i, i < l.length → l.getD i 0 = m.getD i 0) : l = m := by
  apply List.ext_getElem hl
  intro i h1 h2
  have := h i h1
  simpa [List.getD, h1, h2] using this

theorem take_snoc (l : List Int) (i : Nat) (h : i < l.length) : l.take (i + 1) = l.take i ++ [l.getD i 0] := by
  rw [List.take_add_one, List.getElem?_eq_getElem h]
  simp [List.getD, h]

theorem max_if (x y : Int) : (if x < y then y else x) = max x y := by split <;> omega

theorem min_if (x y : Int) : (if y < x then y else x) = min x y := by split <;> omega

theorem alike_length {a b : List Int} (h : Alike a b) : b.length = a.length := by
  have := h.2.2.2.1; omega

theorem alike_symm {a b : List Int} (h : Alike a b) : Alike b a := by
  have e := alike_length h
  refine ⟨?_, ?_⟩
  · rw [e]; exact h.2
  · rw [e]; exact h.1

theorem alike_max {a b : List Int} (h : Alike a b) : May (mk max a b) a.length := by
  refine ⟨h.1.1, h.1.2.1, by rw [mk_length], fun i hi => ?_⟩
  rw [mk_length] at hi
  rw [mk_at _ _ _ hi]
  have h1 := h.1.2.2.2 i hi
  have h2 := h.2.2.2.2 i (by rw [alike_length h]; exact hi)
  omega

theorem alike_min {a b : List Int} (h : Alike a b) : May (mk min a b) a.length := by
  refine ⟨h.1.1, h.1.2.1, by rw [mk_length], fun i hi => ?_⟩
  rw [mk_length] at hi
  rw [mk_at _ _ _ hi]
  have h1 := h.1.2.2.2 i hi
  have h2 := h.2.2.2.2 i (by rw [alike_length h]; exact hi)
  omega

end Go.Proofs.Ytjfgccjdkflfoaa.Ve

/-
  The laws' own Num: an error's number.
-/
namespace Go.Proofs.Ytjfgccjdkflfoaa
open Go.RowKit
set_option linter.unusedVariables false

theorem num_any (x : Int) (w : World) :
    Calls Try.prog 13 #[.int .i64 x] w fun e w' => e = .returned (.int .i64 x) ∧ w' = w := by
  go_enter Try.func13, Try.ntmps13
  go_wp2
  go_ret
  exact ⟨rfl, rfl⟩

end Go.Proofs.Ytjfgccjdkflfoaa

/-
  Package dot, and the document's own answers to it: whether a dot may be, which stamp is less.
-/
namespace Go.Proofs.Ytjfgccjdkflfoaa
open Go.RowKit
set_option linter.unusedVariables false

def mayB (k s n : Int) : Bool := decide (1 ≤ n ∧ n ≤ 16 ∧ 0 ≤ k ∧ k < n ∧ 1 ≤ s ∧ s ≤ 1048575)
def lessB (t n t' n' : Int) : Bool := decide (t < t' ∨ t = t' ∧ n < n')

set_option maxHeartbeats 400000 in
theorem may_any (k s n : Int) (w : World) :
    Calls Try.prog 57 #[.agg #[.int .i64 k, .int .i64 s], .int .i64 n] w fun e w' => e = .returned (.bool (mayB k s n)) ∧ Below w.heap.size w w' := by
  go_enter Try.func57, Try.ntmps57
  go_wp2
  all_goals (go_ret; exact ⟨ret_bool (by unfold mayB; rw [Bool.eq_iff_iff]; simp; omega), (Below.refl _ _).alloc (Nat.le_refl _) _⟩)

set_option maxHeartbeats 400000 in
theorem refMay_any (k s n : Int) (w : World) :
    Calls Try.prog 38 #[.agg #[.int .i64 k, .int .i64 s], .int .i64 n] w fun e w' => e = .returned (.bool (mayB k s n)) ∧ Below w.heap.size w w' := by
  go_enter Try.func38, Try.ntmps38
  go_wp2
  all_goals (go_ret; exact ⟨ret_bool (by unfold mayB; rw [Bool.eq_iff_iff]; simp; omega), (Below.refl _ _).alloc (Nat.le_refl _) _⟩)

end Go.Proofs.Ytjfgccjdkflfoaa

/-
  Plain mathematics of layer 1 (numbers and texts as bytes): what Put, Get, PutText, GetText answer, as functions on lists of bytes, and what follows of them. No program in it.
-/
namespace Go.Proofs.Ytjfgccjdkflfoaa.Vi
open Go.RowKit
set_option linter.unusedVariables false

/-- A number's bytes, at most f of them. -/
def putF : Nat → Nat → List UInt8
  | 0, _ => []
  | f + 1, x => if x < 128 then [UInt8.ofNat x] else UInt8.ofNat (x % 128 + 128) :: putF f (x / 128)

def put (x : Nat) : List UInt8 := putF 9 x

/-- From byte i on, x gathered: the number, how many bytes it has, the error. -/
def getF : Nat → Nat → Nat → List UInt8 → Nat × Nat × Nat
  | 0, _, _, _ => (0, 0, 101)
  | _ + 1, _, _, [] => (0, 0, 100)
  | f + 1, i, x, b :: l =>
    if 128 ≤ b.toNat then getF f (i + 1) (x + b.toNat % 128 * 128 ^ i) l
    else if b.toNat = 0 ∧ 0 < i then (0, 0, 101) else (x + b.toNat % 128 * 128 ^ i, i + 1, 0)

def get (l : List UInt8) : Nat × Nat × Nat := getF 9 0 0 l

/-- The number at place a, where it ends, the error. -/
def getAt (l : List UInt8) (a : Nat) : Nat × Nat × Nat := if (get (l.drop a)).2.2 = 0 then ((get (l.drop a)).1, a + (get (l.drop a)).2.1, 0) else (0, 0, (get (l.drop a)).2.2)

def getI (l : List UInt8) (a : Int) : Nat × Nat × Nat := if 0 ≤ a ∧ a ≤ l.length then getAt l a.toNat else (0, 0, 101)

def putText (l : List UInt8) : List UInt8 × Nat := if 65536 < l.length then ([], 101) else (put l.length ++ l, 0)

def getText (l : List UInt8) (a : Int) : List UInt8 × Nat × Nat :=
  if (getI l a).2.2 = 0 then
    if 65536 < (getI l a).1 then ([], 0, 101)
    else if l.length - (getI l a).2.1 < (getI l a).1 then ([], 0, 100)
    else ((l.drop (getI l a).2.1).take (getI l a).1, (getI l a).2.1 + (getI l a).1, 0)
  else ([], 0, (getI l a).2.2)

theorem wrap_small (n : Nat) (h : n < 9223372036854775808) : IntKind.i64.wrap (n : Int) = (n : Int) := by
  rw [IntKind.wrap_i64]; omega

theorem pow_lt {k : Nat} (hk : k < 9) : (128 : Nat) ^ k * 128 ≤ 9223372036854775808 := by
  have h : (128 : Nat) ^ k * 128 = 128 ^ (k + 1) := (Nat.pow_succ ..).symm
  rw [h]
  calc (128 : Nat) ^ (k + 1) ≤ 128 ^ 9 := Nat.pow_le_pow_right (by omega) (by omega)
    _ = 9223372036854775808 := by decide

theorem two_pow (k : Nat) : (2 : Nat) ^ (7 * k) = 128 ^ k := by
  rw [Nat.pow_mul]

/-- 'x | b << (7 * i)', as the walk spells it. -/
theorem or_step (y k b : Nat) (hy : y < 128 ^ k) (hk : k < 9) :
    bits .or .i64 (y : Int) (wrap64 ((b : Int) % 128 * 2 ^ (7 * k))) = ((y + b % 128 * 128 ^ k : Nat) : Int) := by
  have hp := pow_lt hk
  have hm : b % 128 ≤ 127 := by omega
  have hb : b % 128 * 128 ^ k ≤ 127 * 128 ^ k := Nat.mul_le_mul_right _ hm
  have e1 : ((b : Int) % 128 * 2 ^ (7 * k)) = ((b % 128 * 128 ^ k : Nat) : Int) := by
    rw [← two_pow k]; simp
  have e2 : wrap64 ((b % 128 * 128 ^ k : Nat) : Int) = ((b % 128 * 128 ^ k : Nat) : Int) := by
    generalize b % 128 * 128 ^ k = z at hb
    unfold wrap64; omega
  rw [e1, e2]
  show IntKind.i64.wrap ((BitVec.ofInt 64 (y : Int) ||| BitVec.ofInt 64 ((b % 128 * 128 ^ k : Nat) : Int)).toNat : Int) = _
  have hsum : y ||| (b % 128 * 128 ^ k) = y + b % 128 * 128 ^ k := by
    have h := Nat.two_pow_add_eq_or_of_lt (i := 7 * k) (b := y) (by rw [two_pow]; exact hy) (b % 128)
    rw [two_pow] at h
    rw [Nat.or_comm, Nat.mul_comm (b % 128), ← h]
    omega
  generalize hz : b % 128 * 128 ^ k = z at *
  rw [BitVec.toNat_or, ofInt_u64 y (by omega), ofInt_u64 z (by omega), hsum]
  exact wrap_small _ (by omega)

/-- The same, with '& 127' in the place of '% 128'. -/
theorem or_step_ref (y k b : Nat) (hy : y < 128 ^ k) (hk : k < 9) :
    bits .or .i64 (y : Int) (wrap64 (bits .and .i64 (b : Int) 127 * 2 ^ (7 * k))) = ((y + b % 128 * 128 ^ k : Nat) : Int) := by
  rw [i64_and127]
  exact or_step y k b hy hk

theorem step_lt {y k b : Nat} (hy : y < 128 ^ k) : y + b % 128 * 128 ^ k < 128 ^ (k + 1) := by
  have hm : b % 128 ≤ 127 := by omega
  have hb : b % 128 * 128 ^ k ≤ 127 * 128 ^ k := Nat.mul_le_mul_right _ hm
  have h : (128 : Nat) ^ (k + 1) = 128 ^ k * 128 := Nat.pow_succ ..
  omega

theorem drop_step (s : ByteArray) (a : Nat) (h : a < s.size) : s.data.toList.drop a = s[a] :: s.data.toList.drop (a + 1) := by
  have h' : a < s.data.toList.length := by simpa using h
  rw [List.drop_eq_getElem_cons h']
  rfl

theorem drop_end (s : ByteArray) (a : Nat) (h : ¬ a < s.size) : s.data.toList.drop a = [] := by
  apply List.drop_eq_nil_of_le
  simp
  have : s.data.size = s.size := rfl
  omega

theorem getF_more (f k y : Nat) (s : ByteArray) (a : Nat) (h : a + k < s.size) (hb : (128 : Int) ≤ (s[a + k].toNat : Int)) :
    getF (f + 1) k y (s.data.toList.drop (a + k)) = getF f (k + 1) (y + s[a + k].toNat % 128 * 128 ^ k) (s.data.toList.drop (a + (k + 1))) := by
  rw [drop_step s (a + k) h]
  show (if _ then _ else _) = _
  rw [if_pos (by omega)]
  rfl

theorem getF_cut (f k y : Nat) (s : ByteArray) (a : Nat) (h : ¬ a + k < s.size) :
    getF (f + 1) k y (s.data.toList.drop (a + k)) = (0, 0, 100) := by
  rw [drop_end s (a + k) h]; rfl

theorem getF_long (f k y : Nat) (s : ByteArray) (a : Nat) (h : a + k < s.size) (hb : ¬ (128 : Int) ≤ (s[a + k].toNat : Int)) (h0 : s[a + k].toNat = 0) (hk : 0 < k) :
    getF (f + 1) k y (s.data.toList.drop (a + k)) = (0, 0, 101) := by
  rw [drop_step s (a + k) h]
  show (if _ then _ else _) = _
  rw [if_neg (by omega), if_pos ⟨h0, hk⟩]

theorem getF_done (f k y : Nat) (s : ByteArray) (a : Nat) (h : a + k < s.size) (hb : ¬ (128 : Int) ≤ (s[a + k].toNat : Int)) (h0 : ¬ (s[a + k].toNat = 0 ∧ 0 < k)) :
    getF (f + 1) k y (s.data.toList.drop (a + k)) = (y + s[a + k].toNat % 128 * 128 ^ k, k + 1, 0) := by
  rw [drop_step s (a + k) h]
  show (if _ then _ else _) = _
  rw [if_neg (by omega), if_neg h0]

theorem getF_bound : ∀ (f i y : Nat) (l : List UInt8), y < 128 ^ i → (getF f i y l).2.2 = 0 → (getF f i y l).1 < 128 ^ (i + f) ∧ i < (getF f i y l).2.1 ∧ (getF f i y l).2.1 ≤ i + f ∧ (getF f i y l).2.1 ≤ i + l.length
  | 0, _, _, _, _, h => by simp [getF] at h
  | f + 1, _, _, [], _, h => by simp [getF] at h
  | f + 1, i, y, b :: l, hy, h => by
    by_cases h1 : 128 ≤ b.toNat
    · have e : getF (f + 1) i y (b :: l) = getF f (i + 1) (y + b.toNat % 128 * 128 ^ i) l := by show (if _ then _ else _) = _; rw [if_pos h1]
      rw [e] at h ⊢
      have ih := getF_bound f (i + 1) _ l (step_lt hy) h
      rw [show i + (f + 1) = i + 1 + f by omega]
      simp only [List.length_cons]
      omega
    · by_cases h2 : b.toNat = 0 ∧ 0 < i
      · have e : getF (f + 1) i y (b :: l) = (0, 0, 101) := by show (if _ then _ else _) = _; rw [if_neg h1, if_pos h2]
        rw [e] at h; simp at h
      · have e : getF (f + 1) i y (b :: l) = (y + b.toNat % 128 * 128 ^ i, i + 1, 0) := by show (if _ then _ else _) = _; rw [if_neg h1, if_neg h2]
        rw [e]
        have hs := step_lt (b := b.toNat) hy
        have hm : (128 : Nat) ^ (i + 1) ≤ 128 ^ (i + (f + 1)) := Nat.pow_le_pow_right (by omega) (by omega)
        simp only [List.length_cons]
        omega

theorem get_bound (l : List UInt8) (h : (get l).2.2 = 0) : (get l).1 < 9223372036854775808 ∧ 0 < (get l).2.1 ∧ (get l).2.1 ≤ 9 ∧ (get l).2.1 ≤ l.length := by
  have hb := getF_bound 9 0 0 l (by decide) h
  have e : (128 : Nat) ^ (0 + 9) = 9223372036854775808 := by decide
  rw [e] at hb
  unfold get
  omega

theorem getI_ok {l : List UInt8} {a : Int} {x t : Nat} (h : getI l a = (x, t, 0)) : 0 ≤ a ∧ a ≤ l.length ∧ x < 9223372036854775808 ∧ a < t ∧ t ≤ l.length ∧ t ≤ a + 9 := by
  unfold getI at h
  split at h
  · rename_i hr
    unfold getAt at h
    split at h
    · rename_i h0
      have hb := get_bound _ h0
      simp only [Prod.mk.injEq] at h
      simp only [List.length_drop] at hb
      omega
    · simp only [Prod.mk.injEq] at h
      rename_i h0
      exact absurd h.2.2 h0
  · simp at h

theorem getI_err {l : List UInt8} {a : Int} (h : (getI l a).2.2 ≠ 0) : getI l a = (0, 0, (getI l a).2.2) := by
  unfold getI at h ⊢
  split
  · unfold getAt at h ⊢
    rename_i hr
    rw [if_pos hr] at h
    split
    · rename_i h0
      rw [if_pos h0] at h
      exact absurd rfl h
    · rfl
  · rfl

theorem getF_err : ∀ (f i y : Nat) (l : List UInt8), (getF f i y l).2.2 = 0 ∨ (getF f i y l).2.2 = 100 ∨ (getF f i y l).2.2 = 101
  | 0, _, _, _ => .inr (.inr rfl)
  | _ + 1, _, _, [] => .inr (.inl rfl)
  | f + 1, i, y, b :: l => by
    unfold getF
    split
    · exact getF_err f _ _ l
    · split
      · exact .inr (.inr rfl)
      · exact .inl rfl

theorem getI_errs (l : List UInt8) (a : Int) : (getI l a).2.2 = 0 ∨ (getI l a).2.2 = 100 ∨ (getI l a).2.2 = 101 := by
  unfold getI
  split
  · unfold getAt
    split
    · exact .inl rfl
    · exact getF_err ..
  · exact .inr (.inr rfl)

/-- Put's answer, whatever the number. -/
def putI (x : Int) : List UInt8 × Nat := if x < 0 then ([], 101) else (put x.toNat, 0)

theorem or128 (y : Nat) : bits .or .u8 ((y : Int) % 128) 128 = ((UInt8.ofNat (y % 128 + 128)).toNat : Int) := by
  rw [u8_or128_right _ (by omega) (by omega)]
  have h : (UInt8.ofNat (y % 128 + 128)).toNat = y % 128 + 128 := by
    rw [UInt8.toNat_ofNat']; omega
  rw [h]; omega

theorem i64_or_join (a b i : Nat) (hb : b < 2 ^ i) (h : 2 ^ i * a + b < 9223372036854775808) : bits .or .i64 ((2 ^ i * a : Nat) : Int) (b : Int) = ((2 ^ i * a + b : Nat) : Int) := by
  show IntKind.i64.wrap ((BitVec.ofInt 64 ((2 ^ i * a : Nat) : Int) ||| BitVec.ofInt 64 (b : Int)).toNat : Int) = _
  have hs := Nat.two_pow_add_eq_or_of_lt hb a
  generalize 2 ^ i * a = z at *
  rw [BitVec.toNat_or, ofInt_u64 z (by omega), ofInt_u64 b (by omega), ← hs]
  exact wrap_small _ h

theorem bits_or_comm (k : IntKind) (a b : Int) : bits .or k a b = bits .or k b a := by
  simp only [bits, BitVec.or_comm]

theorem ref128 (y : Nat) : bits .or .i64 (bits .and .i64 (y : Int) 127) 128 % 256 = ((UInt8.ofNat (y % 128 + 128)).toNat : Int) := by
  have h : (UInt8.ofNat (y % 128 + 128)).toNat = y % 128 + 128 := by
    rw [UInt8.toNat_ofNat']; omega
  have hj := i64_or_join 1 (y % 128) 7 (by omega) (by omega)
  rw [h, i64_and127, bits_or_comm]
  have e1 : ((2 ^ 7 * 1 : Nat) : Int) = 128 := by decide
  have e2 : ((y % 128 : Nat) : Int) = (y : Int) % 128 := by omega
  rw [e1, e2] at hj
  rw [hj]
  omega

theorem byte_small {y : Nat} (h : ¬ 128 ≤ y) : (y : Int) = ((UInt8.ofNat y).toNat : Int) := by
  have h : (UInt8.ofNat y).toNat = y := by
    rw [UInt8.toNat_ofNat']; omega
  rw [h]

theorem putF_more {f y : Nat} (hy : y < 128 ^ f) (hf : 0 < f) (hc : 128 ≤ y) : 0 < f - 1 ∧ y / 128 < 128 ^ (f - 1) ∧ putF f y = UInt8.ofNat (y % 128 + 128) :: putF (f - 1) (y / 128) := by
  obtain ⟨g, rfl⟩ : ∃ g, f = g + 1 := ⟨f - 1, by omega⟩
  have e : g + 1 - 1 = g := by omega
  have hp : (128 : Nat) ^ (g + 1) = 128 ^ g * 128 := Nat.pow_succ ..
  rw [e]
  refine ⟨?_, by omega, by show (if _ then _ else _) = _; rw [if_neg (by omega)]⟩
  cases g with
  | zero => simp at hy; omega
  | succ g => omega

theorem putF_last {f y : Nat} (hf : 0 < f) (hc : ¬ 128 ≤ y) : putF f y = [UInt8.ofNat y] := by
  obtain ⟨g, rfl⟩ : ∃ g, f = g + 1 := ⟨f - 1, by omega⟩
  show (if _ then _ else _) = _
  rw [if_pos (by omega)]

theorem putF_length_le : ∀ (f x : Nat), (putF f x).length ≤ f
  | 0, _ => Nat.le_refl _
  | f + 1, x => by
    unfold putF
    split
    · simp
    · have := putF_length_le f (x / 128)
      simp; omega

theorem put_length_le (x : Nat) : (put x).length ≤ 9 := putF_length_le 9 x

theorem extract_eq (s : ByteArray) (a n : Nat) : s.extract a (a + n) = ⟨((s.data.toList.drop a).take n).toArray⟩ := by
  apply ByteArray.ext
  apply Array.toList_inj.1
  simp [ByteArray.data_extract]

theorem extract_size (s : ByteArray) (a n : Nat) (h : a + n ≤ s.size) : (s.extract a (a + n)).size = n := by
  rw [ByteArray.size_extract]; omega

/-- Bytes as cells. -/
def cells (l : List UInt8) : List Value := l.map fun b => Value.int .u8 b.toNat

theorem lt63 {y f : Nat} (hy : y < 128 ^ f) (hf : f ≤ 9) : y < 9223372036854775808 := by
  have h : (128 : Nat) ^ f ≤ 128 ^ 9 := Nat.pow_le_pow_right (by omega) hf
  have e : (128 : Nat) ^ 9 = 9223372036854775808 := by decide
  omega

end Go.Proofs.Ytjfgccjdkflfoaa.Vi

/-
  Plain mathematics of layer 1: how many bytes a number has.
-/
namespace Go.Proofs.Ytjfgccjdkflfoaa.Vi
open Go.RowKit
set_option linter.unusedVariables false

theorem mod62 (b : Int) : ∃ k : Nat, k < 62 ∧ wrap64 ((IntKind.u64.wrap b).tmod 62) = (k : Int) := by
  have h1 : IntKind.u64.wrap b = b % 18446744073709551616 := by simp [IntKind.wrap, IntKind.bits, IntKind.signed]
  rw [h1]
  generalize hz : b % 18446744073709551616 = z
  have hz0 : 0 ≤ z := by omega
  rw [Int.tmod_eq_emod_of_nonneg hz0]
  refine ⟨(z % 62).toNat, by omega, ?_⟩
  unfold wrap64; omega

theorem lt_two_pow {k y : Nat} (hk : k < 62) (hy : y < 2 ^ (k + 1)) : y < 9223372036854775808 := by
  have : (2 : Nat) ^ (k + 1) ≤ 2 ^ 63 := Nat.pow_le_pow_right (by omega) (by omega)
  have e : (2 : Nat) ^ 63 = 9223372036854775808 := by decide
  omega

theorem putI_nat (y : Nat) : putI (y : Int) = (put y, 0) := by
  unfold putI
  rw [if_neg (by omega), Int.toNat_natCast]

theorem and_mask (x : Int) (k : Nat) (hk : k < 63) : ∃ z : Nat, z < 2 ^ k ∧ bits .and .i64 x ((2 ^ k - 1 : Nat) : Int) = (z : Int) := by
  have hp : (2 : Nat) ^ k ≤ 2 ^ 62 := Nat.pow_le_pow_right (by omega) (by omega)
  have e : (2 : Nat) ^ 62 = 4611686018427387904 := by decide
  have hpos : 0 < (2 : Nat) ^ k := Nat.two_pow_pos k
  refine ⟨((BitVec.ofInt 64 x).toNat) % 2 ^ k, Nat.mod_lt _ hpos, ?_⟩
  show IntKind.i64.wrap ((BitVec.ofInt 64 x &&& BitVec.ofInt 64 ((2 ^ k - 1 : Nat) : Int)).toNat : Int) = _
  rw [BitVec.toNat_and, ofInt_u64 (2 ^ k - 1) (by omega), Nat.and_two_pow_sub_one_eq_mod]
  have hlt : (BitVec.ofInt 64 x).toNat % 2 ^ k < 2 ^ k := Nat.mod_lt _ hpos
  exact wrap_small _ (by omega)

theorem shift_one (k : Nat) (hk : k < 62) : wrap64 (2 ^ min (IntKind.u64.wrap (k : Int)).toNat 64) = ((2 ^ k : Nat) : Int) := by
  have hp : (2 : Nat) ^ k ≤ 2 ^ 62 := Nat.pow_le_pow_right (by omega) (by omega)
  have e : (2 : Nat) ^ 62 = 4611686018427387904 := by decide
  have h1 : IntKind.u64.wrap (k : Int) = (k : Int) := by
    simp [IntKind.wrap, IntKind.bits, IntKind.signed]; omega
  rw [h1, Int.toNat_natCast, Nat.min_eq_left (by omega)]
  have h2 : ((2 : Int) ^ k) = ((2 ^ k : Nat) : Int) := by simp
  rw [h2]
  generalize (2 : Nat) ^ k = z at *
  unfold wrap64; omega

/-- '1<<k | x&(1<<k-1)': a number whose highest bit is k. -/
theorem topbit (x : Int) (k : Nat) (hk : k < 62) : ∃ y : Nat, 2 ^ k ≤ y ∧ y < 2 ^ (k + 1) ∧
    bits .or .i64 (wrap64 (2 ^ min (IntKind.u64.wrap (k : Int)).toNat 64)) (bits .and .i64 x (wrap64 (wrap64 (2 ^ min (IntKind.u64.wrap (k : Int)).toNat 64) - 1))) = (y : Int) := by
  have hp : (2 : Nat) ^ k ≤ 2 ^ 62 := Nat.pow_le_pow_right (by omega) (by omega)
  have e : (2 : Nat) ^ 62 = 4611686018427387904 := by decide
  have hpos : 0 < (2 : Nat) ^ k := Nat.two_pow_pos k
  obtain ⟨z, hz, ez⟩ := and_mask x k (by omega)
  have e1 : wrap64 (((2 ^ k : Nat) : Int) - 1) = ((2 ^ k - 1 : Nat) : Int) := by
    generalize (2 : Nat) ^ k = q at *
    unfold wrap64; omega
  refine ⟨2 ^ k + z, by omega, by rw [Nat.pow_succ]; omega, ?_⟩
  rw [shift_one k hk, e1, ez]
  have h := i64_or_join 1 z k hz (by omega)
  rw [Nat.mul_one] at h
  exact h

theorem putF_length : ∀ (f k y : Nat), k / 7 < f → 2 ^ k ≤ y → y < 2 ^ (k + 1) → (putF f y).length = k / 7 + 1
  | 0, _, _, h, _, _ => by omega
  | f + 1, k, y, h, h1, h2 => by
    by_cases hy : y < 128
    · have hk : k < 7 := by
        rcases Nat.lt_or_ge k 7 with h7 | h7
        · exact h7
        · have : (2 : Nat) ^ 7 ≤ 2 ^ k := Nat.pow_le_pow_right (by omega) h7
          omega
      rw [putF_last (by omega) (by omega)]
      simp; omega
    · have hk : 7 ≤ k := by
        rcases Nat.lt_or_ge k 7 with h7 | h7
        · have : (2 : Nat) ^ (k + 1) ≤ 2 ^ 7 := Nat.pow_le_pow_right (by omega) (by omega)
          omega
        · exact h7
      have e : putF (f + 1) y = UInt8.ofNat (y % 128 + 128) :: putF f (y / 128) := by
        show (if _ then _ else _) = _
        rw [if_neg hy]
      obtain ⟨j, rfl⟩ : ∃ j, k = j + 7 := ⟨k - 7, by omega⟩
      have p1 : (2 : Nat) ^ (j + 7) = 2 ^ j * 128 := by rw [Nat.pow_add]
      have p2 : (2 : Nat) ^ (j + 7 + 1) = 2 ^ (j + 1) * 128 := by rw [show j + 7 + 1 = j + 1 + 7 by omega, Nat.pow_add]
      rw [e, List.length_cons, putF_length f j (y / 128) (by omega) (by omega) (by omega)]
      omega

theorem put_length {k y : Nat} (hk : k < 62) (h1 : 2 ^ k ≤ y) (h2 : y < 2 ^ (k + 1)) : (put y).length = k / 7 + 1 :=
  putF_length 9 k y (by omega) h1 h2

end Go.Proofs.Ytjfgccjdkflfoaa.Vi

/-
  Plain mathematics of layer 1: rows of bytes that are all from 128 on, and what stands behind them.
-/
namespace Go.Proofs.Ytjfgccjdkflfoaa.Vi
open Go.RowKit
set_option linter.unusedVariables false

def zF (c : Nat) : Nat → Nat
  | 0 => 1
  | n + 1 => 128 * zF c n + c

theorem zF_lt {c : Nat} (hc : c < 128) : ∀ n, zF c n < 2 * 128 ^ n
  | 0 => by simp [zF]
  | n + 1 => by
    have := zF_lt hc n
    have hp : 0 < (128 : Nat) ^ n := Nat.pow_pos (by omega)
    rw [Nat.pow_succ, zF]
    omega

theorem getF_high (f i y : Nat) (b : UInt8) (l : List UInt8) (hb : 128 ≤ b.toNat) : getF (f + 1) i y (b :: l) = getF f (i + 1) (y + b.toNat % 128 * 128 ^ i) l := by
  show (if _ then _ else _) = _
  rw [if_pos hb]

theorem getF_rep_cut (b : UInt8) (hb : 128 ≤ b.toNat) : ∀ (k f i y : Nat), k < f → getF f i y (List.replicate k b) = (0, 0, 100)
  | 0, f, i, y, h => by
    obtain ⟨g, rfl⟩ : ∃ g, f = g + 1 := ⟨f - 1, by omega⟩
    rfl
  | k + 1, f, i, y, h => by
    obtain ⟨g, rfl⟩ : ∃ g, f = g + 1 := ⟨f - 1, by omega⟩
    rw [List.replicate_succ, getF_high _ _ _ _ _ hb]
    exact getF_rep_cut b hb k g _ _ (by omega)

theorem getF_rep_long (b : UInt8) (hb : 128 ≤ b.toNat) : ∀ (f k i y : Nat) (l : List UInt8), f ≤ k → getF f i y (List.replicate k b ++ l) = (0, 0, 101)
  | 0, _, _, _, _, _ => rfl
  | f + 1, k, i, y, l, h => by
    obtain ⟨j, rfl⟩ : ∃ j, k = j + 1 := ⟨k - 1, by omega⟩
    rw [List.replicate_succ, List.cons_append, getF_high _ _ _ _ _ hb]
    exact getF_rep_long b hb f j _ _ l (by omega)

theorem getF_rep_zero (b : UInt8) (hb : 128 ≤ b.toNat) : ∀ (k f i y : Nat), k < f → 0 < i + k → getF f i y (List.replicate k b ++ [0]) = (0, 0, 101)
  | 0, f, i, y, h, hi => by
    obtain ⟨g, rfl⟩ : ∃ g, f = g + 1 := ⟨f - 1, by omega⟩
    show (if _ then _ else _) = _
    rw [if_neg (by decide), if_pos ⟨rfl, by omega⟩]
  | k + 1, f, i, y, h, hi => by
    obtain ⟨g, rfl⟩ : ∃ g, f = g + 1 := ⟨f - 1, by omega⟩
    rw [List.replicate_succ, List.cons_append, getF_high _ _ _ _ _ hb]
    exact getF_rep_zero b hb k g _ _ (by omega) (by omega)

theorem getF_rep_one (b : UInt8) (hb : 128 ≤ b.toNat) : ∀ (k f i y : Nat), k < f → getF f i y (List.replicate k b ++ [1]) = (y + zF (b.toNat % 128) k * 128 ^ i, i + k + 1, 0)
  | 0, f, i, y, h => by
    obtain ⟨g, rfl⟩ : ∃ g, f = g + 1 := ⟨f - 1, by omega⟩
    show (if _ then _ else _) = _
    rw [if_neg (by decide), if_neg (by simp)]
    rfl
  | k + 1, f, i, y, h => by
    obtain ⟨g, rfl⟩ : ∃ g, f = g + 1 := ⟨f - 1, by omega⟩
    rw [List.replicate_succ, List.cons_append, getF_high _ _ _ _ _ hb, getF_rep_one b hb k g _ _ (by omega)]
    simp only [Prod.mk.injEq]
    refine ⟨?_, by omega, trivial⟩
    have e : zF (b.toNat % 128) k * 128 ^ (i + 1) = 128 * zF (b.toNat % 128) k * 128 ^ i := by
      rw [Nat.pow_succ, Nat.mul_comm (128 ^ i) 128, ← Nat.mul_assoc, Nat.mul_comm (zF _ k) 128]
    rw [e, zF, Nat.add_mul]
    omega

theorem getI_zero (l : List UInt8) : getI l 0 = getAt l 0 := by
  unfold getI; rw [if_pos ⟨by omega, by omega⟩]; rfl

theorem getAt_of (l : List UInt8) {x k : Nat} (h : getF 9 0 0 l = (x, k, 0)) : getAt l 0 = (x, k, 0) := by
  unfold getAt get
  rw [List.drop_zero, h]
  simp

theorem getAt_err (l : List UInt8) {n : Nat} (h : getF 9 0 0 l = (0, 0, n + 1)) : getAt l 0 = (0, 0, n + 1) := by
  unfold getAt get
  rw [List.drop_zero, h]
  simp

theorem getI_out (l : List UInt8) (a : Int) (h : a < 0 ∨ l.length < a) : getI l a = (0, 0, 101) := by
  unfold getI; rw [if_neg (by omega)]

theorem join7 (z c : Nat) (hc : c < 128) (h : 128 * z + c < 9223372036854775808) : bits .or .i64 ((z : Int) * 128) (c : Int) = ((128 * z + c : Nat) : Int) := by
  have e : ((z : Int) * 128) = ((2 ^ 7 * z : Nat) : Int) := by omega
  rw [e, i64_or_join z c 7 (by omega) (by omega)]

theorem zF_small {c k : Nat} (hc : c < 128) (hk : k < 9) : 128 * zF c k + c < 9223372036854775808 ∨ 8 ≤ k := by
  rcases Nat.lt_or_ge k 8 with h | h
  · left
    have h1 := zF_lt hc (k + 1)
    have h2 : (128 : Nat) ^ (k + 1) ≤ 128 ^ 8 := Nat.pow_le_pow_right (by omega) (by omega)
    have e : (128 : Nat) ^ 8 = 72057594037927936 := by decide
    rw [zF] at h1
    omega
  · right; exact h

end Go.Proofs.Ytjfgccjdkflfoaa.Vi

/-
  Plain mathematics of layer 1: what is put comes back; what is cut does not.
-/
namespace Go.Proofs.Ytjfgccjdkflfoaa.Vi
open Go.RowKit
set_option linter.unusedVariables false

theorem byte_high (x : Nat) : (UInt8.ofNat (x % 128 + 128)).toNat = x % 128 + 128 := by
  rw [UInt8.toNat_ofNat']; omega

theorem byte_low {x : Nat} (h : x < 128) : (UInt8.ofNat x).toNat = x := by
  rw [UInt8.toNat_ofNat']; omega

theorem getF_put : ∀ (f x i y : Nat) (r : List UInt8), x < 128 ^ f → 0 < x ∨ i = 0 → 0 < f → getF f i y (putF f x ++ r) = (y + x * 128 ^ i, i + (putF f x).length, 0)
  | 0, _, _, _, _, _, _, h => by omega
  | f + 1, x, i, y, r, hx, hi, _ => by
    by_cases h : x < 128
    · rw [putF_last (by omega) (by omega)]
      show (if _ then _ else _) = _
      rw [byte_low h, if_neg (by omega), if_neg (by omega), Nat.mod_eq_of_lt h]
      rfl
    · obtain ⟨h0, h1, h2⟩ := putF_more hx (by omega) (show 128 ≤ x by omega)
      have e : f + 1 - 1 = f := by omega
      rw [e] at h0 h1 h2
      have hd : x / 128 * 128 ^ (i + 1) + x % 128 * 128 ^ i = x * 128 ^ i := by
        rw [Nat.pow_succ, Nat.mul_comm (128 ^ i) 128, ← Nat.mul_assoc, ← Nat.add_mul]
        congr 1; omega
      rw [h2, List.cons_append, getF_high _ _ _ _ _ (by rw [byte_high]; omega), getF_put f (x / 128) (i + 1) _ r h1 (.inl (by omega)) h0, byte_high]
      simp only [Prod.mk.injEq, List.length_cons]
      refine ⟨?_, by omega, trivial⟩
      rw [show (x % 128 + 128) % 128 = x % 128 by omega]
      omega

theorem putF_ne (f x : Nat) (hf : 0 < f) : putF f x ≠ [] := by
  obtain ⟨g, rfl⟩ : ∃ g, f = g + 1 := ⟨f - 1, by omega⟩
  unfold putF
  split <;> simp

theorem getF_put_cut : ∀ (f x i y : Nat), x < 128 ^ f → 0 < f → getF f i y (putF f x).dropLast = (0, 0, 100)
  | 0, _, _, _, _, h => by omega
  | f + 1, x, i, y, hx, _ => by
    by_cases h : x < 128
    · rw [putF_last (by omega) (by omega)]; rfl
    · obtain ⟨h0, h1, h2⟩ := putF_more hx (by omega) (show 128 ≤ x by omega)
      have e : f + 1 - 1 = f := by omega
      rw [e] at h0 h1 h2
      rw [h2, List.dropLast_cons_of_ne_nil (putF_ne f _ h0), getF_high _ _ _ _ _ (by rw [byte_high]; omega)]
      exact getF_put_cut f _ _ _ h1 h0

theorem pow9 : (128 : Nat) ^ 9 = 9223372036854775808 := by decide

theorem getI_put (l : List UInt8) (x : Nat) (r : List UInt8) (hx : x < 9223372036854775808) :
    getI (l ++ (put x ++ r)) (l.length : Int) = (x, l.length + (put x).length, 0) := by
  unfold getI
  rw [if_pos ⟨by omega, by simp; omega⟩, Int.toNat_natCast]
  have hg : get (List.drop l.length (l ++ (put x ++ r))) = (x, (put x).length, 0) := by
    rw [List.drop_left]
    unfold get put
    rw [getF_put 9 x 0 0 r (by rw [pow9]; exact hx) (.inr rfl) (by omega)]
    simp
  unfold getAt
  rw [hg]
  rfl

theorem getText_put (l t r : List UInt8) (ht : t.length ≤ 65536) :
    getText (l ++ ((put t.length ++ t) ++ r)) (l.length : Int) = (t, l.length + (put t.length).length + t.length, 0) := by
  have hg := getI_put l t.length (t ++ r) (by omega)
  have e : l ++ ((put t.length ++ t) ++ r) = (l ++ put t.length) ++ (t ++ r) := by simp
  have e2 : l ++ (put t.length ++ (t ++ r)) = (l ++ put t.length) ++ (t ++ r) := by simp
  rw [e2] at hg
  rw [e]
  unfold getText
  rw [hg]
  simp only
  rw [if_pos trivial, if_neg (by omega), if_neg (by simp; omega)]
  have hd : List.drop (l.length + (put t.length).length) ((l ++ put t.length) ++ (t ++ r)) = t ++ r := by
    rw [← List.length_append, List.drop_left]
  rw [hd, List.take_left]

theorem putText_small (t : List UInt8) (ht : t.length ≤ 65536) : putText t = (put t.length ++ t, 0) := by
  unfold putText
  rw [if_neg (by omega)]

theorem put_zero : put 0 = [0] := by decide

theorem getText_cut (t : List UInt8) (ht : t.length ≤ 65536) : getText (put t.length ++ t).dropLast 0 = ([], 0, 100) := by
  by_cases h : t = []
  · subst h; decide
  · rw [List.dropLast_append_of_ne_nil h]
    have hg := getI_put [] t.length t.dropLast (by omega)
    simp only [List.nil_append, List.length_nil, Nat.zero_add] at hg
    have hg' : getI (put t.length ++ t.dropLast) 0 = (t.length, (put t.length).length, 0) := hg
    unfold getText
    rw [hg']
    simp only
    have hl : 0 < t.length := List.length_pos_iff.2 h
    rw [if_pos trivial, if_neg (by omega), if_pos (by simp; omega)]

theorem get_cut (x : Nat) (hx : x < 9223372036854775808) : getI (put x).dropLast 0 = (0, 0, 100) := by
  rw [getI_zero]
  exact getAt_err _ (getF_put_cut 9 x 0 0 (by rw [pow9]; exact hx) (by omega))

theorem put_ne (x : Nat) : put x ≠ [] := putF_ne 9 x (by omega)

end Go.Proofs.Ytjfgccjdkflfoaa.Vi

/-
  What a call may have turned: the blocks of a set, and new ones.
-/
namespace Go.Proofs.Ytjfgccjdkflfoaa
open Go.RowKit
set_option linter.unusedVariables false

/-- Of what lay in w only the blocks of S may have turned. -/
def Kept (S : Nat → Prop) (w w' : World) : Prop := Below 0 w w' ∧ ∀ k, k < w.heap.size → ¬ S k → w'.heap[k]? = w.heap[k]?

theorem Kept.refl (S : Nat → Prop) (w : World) : Kept S w w := ⟨Below.refl _ _, fun _ _ _ => rfl⟩

theorem Kept.of {S : Nat → Prop} {w w' : World} (h : Below w.heap.size w w') : Kept S w w' := ⟨h.mono (Nat.zero_le _), fun k hk _ => h.block k hk⟩

theorem Kept.size {S : Nat → Prop} {w w' : World} (h : Kept S w w') : w.heap.size ≤ w'.heap.size := h.1.size

theorem Kept.trans {S : Nat → Prop} {w w1 w2 : World} (h : Kept S w w1) (h2 : Kept S w1 w2) : Kept S w w2 :=
  ⟨h.1.trans h2.1, fun k hk hS => (h2.2 k (Nat.lt_of_lt_of_le hk h.size) hS).trans (h.2 k hk hS)⟩

theorem Kept.mono {S T : Nat → Prop} {w w' : World} (h : Kept S w w') (hST : ∀ k, k < w.heap.size → S k → T k) : Kept T w w' := ⟨h.1, fun k hk hT => h.2 k hk fun hS => hT (hST k hk hS)⟩

theorem Kept.below {S : Nat → Prop} {B : Nat} {w w' : World} (h : Kept S w w') (hB : B ≤ w.heap.size) (hS : ∀ k, S k → B ≤ k) : Below B w w' :=
  ⟨h.1.os, h.1.tape, h.1.output, h.1.size, fun k hk => h.2 k (by omega) fun hs => by have := hS k hs; omega⟩

theorem Kept.cell {S : Nat → Prop} {w w' : World} (h : Kept S w w') {b o : Nat} (hb : b < w.heap.size) (hS : ¬ S b) : w'.cell? ⟨b, o, none⟩ = w.cell? ⟨b, o, none⟩ := World.cell?_of_block (w := w) (h.2 b hb hS)

theorem Kept.frozen {S : Nat → Prop} {w w' : World} (h : Kept S w w') {b o : Nat} (hb : b < w.heap.size) (hS : ¬ S b) : w'.frozen? ⟨b, o, none⟩ = w.frozen? ⟨b, o, none⟩ := World.frozen?_of_block (w := w) (h.2 b hb hS)

theorem Kept.set {S : Nat → Prop} {a w : World} (h : Kept S a w) {p : Addr} (hp : S p.block) (u : Value) : Kept S a (w.setCell p u) :=
  ⟨h.1.setCell (Nat.zero_le _) u, fun k hk hS => (Below.heap_setCell _ _ _ _ fun e => hS (by rw [e]; exact hp)).trans (h.2 k hk hS)⟩

theorem Kept.drew {S : Nat → Prop} {a w : World} (h : Kept S a w) : Kept S a w.drew := ⟨h.1.drew, h.2⟩

theorem RowAt.kept {S : Nat → Prop} {w w' : World} {ao : Option Addr} {l : List Int} (h : RowAt w ao l) (hk : Kept S w w') (hn : ∀ b off, ao = some ⟨b, off, none⟩ → ¬ S b) : RowAt w' ao l := fun h0 => by
  obtain ⟨b, off, h1, h2, h3⟩ := h h0
  exact ⟨b, off, h1, Nat.lt_of_lt_of_le h2 hk.size, fun i hi => (hk.cell h2 (hn b off h1)).trans (h3 i hi)⟩

theorem OwnAt.kept {B : Nat} {S : Nat → Prop} {w w' : World} {ao : Option Addr} {l : List Int} (h : OwnAt B w ao l) (hk : Kept S w w') (hn : ∀ b off, ao = some ⟨b, off, none⟩ → ¬ S b) : OwnAt B w' ao l := fun h0 => by
  obtain ⟨b, off, h1, hB, h2, h3⟩ := h h0
  exact ⟨b, off, h1, hB, Nat.lt_of_lt_of_le h2 hk.size, fun i hi => ⟨(hk.cell h2 (hn b off h1)).trans (h3 i hi).1, (hk.frozen h2 (hn b off h1)).trans (h3 i hi).2⟩⟩

/-- Where a row of the call's own begins. -/
theorem OwnAt.from {B : Nat} {w : World} {ao : Option Addr} {l : List Int} (h : OwnAt B w ao l) (h0 : 0 < l.length) : ∃ b off, ao = some ⟨b, off, none⟩ ∧ B ≤ b ∧ b < w.heap.size := by
  obtain ⟨b, off, h1, hB, h2, _⟩ := h h0
  exact ⟨b, off, h1, hB, h2⟩

end Go.Proofs.Ytjfgccjdkflfoaa

/-
  Small laws for rows of bytes that a call itself makes: one byte appended; such a row as a string.
-/
namespace Go.Proofs.Ytjfgccjdkflfoaa
open Go.RowKit
set_option linter.unusedVariables false

theorem Try.infoByte : (Try.prog.info? 5).map (fun i => (i.zero, i.size, i.bytes)) = some (some (.int .u8 0), 1, 1) := by kernel_rfl

theorem cells_snoc (l : List UInt8) (b : UInt8) : Vi.cells (l ++ [b]) = Vi.cells l ++ [.int .u8 b.toNat] := by simp [Vi.cells]

/-- 'append(out, c)', out the call's own bytes. -/
theorem wpList_append_byte {ops : Array Oper} {rest : List Oper} {o : Oper} {a : Act} {Q : Exit → Act → World → Prop} (hgd : o.guard = none) (s x : Operand)
    (ho : o.op = .call { callee := .builtin .append, args := #[s, x], argTypes := #[50, 50] })
    {B : Nat} {v : Value} {l : List UInt8} {wr : World} {c : Int} (b : UInt8) (hc : c = (b.toNat : Int))
    (hs : a.eval s = v) (hx : a.eval x = .slice (some ⟨wr.heap.size, 0, none⟩) 1 1)
    (hown : wr.ownsRow B 5 1 v l.length (Vi.cells l)) (hlen : l.length < 140737488355328) (hB : B ≤ wr.heap.size)
    (h : ∀ v' w', w'.ownsRow B 5 1 v' (l ++ [b]).length (Vi.cells (l ++ [b])) → Below B wr w' → wpList Try.prog ops Q rest (a.put o.dst v') w') :
    wpList Try.prog ops Q (o :: rest) a (wr.alloc (.cells #[.int .u8 c] 5)) := by
  obtain ⟨i0, hi, hz0, hz1, hz2⟩ := info_parts Try.infoByte
  refine wpList_append_own _ hgd s x 50 ho B 5 i0 (.int .u8 0) 1 1 Try.underlying50 hi hz0 hz1 hz2 rfl (by decide) v l.length (Vi.cells l) hs (hown.alloc _) ⟨wr.heap.size, 0, none⟩ 1 1 [.int .u8 c] hx rfl ?_ ?_ ?_ ?_ ?_ ?_
  · intro j u hj
    match j, hj with
    | 0, hj => simp at hj; subst hj; simp [Addr.add]
  · intro u hu; simp at hu; subst hu; rfl
  · unfold maxLen; omega
  · omega
  · simp; omega
  · intro v' w' hown' hgrow _
    refine h v' w' ?_ ?_
    · rw [cells_snoc, ← hc]
      simpa using hown'
    · refine ((Below.refl _ _).alloc hB _).grown hgrow (by simp; omega) ?_
      intro g hg
      rcases hown.2 with ⟨rfl, _⟩ | ⟨g', cap, cur, rfl, hb, _⟩
      · simp [Value.ownBlock] at hg
      · simp [Value.ownBlock] at hg; omega

/-- 'string(out)', out the call's own bytes. -/
theorem run_string_own {w : World} {B : Nat} {v : Value} {l : List UInt8} (hown : w.ownsRow B 5 1 v l.length (Vi.cells l)) :
    (convert 50 9 v).run Try.prog w = .ok (.string ⟨l.toArray⟩) w := by
  rcases hown.2 with ⟨rfl, h0⟩ | ⟨g, cap, cur, rfl, hb, hh, hn, hm, hcs, htake⟩
  · have : l = [] := List.eq_nil_of_length_eq_zero h0
    subst this
    rw [run_convert_bytes_string w 50 9 5 none 0 0 Try.underlying50 Try.underlying5 Try.underlying9]
    rfl
  · refine run_convert_bytes_back w 50 9 5 ⟨g, 0, none⟩ cap l Try.underlying50 Try.underlying5 Try.underlying9 ?_
    intro j hj
    refine hown.cells (g := g) rfl j _ ?_
    simp [Vi.cells, List.getElem?_eq_getElem hj]

/-- 'string(make([]byte, n))'. -/
theorem zeros_string {w : World} {B n : Nat} {v : Value} (hown : w.ownsRow B 5 1 v n (madeCells (Value.int .u8 0).cells (n * 1)).toList) :
    (convert 50 9 v).run Try.prog w = .ok (.string ⟨(List.replicate n (0 : UInt8)).toArray⟩) w := by
  have e : (madeCells (Value.int .u8 0).cells (n * 1)).toList = Vi.cells (List.replicate n 0) := by
    rw [Nat.mul_one, show (Value.int .u8 0).cells = #[.int .u8 0] from rfl, toList_madeCells_one]
    simp [Vi.cells]
  rw [e] at hown
  refine run_string_own (B := B) ?_
  rw [List.length_replicate]
  exact hown

end Go.Proofs.Ytjfgccjdkflfoaa

/-
  Package varint's Put, by a contract: what it answers for every number.
-/
namespace Go.Proofs.Ytjfgccjdkflfoaa
open Go.RowKit
set_option linter.unusedVariables false

theorem ret_si {s s' : ByteArray} {a a' : Int} (h1 : s = s') (h2 : a = a') :
    Ending.returned (.tuple #[.string s, .int .i64 a]) = .returned (.tuple #[.string s', .int .i64 a']) := by rw [h1, h2]

set_option maxHeartbeats 1000000 in
set_option maxRecDepth 100000 in
theorem put_nat (x : Nat) (w : World) (hx : x < 9223372036854775808) :
    Calls Try.prog 64 #[.int .i64 x] w fun e w' => e = .returned (.tuple #[.string ⟨(Vi.put x).toArray⟩, .int .i64 0]) ∧ Below w.heap.size w w' := by
  obtain ⟨i0, hi, hz0, hz1, hz2⟩ := info_parts Try.infoByte
  have hd0 : decide ((x : Int) < 0) = false := by simp
  go_enter Try.func64, Try.ntmps64
  go_wp2_with (first
    | (at_make; refine wpList_make_own _ rfl _ _ 50 rfl w.heap.size 5 i0 (.int .u8 0) 1 Try.underlying50 hi hz0 hz1 .i64 .i64 9 9 rfl rfl rfl (by rw [hz2]; omega) (by unfold maxLen; omega) (Nat.le_refl _) ?_; intro w1 hown hgrow))
  have hbel : Below w.heap.size w w1 := (Below.refl _ _).grown hgrow (Nat.le_refl _) (by simp)
  have H : Hid (Vi.put x = [] ++ Vi.putF 9 x) := rfl
  clear hgrow
  go_loopg [0, 4] 9 (fun f xv v wr => ∃ (y : Nat) (l : List UInt8), l.length + f = 9 ∧ 0 < f ∧ y < 128 ^ f ∧ Vi.put x = l ++ Vi.putF f y ∧ xv = .int .i64 y ∧ wr.ownsRow w.heap.size 5 1 v l.length (Vi.cells l) ∧ Below w.heap.size w wr)
  case atStart => exact ⟨x, [], rfl, by omega, hx, H.out, rfl, hown, hbel⟩
  case round =>
    clear hown hbel H
    obtain ⟨y, l, hlf, hf, hy, hput, rfl, hown, hbel⟩ := hrel
    have HY : Hid (y < 128 ^ gk ∧ l.length + gk = 9 ∧ 0 < gk ∧ Vi.put x = l ++ Vi.putF gk y) := ⟨hy, hlf, hf, hput⟩
    have hy63 : y < 9223372036854775808 := Vi.lt63 hy (by omega)
    clear hy hlf hf hput
    have hsz : w.heap.size ≤ wr.heap.size := hbel.size
    by_cases hc : 128 ≤ y
    · go_wp2_with (at_builtin; refine wpList_append_byte rfl _ _ rfl (UInt8.ofNat (y % 128 + 128)) (Vi.or128 y) rfl rfl hown (by have := HY.out; omega) hsz ?_; intro v' w' hown' hbel')
      have hb2 := hbel.trans hbel'
      have hn := Vi.putF_more HY.out.1 HY.out.2.2.1 hc
      go_roundg (gk - 1)
      case measure => omega
      case rel =>
        refine ⟨y / 128, l ++ [UInt8.ofNat (y % 128 + 128)], by have := HY.out.2.1; simp; omega, by omega, hn.2.1, ?_, ?_, hown', hb2⟩
        · rw [HY.out.2.2.2, hn.2.2]; simp
        · go_num
    · go_wp2_with (at_builtin; refine wpList_append_byte rfl _ _ rfl (UInt8.ofNat y) (Vi.byte_small hc) rfl rfl hown (by have := HY.out; omega) hsz ?_; intro v' w' hown' hbel'; have hstr := run_string_own hown')
      go_ret2
      exact ⟨ret_si (by rw [HY.out.2.2.2, Vi.putF_last HY.out.2.2.1 hc]) rfl, hbel.trans hbel'⟩

theorem put_neg (x : Int) (w : World) (hx : x < 0) :
    Calls Try.prog 64 #[.int .i64 x] w fun e w' => e = .returned (.tuple #[.string ⟨#[]⟩, .int .i64 101]) ∧ w' = w := by
  go_enter Try.func64, Try.ntmps64
  go_wp2
  go_ret2
  exact ⟨rfl, rfl⟩

/-- Put of whatever number. -/
theorem put_any (x : Int) (w : World) (hw : (Lit.int .i64 x).wf = true) {l : List UInt8} {n : Nat} (hp : Vi.putI x = (l, n)) :
    Calls Try.prog 64 #[.int .i64 x] w fun e w' => e = .returned (.tuple #[.string ⟨l.toArray⟩, .int .i64 n]) ∧ Below w.heap.size w w' := by
  by_cases h : x < 0
  · rw [show Vi.putI x = ([], 101) by unfold Vi.putI; rw [if_pos h]] at hp
    simp only [Prod.mk.injEq] at hp
    obtain ⟨rfl, rfl⟩ := hp
    refine (put_neg x w h).mono ?_
    rintro e w' ⟨rfl, rfl⟩
    exact ⟨rfl, Below.refl _ _⟩
  · rw [show Vi.putI x = (Vi.put x.toNat, 0) by unfold Vi.putI; rw [if_neg h]] at hp
    simp only [Prod.mk.injEq] at hp
    obtain ⟨rfl, rfl⟩ := hp
    obtain ⟨y, rfl⟩ := Int.eq_ofNat_of_zero_le (show 0 ≤ x by omega)
    have hb := bounds_i64 hw
    refine (put_nat y w (by omega)).mono ?_
    rintro e w' ⟨rfl, h2⟩
    exact ⟨rfl, h2⟩

end Go.Proofs.Ytjfgccjdkflfoaa

/-
  strings.Clone, by the library's own contract of the function that it calls, laid at this program's numbers: the same bytes, in new memory.
-/
namespace Go.Proofs.Ytjfgccjdkflfoaa
open Go.Shelf Go.RowKit

def cloneRen : Go.Shelf.Ren := ⟨fun | 316 => 77 | n => n, fun | 9 => 9 | 3 => 3 | 4 => 4 | 37 => 50 | 0 => 0 | 127 => 84 | 5 => 5 | n => n, fun | n => n⟩

theorem cloneLays : Go.Proofs.LaysM.n316 Try.prog cloneRen := {
  mixed := by kernel_rfl
  f316 := Try.func77.trans (congrArg some (by kernel_rfl))
  t0 := Try.underlying0
  a0 := Try.isAgg0
  z0 := Try.sizeOf0
  v0 := Try.zeroValue0
  t3 := Try.underlying3
  a3 := Try.isAgg3
  z3 := Try.sizeOf3
  v3 := Try.zeroValue3
  t4 := Try.underlying4
  a4 := Try.isAgg4
  z4 := Try.sizeOf4
  v4 := Try.zeroValue4
  t9 := Try.underlying9
  a9 := Try.isAgg9
  z9 := Try.sizeOf9
  v9 := Try.zeroValue9
  t37 := Try.underlying50
  a37 := Try.isAgg50
  z37 := Try.sizeOf50
  v37 := Try.zeroValue50
  t127 := Try.underlying84
  a127 := Try.isAgg84
  z127 := Try.sizeOf84
  v127 := Try.zeroValue84
  t5 := Try.underlying5
  a5 := Try.isAgg5
  z5 := Try.sizeOf5
  v5 := Try.zeroValue5
  i0 := by kernel_rfl
  i3 := by kernel_rfl
  i4 := by kernel_rfl
  i5 := by kernel_rfl
  i9 := by kernel_rfl
  i37 := by kernel_rfl
  i127 := by kernel_rfl }

theorem slite_clone (s : ByteArray) (w : World) (hlim : s.size ≤ 281474976710656) :
    Calls Try.prog 77 #[.string s] w fun e w' => e = .returned (.string s) ∧ Below w.heap.size w w' := Any.stringslite_Clone cloneLays s w hlim

theorem clone_any (s : ByteArray) (w : World) (hlim : s.size ≤ 281474976710656) :
    Calls Try.prog 74 #[.string s] w fun e w' => e = .returned (.string s) ∧ Below w.heap.size w w' := by
  go_enter Try.func74, Try.ntmps74
  go_wp2_with (go_at_call 77; refine (slite_clone _ _ hlim).mono ?_; rintro e w1 ⟨rfl, hb⟩)
  go_ret
  exact ⟨rfl, hb⟩

end Go.Proofs.Ytjfgccjdkflfoaa

/-
  Small equations: a string's bytes as a list; answers of a string and two numbers.
-/
namespace Go.Proofs.Ytjfgccjdkflfoaa
open Go.RowKit
set_option linter.unusedVariables false

theorem size_list (s : ByteArray) : s.data.toList.length = s.size := by simp

theorem list_string (s : ByteArray) : (⟨s.data.toList.toArray⟩ : ByteArray) = s := by simp

theorem ret_sii {s s' : ByteArray} {a a' b b' : Int} (h1 : s = s') (h2 : a = a') (h3 : b = b') :
    Ending.returned (.tuple #[.string s, .int .i64 a, .int .i64 b]) = .returned (.tuple #[.string s', .int .i64 a', .int .i64 b']) := by rw [h1, h2, h3]

theorem join3 (a b : List UInt8) (s : ByteArray) : ((⟨a.toArray⟩ : ByteArray) ++ (⟨b.toArray⟩ : ByteArray) ++ s) = ⟨(a ++ (b ++ s.data.toList)).toArray⟩ := by
  apply ByteArray.ext
  simp [ByteArray.data_append]

theorem join2 (a b : List UInt8) : ((⟨a.toArray⟩ : ByteArray) ++ (⟨b.toArray⟩ : ByteArray)) = ⟨(a ++ b).toArray⟩ := by
  apply ByteArray.ext
  simp [ByteArray.data_append]

end Go.Proofs.Ytjfgccjdkflfoaa

/-
  The document's own way to tell a number's bytes ('put' of the reference package), by a contract: the same plain function as varint's Put.
-/
namespace Go.Proofs.Ytjfgccjdkflfoaa
open Go.RowKit
set_option linter.unusedVariables false

set_option maxHeartbeats 1000000 in
set_option maxRecDepth 100000 in
theorem refput_nat (x : Nat) (w : World) (hx : x < 9223372036854775808) :
    Calls Try.prog 24 #[.int .i64 x] w fun e w' => e = .returned (.string ⟨(Vi.put x).toArray⟩) ∧ Below w.heap.size w w' := by
  have H : Hid (Vi.put x = [] ++ Vi.putF 9 x) := rfl
  go_enter Try.func24, Try.ntmps24
  go_wp2
  go_loopg [0, 3] 9 (fun f xv v wr => ∃ (y : Nat) (l : List UInt8), l.length + f = 9 ∧ 0 < f ∧ y < 128 ^ f ∧ Vi.put x = l ++ Vi.putF f y ∧ xv = .int .i64 y ∧ wr.ownsRow w.heap.size 5 1 v l.length (Vi.cells l) ∧ Below w.heap.size w wr)
  case atStart => exact ⟨x, [], rfl, by omega, hx, H.out, rfl, World.ownsRow_nil _ _ _ _, Below.refl _ _⟩
  case round =>
    clear H
    obtain ⟨y, l, hlf, hf, hy, hput, rfl, hown, hbel⟩ := hrel
    have HY : Hid (y < 128 ^ gk ∧ l.length + gk = 9 ∧ 0 < gk ∧ Vi.put x = l ++ Vi.putF gk y) := ⟨hy, hlf, hf, hput⟩
    have hy63 : y < 9223372036854775808 := Vi.lt63 hy (by omega)
    clear hy hlf hf hput
    have hsz : w.heap.size ≤ wr.heap.size := hbel.size
    by_cases hc : 128 ≤ y
    · go_wp2_with (at_builtin; refine wpList_append_byte rfl _ _ rfl (UInt8.ofNat (y % 128 + 128)) (Vi.ref128 y) rfl rfl hown (by have := HY.out; omega) hsz ?_; intro v' w' hown' hbel')
      have hb2 := hbel.trans hbel'
      have hn := Vi.putF_more HY.out.1 HY.out.2.2.1 hc
      go_roundg (gk - 1)
      case measure => omega
      case rel =>
        refine ⟨y / 128, l ++ [UInt8.ofNat (y % 128 + 128)], by have := HY.out.2.1; simp; omega, by omega, hn.2.1, ?_, ?_, hown', hb2⟩
        · rw [HY.out.2.2.2, hn.2.2]; simp
        · go_num
    · have hc2 : ¬ (127 : Int) < (y : Int) := by omega
      have hc3 : y ≤ 127 := by omega
      go_wp2_with (at_builtin; refine wpList_append_byte rfl _ _ rfl (UInt8.ofNat y) (Vi.byte_small hc) rfl rfl hown (by have := HY.out; omega) hsz ?_; intro v' w' hown' hbel'; have hstr := run_string_own hown')
      go_ret
      exact ⟨by rw [HY.out.2.2.2, Vi.putF_last HY.out.2.2.1 hc]; rfl, hbel.trans hbel'⟩

end Go.Proofs.Ytjfgccjdkflfoaa

/-
  Steps through a region that draws its order, one by one: an operation that reads, taken first; one whose guard is not met, left out.
-/
namespace Go.Proofs.Ytjfgccjdkflfoaa
open Go.RowKit
set_option linter.unusedVariables false

section
variable {P : Program} {md : Region.Mode} {ops : Array Oper} {Q : Exit → Act → World → Prop} {S : World → Prop}

theorem put_at {l : List Value} {df : List Deferred} {o : Oper} {d : Nat} (hd : o.dst = some d) (v : Value) : (Act.put ⟨l.toArray, df⟩ o.dst v) = ⟨(l.set d v).toArray, df⟩ := by
  rw [hd]; simp [Act.put]

/-- An operation that reads: its value is the same in every world that meets S. -/
theorem take_at (i d : Nat) {oi : Oper} {v : Value} {fuel : Nat} {listed : Array Bool} {l : List Value} {df : List Deferred} {w : World} (hi : ops[i]? = some oi)
    (hs : Region.noSelect ops = true) (hf : Region.free md ops listed i = true) (hr : (Region.ready md ops listed).contains i = true)
    (hQ : ∀ c a w, Q (.panic c) (a.put oi.dst v) w → Q (.panic c) a w) (hd : oi.dst = some d) (hw : Region.wanted oi (yielded ops l.toArray) = true)
    (hy : ∀ w, S w → (execOp (Act.eval ⟨l.toArray, df⟩) oi).run P w = .ok (.value v) w) (hS : S w)
    (h : wpAnyH P md ops Q S fuel (listed.setIfInBounds i true) ⟨(l.set d v).toArray, df⟩ w) : wpAnyH P md ops Q S (fuel + 1) listed ⟨l.toArray, df⟩ w :=
  wpAnyH_take hi hs hf hr hQ (Or.inl ⟨hw, hy⟩) hS (by rw [put_at hd]; exact h)

/-- An operation whose guard is not met. -/
theorem skip_at (i d : Nat) {oi : Oper} {fuel : Nat} {listed : Array Bool} {l : List Value} {df : List Deferred} {w : World} (hi : ops[i]? = some oi)
    (hs : Region.noSelect ops = true) (hf : Region.free md ops listed i = true) (hr : (Region.ready md ops listed).contains i = true)
    (hQ : ∀ c a w, Q (.panic c) (a.put oi.dst undef) w → Q (.panic c) a w) (hd : oi.dst = some d) (hw : Region.wanted oi (yielded ops l.toArray) = false) (hS : S w)
    (h : wpAnyH P md ops Q S fuel (listed.setIfInBounds i true) ⟨(l.set d undef).toArray, df⟩ w) : wpAnyH P md ops Q S (fuel + 1) listed ⟨l.toArray, df⟩ w :=
  wpAnyH_take hi hs hf hr hQ (Or.inr ⟨hw, rfl⟩) hS (by rw [put_at hd]; exact h)

end

end Go.Proofs.Ytjfgccjdkflfoaa

/-
  A region that draws its order: a load may be taken first where its cell is written only behind an operation that waits for it ('x.f = g(x.f, ..)'): the condition S on the world is asked only till that operation has come up.
-/
namespace Go.Proofs.Ytjfgccjdkflfoaa
open Go.RowKit
set_option linter.unusedVariables false

section
variable {P : Program} {ops : Array Oper} {Q : Exit → Act → World → Prop} {md : Region.Mode} {S : World → Prop} {e : Nat}

/-- Whatever order is picked; S holds behind every operation till number e has come up. -/
def wpAnyT (P : Program) (md : Region.Mode) (ops : Array Oper) (Q : Exit → Act → World → Prop) (S : World → Prop) (e : Nat) : Nat → Array Bool → Act → World → Prop
  | 0, listed, a, w => Region.ready md ops listed = [] ∧ Q .normal a w
  | fuel + 1, listed, a, w =>
    (Region.ready md ops listed = [] → Q .normal a w) ∧
    ∀ i ∈ Region.ready md ops listed, wpOp P ops Q i (fun a' w' => ((listed.setIfInBounds i true).getD e false = true ∨ S w') ∧ wpAnyT P md ops Q S e fuel (listed.setIfInBounds i true) a' w') a w

theorem wpAny_of_till : ∀ (fuel : Nat) (listed : Array Bool) (a : Act) (w : World), wpAnyT P md ops Q S e fuel listed a w → wpAny P md ops Q fuel listed a w
  | 0, _, _, _, h => h
  | fuel + 1, _, _, _, h => ⟨h.1, fun i hi => wpOp_mono (fun a' w' h' => wpAny_of_till fuel _ a' w' h'.2) (h.2 i hi)⟩

/-- What has come up has come up behind what it waits for. -/
def Closed (md : Region.Mode) (ops : Array Oper) (listed : Array Bool) : Prop :=
  ∀ (j : Nat) oj, ops[j]? = some oj → listed.getD j false = true → ∀ x ∈ oj.after, Region.binds md x = true → listed.getD x.on false = true

theorem closed_step {listed : Array Bool} {j : Nat} (h : Closed md ops listed) (hj : j ∈ Region.ready md ops listed) : Closed md ops (listed.setIfInBounds j true) := by
  intro k ok hk hl x hx hb
  by_cases e : j = k
  · subst e
    obtain ⟨_, o, ho, hall⟩ := mem_ready.1 hj
    rw [hk] at ho
    simp only [Option.some.injEq] at ho
    subst ho
    exact getD_set_true (hall x hx hb)
  · rw [getD_set_ne false e] at hl
    exact getD_set_true (h k ok hk hl x hx hb)

theorem closed_start (n : Nat) : Closed md ops (Array.replicate n false) := by
  intro j oj _ hl
  exfalso
  have : (Array.replicate n false).getD j false = false := by
    rcases Nat.lt_or_ge j n with h | h
    · simp [h]
    · simp [h]
  rw [this] at hl
  cases hl

theorem getD_false {listed : Array Bool} {i : Nat} (h : listed.getD i true = false) : listed.getD i false = false := by
  rcases Nat.lt_or_ge i listed.size with h' | h'
  · simp [h'] at h ⊢; exact h
  · simp [h']

/-- Number e waits for number i. -/
def Waits (md : Region.Mode) (ops : Array Oper) (e i : Nat) : Prop := ∀ L : Array Bool, Closed md ops L → L.getD e false = true → L.getD i false = true

/-- .. at once. -/
def waitsB (md : Region.Mode) (ops : Array Oper) (e i : Nat) : Bool := match ops[e]? with
  | some oe => oe.after.toList.any fun x => x.on == i && Region.binds md x
  | none => false

theorem waits_one {e i : Nat} (h : waitsB md ops e i = true) : Waits md ops e i := fun L hL hl => by
  unfold waitsB at h
  split at h
  · rename_i oe he
    obtain ⟨x, hx, hb⟩ := List.any_eq_true.1 h
    simp only [Bool.and_eq_true, beq_iff_eq] at hb
    have := hL e oe he hl x (by simpa using hx) hb.2
    rwa [hb.1] at this
  · cases h

theorem Waits.trans {e j i : Nat} (h : Waits md ops e j) (k : Waits md ops j i) : Waits md ops e i := fun L hL hl => k L hL (h L hL hl)

theorem wpAnyT_first {i : Nat} {oi : Oper} {v : Value} (hi : ops[i]? = some oi) (hsel : ∀ (j : Nat) (o : Oper) cs b, ops[j]? = some o → o.op ≠ .select cs b)
    (hQ : ∀ c a w, Q (.panic c) (a.put oi.dst v) w → Q (.panic c) a w) (hdep : Waits md ops e i) (hne : e ≠ i) :
    ∀ (fuel : Nat) (listed : Array Bool) (a : Act) (w : World), Closed md ops listed →
      (∀ j oj, ops[j]? = some oj → j ≠ i → listed.getD j true = false → (∀ x ∈ oj.after, Region.binds md x = true → x.on ≠ i) → oi.apart ops oj = true) →
      i ∈ Region.ready md ops listed → YieldsIf P ops S oi v a → S w →
      wpAnyT P md ops Q S e fuel (listed.setIfInBounds i true) (a.put oi.dst v) w → wpAnyT P md ops Q S e (fuel + 1) listed a w := by
  intro fuel
  induction fuel with
  | zero =>
    intro listed a w _ _ hr hy hS H
    refine ⟨fun h => (by rw [h] at hr; cases hr), fun j hj => ?_⟩
    by_cases hji : j = i
    · subst hji; exact hy.wpOp hi hS ⟨Or.inr hS, H⟩
    · have := ready_mono hj hji
      rw [H.1] at this
      cases this
  | succ fuel ih =>
    intro listed a w hcl hfree hr hy hS H
    refine ⟨fun h => (by rw [h] at hr; cases hr), fun j hj => ?_⟩
    by_cases hji : j = i
    · subst hji; exact hy.wpOp hi hS ⟨Or.inr hS, H⟩
    · have h1 := H.2 j (ready_mono hj hji)
      obtain ⟨hjun, oj, hoj, hall⟩ := mem_ready.1 hj
      have hi0 := getD_false (mem_ready.1 hr).1
      have hnot : ∀ x ∈ oj.after, Region.binds md x = true → x.on ≠ i := fun x hx hb heq => by
        have h1 := hall x hx hb
        rw [heq, hi0] at h1
        cases h1
      have h2 := wpOp_putIf hoj (hfree j oj hoj hji hjun hnot) (fun cs b => hsel i oi cs b hi) (fun cs b => hsel j oj cs b hoj) hQ hy h1
      have hfree' : ∀ k ok, ops[k]? = some ok → k ≠ i → (listed.setIfInBounds j true).getD k true = false →
          (∀ x ∈ ok.after, Region.binds md x = true → x.on ≠ i) → oi.apart ops ok = true := fun k ok hk hki hun hno => by
        refine hfree k ok hk hki ?_ hno
        by_cases hjk : j = k
        · subst hjk; exact hjun
        · rw [getD_set_ne true hjk] at hun; exact hun
      have hcl' := closed_step hcl hj
      have hne2 : ((listed.setIfInBounds i true).setIfInBounds j true).getD e false = true → False := fun hl => by
        rw [Array.setIfInBounds_comm _ _ (Ne.symm hji), getD_set_ne false (Ne.symm hne)] at hl
        have := hdep _ hcl' hl
        rw [getD_set_ne false hji, hi0] at this
        cases this
      refine wpOp_mono (fun a' w' h3 => ?_) h2
      have hS' : S w' := by
        rcases h3.2.1 with hl | hs
        · exact (hne2 hl).elim
        · exact hs
      refine ⟨Or.inr hS', ih (listed.setIfInBounds j true) a' w' hcl' hfree' (ready_mono hr (Ne.symm hji)) h3.1 hS' ?_⟩
      rw [Array.setIfInBounds_comm _ _ hji]
      exact h3.2.2

/-- Take number i first. -/
theorem takeT (i d : Nat) {oi : Oper} {v : Value} {fuel : Nat} {listed : Array Bool} {l : List Value} {df : List Deferred} {w : World} (hi : ops[i]? = some oi)
    (hs : Region.noSelect ops = true) (hf : Region.free md ops listed i = true) (hr : (Region.ready md ops listed).contains i = true)
    (hQ : ∀ c a w, Q (.panic c) (a.put oi.dst v) w → Q (.panic c) a w) (hdep : Waits md ops e i) (hne : e ≠ i) (hcl : Closed md ops listed) (hd : oi.dst = some d) (hw : Region.wanted oi (yielded ops l.toArray) = true)
    (hy : ∀ w, S w → (execOp (Act.eval ⟨l.toArray, df⟩) oi).run P w = .ok (.value v) w) (hS : S w)
    (h : Closed md ops (listed.setIfInBounds i true) → wpAnyT P md ops Q S e fuel (listed.setIfInBounds i true) ⟨(l.set d v).toArray, df⟩ w) : wpAnyT P md ops Q S e (fuel + 1) listed ⟨l.toArray, df⟩ w :=
  have hr' : i ∈ Region.ready md ops listed := by simpa using hr
  wpAnyT_first hi (Region.noSelect_spec hs) hQ hdep hne fuel listed _ w hcl (Region.free_spec hi hf) hr' (Or.inl ⟨hw, hy⟩) hS (by rw [put_at hd]; exact h (closed_step hcl hr'))

/-- Each of those comes up next. -/
def AllT (P : Program) (md : Region.Mode) (ops : Array Oper) (Q : Exit → Act → World → Prop) (S : World → Prop) (e fuel : Nat) (listed : Array Bool) (a : Act) (w : World) (rs : List Nat) : Prop :=
  ∀ i ∈ rs, wpOp P ops Q i (fun a' w' => ((listed.setIfInBounds i true).getD e false = true ∨ S w') ∧ wpAnyT P md ops Q S e fuel (listed.setIfInBounds i true) a' w') a w

theorem AllT.nil {fuel : Nat} {listed : Array Bool} {a : Act} {w : World} : AllT P md ops Q S e fuel listed a w [] := fun _ h => by cases h

/-- One that comes up ahead of e: S anew. -/
theorem AllT.cons {fuel : Nat} {listed : Array Bool} {a : Act} {w : World} {i : Nat} {o : Oper} {rs : List Nat} (ho : ops[i]? = some o)
    (h : ∀ K' : Act → World → Prop, Shut (∀ a w, S w → wpAnyT P md ops Q S e fuel (listed.setIfInBounds i true) a w → K' a w) → if Region.wanted o (yielded ops a.tmps) = true then Oper.wp P o a w K' Q else K' (a.put o.dst undef) w)
    (hs : AllT P md ops Q S e fuel listed a w rs) : AllT P md ops Q S e fuel listed a w (i :: rs) := fun j hj => by
  rcases List.mem_cons.1 hj with rfl | hj
  · exact wpOp_step ho (fun K' hK => h K' (fun a w hS hW => hK a w ⟨Or.inr hS, hW⟩))
  · exact hs j hj

/-- One behind which S is no longer asked. -/
theorem AllT.late {fuel : Nat} {listed : Array Bool} {a : Act} {w : World} {i : Nat} {o : Oper} {rs : List Nat} (ho : ops[i]? = some o) (hl : (listed.setIfInBounds i true).getD e false = true)
    (h : ∀ K' : Act → World → Prop, Shut (∀ a w, wpAnyT P md ops Q S e fuel (listed.setIfInBounds i true) a w → K' a w) → if Region.wanted o (yielded ops a.tmps) = true then Oper.wp P o a w K' Q else K' (a.put o.dst undef) w)
    (hs : AllT P md ops Q S e fuel listed a w rs) : AllT P md ops Q S e fuel listed a w (i :: rs) := fun j hj => by
  rcases List.mem_cons.1 hj with rfl | hj
  · exact wpOp_step ho (fun K' hK => h K' (fun a w hW => hK a w ⟨Or.inl hl, hW⟩))
  · exact hs j hj

theorem readyT {rs : List Nat} {fuel : Nat} {listed : Array Bool} {a : Act} {w : World} (hr : Region.ready md ops listed = rs) (hne : rs ≠ [])
    (h : AllT P md ops Q S e fuel listed a w rs) : wpAnyT P md ops Q S e (fuel + 1) listed a w := ⟨fun h0 => absurd (hr ▸ h0) hne, by rw [hr]; exact h⟩

theorem doneT {listed : Array Bool} {a : Act} {w : World} (hr : Region.ready md ops listed = []) (h : Q .normal a w) : ∀ fuel, wpAnyT P md ops Q S e fuel listed a w
  | 0 => ⟨hr, h⟩
  | _ + 1 => ⟨fun _ => h, by rw [hr]; simp⟩

theorem wp_region_till (S : World → Prop) (e : Nat) {id : Nat} {a : Act} {w : World} (hm : P.follows .mixedOrders = true)
    (h : Closed .any ops (Array.replicate ops.size false) → wpAnyT P .any ops Q S e ops.size (Array.replicate ops.size false) a w.drew) : (Code.region id ops true).wp P Q a w :=
  wp_region_any hm (wpAny_of_till _ _ _ _ (h (closed_start _)))

end

end Go.Proofs.Ytjfgccjdkflfoaa

/-
  Small laws: 'int(uint(a) % uint(n))' is a place below n; 'x & (1<<k - 1)' is a number below 1<<k.
-/
namespace Go.Proofs.Ytjfgccjdkflfoaa
open Go.RowKit
set_option linter.unusedVariables false

theorem mod_any (a : Int) (n : Nat) (h0 : 0 < n) (hn : n ≤ 1000000) : ∃ k : Nat, k < n ∧ wrap64 ((IntKind.u64.wrap a).tmod (n : Int)) = (k : Int) := by
  have h1 : IntKind.u64.wrap a = a % 18446744073709551616 := by simp [IntKind.wrap, IntKind.bits, IntKind.signed]
  rw [h1]
  generalize hz : a % 18446744073709551616 = z
  have hz0 : 0 ≤ z := by omega
  rw [Int.tmod_eq_emod_of_nonneg hz0]
  have b1 := Int.emod_nonneg z (show (n : Int) ≠ 0 by omega)
  have b2 := Int.emod_lt_of_pos z (show (0 : Int) < n by omega)
  generalize z % (n : Int) = r at *
  refine ⟨r.toNat, by omega, ?_⟩
  unfold wrap64; omega

theorem wrap_nat (n : Nat) (h : n < 9223372036854775808) : IntKind.i64.wrap (n : Int) = (n : Int) := by
  rw [IntKind.wrap_i64]; omega

theorem and_mask (x : Int) (k : Nat) (hk : k < 63) : ∃ z : Nat, z < 2 ^ k ∧ bits .and .i64 x ((2 ^ k - 1 : Nat) : Int) = (z : Int) := by
  have hp : (2 : Nat) ^ k ≤ 2 ^ 62 := Nat.pow_le_pow_right (by omega) (by omega)
  have e : (2 : Nat) ^ 62 = 4611686018427387904 := by decide
  have hpos : 0 < (2 : Nat) ^ k := Nat.two_pow_pos k
  refine ⟨((BitVec.ofInt 64 x).toNat) % 2 ^ k, Nat.mod_lt _ hpos, ?_⟩
  show IntKind.i64.wrap ((BitVec.ofInt 64 x &&& BitVec.ofInt 64 ((2 ^ k - 1 : Nat) : Int)).toNat : Int) = _
  rw [BitVec.toNat_and, ofInt_u64 (2 ^ k - 1) (by omega), Nat.and_two_pow_sub_one_eq_mod]
  have hlt : (BitVec.ofInt 64 x).toNat % 2 ^ k < 2 ^ k := Nat.mod_lt _ hpos
  exact wrap_nat _ (by omega)

end Go.Proofs.Ytjfgccjdkflfoaa

