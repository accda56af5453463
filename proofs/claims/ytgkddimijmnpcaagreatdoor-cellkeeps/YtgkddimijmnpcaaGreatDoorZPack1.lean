/-
  Small laws that every layer uses: one call behind another, answers that are equal; a struct of two numbers, read; what cells hold behind a call that only makes memory.
-/
import Derived.Test.YtgkddimijmnpcaaGreatDoorChecked
import Derived.WalkKit
import Derived.Below
import Derived.ProofKit
import Derived.ChangeSame
import Derived.WideShapes
import Derived.Deep.Slices
import Derived.SizedLaws
import Derived.Laws.OwnMore
import Derived.WalkSpells
import Derived.WalkLawsBesides
import Derived.Deep.AppendLies
import Derived.Deep.QuietTactic
import Derived.BigQuiet
import Derived.Deep.LoopGhost
import Derived.OwnWalk
import Derived.Shelf.LaysM
import Derived.Shelf.Strconv.Clone
import Derived.Deep.MidRow
import Derived.BigFrame
import Derived.Shelf.Abstract
import Derived.Deep.RegionHeld3
import Derived.Shelf.SlSortCmp.NoneTotal
import Derived.Shelf.SortM.Plain
import Derived.Shelf.SortM.SortNone
import Derived.Shelf.SlicesG.CompactS
import Derived.Laws.IdiomCopy
import Derived.Deep.RegionLaw
import Derived.Lib.Overlaps
import Derived.Lib.AppendZerosOnto
import Derived.Lib.SliceRun
import Derived.Deep.Cut
import Derived.Deep.CutRange
namespace Go.Proofs.YtgkddimijmnpcaaGreatDoor
open Go.ChangeShapes Go.WideShapes Go.ChangeAt Go.RowKit
set_option linter.unusedVariables false

/-- One call behind another: nothing old has turned. -/
theorem thenB {w w1 w2 : World} (h : Below w.heap.size w w1) (h2 : Below w1.heap.size w1 w2) : Below w.heap.size w w2 := h.trans (h2.mono h.size)

theorem ret_bool {a b : Bool} (h : a = b) : Ending.returned (.bool a) = .returned (.bool b) := by rw [h]

/-- All old cells, all old marks read as before. -/
theorem bcell {W w1 : World} (hb : Below W.heap.size W w1) : (∀ b o, b < W.heap.size → w1.cell? ⟨b, o, none⟩ = W.cell? ⟨b, o, none⟩) ∧ (∀ b o, b < W.heap.size → w1.frozen? ⟨b, o, none⟩ = W.frozen? ⟨b, o, none⟩) :=
  ⟨fun b o h => hb.cell (p := ⟨b, o, none⟩) h, fun b o h => hb.frozen (p := ⟨b, o, none⟩) h⟩

/-- A struct of two numbers that comes as an argument. -/
theorem open_two {H : Type} {enc : TypeId × Value → H} {P : Program} {w : World} {b0 base : Nat} {spare : Nat → Bool} {held : Bool} {t : TypeId} {f0 f1 : Field} {v : Value} {d : DataW H} {ps : List MemPlace}
    (ht : P.underlying t = some (.struct #[f0, f1])) (ct : P.cellsOf t = 2) (o0 : f0.offset = 0) (o1 : f1.offset = 1) (c0 : P.cellsOf f0.type = 1) (c1 : P.cellsOf f1.type = 1)
    (u0 : P.underlying f0.type = some (.int .i64)) (u1 : P.underlying f1.type = some (.int .i64))
    (hval : Value.okWide P w .any b0 t v) (hd : DataW.Trod enc P w base spare held t v d ps) :
    ∃ x y : Int, v = .agg #[.int .i64 x, .int .i64 y] ∧ (Lit.int .i64 x).wf = true ∧ (Lit.int .i64 y).wf = true := by
  obtain ⟨cs, rfl, hcs⟩ := okWide_struct ht hval
  obtain ⟨fuel, hf⟩ := hd
  obtain ⟨y0, y1, m, _, _, g0, g1⟩ := trod_struct2 ht hf
  rw [ct] at hcs
  obtain ⟨l⟩ := cs
  match l, hcs with
  | [a, b], _ =>
    simp [Value.cells, o0, o1, c0, c1] at g0 g1
    obtain ⟨x, hx, _, wx⟩ := DataW.trod_int u0 g0
    obtain ⟨y, hy, _, wy⟩ := DataW.trod_int u1 g1
    simp only [List.cons.injEq, and_true] at hx hy
    subst hx hy
    exact ⟨x, y, rfl, wx, wy⟩

end Go.Proofs.YtgkddimijmnpcaaGreatDoor

/-
  Rows of structs of whatever width, by their cells: where they lie, how they stay, those that a call itself made; a row copied behind nothing. A block that is known whole.
-/
namespace Go.Proofs.YtgkddimijmnpcaaGreatDoor
open Go.ChangeShapes Go.WideShapes Go.ChangeAt Go.RowKit
set_option linter.unusedVariables false
set_option linter.unusedSimpArgs false

/-- The cells xs lie where ao points to. -/
def FRow (w : World) (ao : Option Addr) (xs : List Value) : Prop :=
  0 < xs.length → ∃ b off, ao = some ⟨b, off, none⟩ ∧ b < w.heap.size ∧ ∀ i u, xs[i]? = some u → w.cell? ⟨b, off + i, none⟩ = some u

/-- They lie in memory that was made since B, and may be written. -/
def FOwn (B : Nat) (w : World) (ao : Option Addr) (xs : List Value) : Prop :=
  0 < xs.length → ∃ b, ao = some ⟨b, 0, none⟩ ∧ B ≤ b ∧ b < w.heap.size ∧ ∀ i u, xs[i]? = some u → w.cell? ⟨b, i, none⟩ = some u ∧ w.frozen? ⟨b, i, none⟩ = false

theorem FRow.nil (w : World) (ao : Option Addr) : FRow w ao [] := fun h => by simp at h

theorem FOwn.nil (B : Nat) (w : World) (ao : Option Addr) : FOwn B w ao [] := fun h => by simp at h

theorem FOwn.row {B : Nat} {w : World} {ao : Option Addr} {xs : List Value} (h : FOwn B w ao xs) : FRow w ao xs := fun h0 => by
  obtain ⟨b, h1, _, h2, h3⟩ := h h0
  exact ⟨b, 0, h1, h2, fun i u hu => by rw [Nat.zero_add]; exact (h3 i u hu).1⟩

theorem FRow.later {w w' : World} {ao : Option Addr} {xs : List Value} (h : FRow w ao xs) (hb : Below w.heap.size w w') : FRow w' ao xs := fun h0 => by
  obtain ⟨b, off, h1, h2, h3⟩ := h h0
  exact ⟨b, off, h1, Nat.lt_of_lt_of_le h2 hb.size, fun i u hu => (hb.cell (by exact h2)).trans (h3 i u hu)⟩

theorem FOwn.later {B : Nat} {w w' : World} {ao : Option Addr} {xs : List Value} (h : FOwn B w ao xs) (hb : Below w.heap.size w w') : FOwn B w' ao xs := fun h0 => by
  obtain ⟨b, h1, h4, h2, h3⟩ := h h0
  exact ⟨b, h1, h4, Nat.lt_of_lt_of_le h2 hb.size, fun i u hu => ⟨(hb.cell (by exact h2)).trans (h3 i u hu).1, (hb.frozen (by exact h2)).trans (h3 i u hu).2⟩⟩

theorem FOwn.mono {B C : Nat} {w : World} {ao : Option Addr} {xs : List Value} (h : FOwn B w ao xs) (hC : C ≤ B) : FOwn C w ao xs := fun h0 => by
  obtain ⟨b, h1, h4, h2, h3⟩ := h h0
  exact ⟨b, h1, by omega, h2, h3⟩

/-- A row that lies below B stays while only what lies from B on turns. -/
theorem FOwn.kept {A B : Nat} {w v w' : World} {ao : Option Addr} {xs : List Value} (h : FOwn A w ao xs) (hB : w.heap.size ≤ B) (h1 : Below w.heap.size w v) (hb : Below B v w') : FOwn A w' ao xs := fun h0 => by
  obtain ⟨b, e, h4, h2, h3⟩ := h h0
  have hs := h1.size
  exact ⟨b, e, h4, by have := hb.size; omega, fun i u hu => ⟨((hb.cell (p := ⟨b, i, none⟩) (by exact Nat.lt_of_lt_of_le h2 hB)).trans (h1.cell (by exact h2))).trans (h3 i u hu).1, ((hb.frozen (p := ⟨b, i, none⟩) (by exact Nat.lt_of_lt_of_le h2 hB)).trans (h1.frozen (by exact h2))).trans (h3 i u hu).2⟩⟩

/-- The same put where it lies already. -/
theorem FOwn.same {B : Nat} {w : World} {g j : Nat} {xs : List Value} {u : Value} (h : FOwn B w (some ⟨g, 0, none⟩) xs) (hu : xs[j]? = some u) : FOwn B (w.setCell ⟨g, j, none⟩ u) (some ⟨g, 0, none⟩) xs := fun h0 => by
  obtain ⟨b, h1, h4, h2, h3⟩ := h h0
  simp only [Option.some.injEq, Addr.mk.injEq, and_true] at h1
  subst h1
  refine ⟨g, rfl, h4, by simpa using h2, fun i v hv => ⟨?_, by rw [World.frozen?_setCell]; exact (h3 i v hv).2⟩⟩
  by_cases e : j = i
  · subst e
    rw [hu] at hv
    simp only [Option.some.injEq] at hv
    subst hv
    exact World.cell?_setCell_same _ _ _ (h3 j u hu).1
  · rw [World.cell?_setCell_other _ _ _ _ (by simp [Ne.symm e, e])]
    exact (h3 i v hv).1

theorem flat_len {α : Type} (f : α → List Value) (s : Nat) (hf : ∀ a, (f a).length = s) (l : List α) : (l.flatMap f).length = l.length * s := by
  induction l with
  | nil => simp
  | cons a l ih => simp only [List.flatMap_cons, List.length_append, List.length_cons, hf, ih, Nat.add_mul]; omega

theorem flat_get {α : Type} (f : α → List Value) (s : Nat) (hf : ∀ a, (f a).length = s) (l : List α) (i k : Nat) (hk : k < s) {a : α} (ha : l[i]? = some a) : (l.flatMap f)[i * s + k]? = (f a)[k]? := by
  induction l generalizing i with
  | nil => simp at ha
  | cons b l ih =>
    cases i with
    | zero =>
      simp only [List.getElem?_cons_zero, Option.some.injEq] at ha
      subst ha
      rw [List.flatMap_cons, Nat.zero_mul, Nat.zero_add, List.getElem?_append_left (by rw [hf]; exact hk)]
    | succ i =>
      simp only [List.getElem?_cons_succ] at ha
      have e : (i + 1) * s + k = s + (i * s + k) := by rw [Nat.add_mul]; omega
      rw [List.flatMap_cons, e, List.getElem?_append_right (by rw [hf]; omega), hf, Nat.add_sub_cancel_left]
      exact ih i ha

theorem below_grownS {B : Nat} {w w' : World} {v : Value} {e : TypeId} {s n : Nat} {xs : List Value} (hown : w.ownsRow B e s v n xs) (hB : B ≤ w.heap.size) (hgrow : w.grownBy w' v.ownBlock) : Below B w w' := by
  refine (Below.refl _ _).grown hgrow hB ?_
  intro g hg
  rcases hown.2 with ⟨rfl, _⟩ | ⟨g', cap, cur, rfl, hb, _⟩
  · simp [Value.ownBlock] at hg
  · simp [Value.ownBlock] at hg; omega

theorem fown_at {B g cap n s : Nat} {w : World} {e : TypeId} {xs : List Value} (h : w.ownsRow B e s (.slice (some ⟨g, 0, none⟩) n cap) n xs) : FOwn B w (some ⟨g, 0, none⟩) xs := fun h0 => by
  refine ⟨g, rfl, (h.lt g rfl).1, (h.lt g rfl).2, fun i u hu => ?_⟩
  have hi := (List.getElem?_eq_some_iff.1 hu).1
  rw [h.1] at hi
  exact ⟨(h.cellAt i hi).trans hu, h.frozenAt i⟩

theorem add_off (b off j : Nat) : (⟨b, off, none⟩ : Addr).add j = ⟨b, off + j, none⟩ := by
  rcases j with _ | j
  · simp [Addr.add]
  · simp [Addr.add]

theorem run_append_empty {P : Program} (w : World) (t ty e : TypeId) (i : TypeInfo) (ht : P.underlying t = some (.slice e)) (hi : P.info? e = some i) (g : Option Nat) (cap : Nat) :
    (Builtin.append_ #[t, t] ty #[.slice (g.map fun g => ⟨g, 0, none⟩) 0 0, .slice none 0 cap]).run P w = .ok (.slice (g.map fun g => ⟨g, 0, none⟩) 0 0) w := by
  cases g <;> simp [Builtin.append_, run_underlying ht, sizeOf, typeInfo, hi, Builtin.lenOf, Builtin.firstCells, loadCells, storeCells]

/-- 'append(nothing, m...)': nothing is nil or an empty row of the call's own. -/
theorem wpList_copy {P : Program} {ops : Array Oper} {rest : List Oper} {o : Oper} {a : Act} {Q : Exit → Act → World → Prop} (hgd : o.guard = none) (s x : Operand) (t : TypeId)
    (ho : o.op = .call { callee := .builtin .append, args := #[s, x], argTypes := #[t, t] })
    {e : TypeId} {size bytes : Nat} {z : Value} (ht : P.underlying t = some (.slice e)) (hinfo : (P.info? e).map (fun i => (i.zero, i.size, i.bytes)) = some (some z, size, bytes)) (hzs : z.cells.size = size) (hsz : 0 < size) (hby : 0 < bytes)
    {B n : Nat} {g : Option Nat} {ao : Option Addr} {cap : Nat} {news : List Value} {wr : World}
    (hs : a.eval s = .slice (g.map fun g => ⟨g, 0, none⟩) 0 0) (hx : a.eval x = .slice ao n cap)
    (hown : wr.ownsRow B e size (.slice (g.map fun g => ⟨g, 0, none⟩) 0 0) 0 []) (hrow : FRow wr ao news) (hl : news.length = n * size) (hone : ∀ u ∈ news, u.oneCell' = true) (hlen : n * bytes ≤ 140737488355328) (hB : B ≤ wr.heap.size)
    (h : ∀ ao' cap' w', FOwn B w' ao' news → (g = none → n = 0 → ao' = none ∧ cap' = 0) → Below B wr w' → wpList P ops Q rest (a.put o.dst (.slice ao' n cap')) w') :
    wpList P ops Q (o :: rest) a wr := by
  obtain ⟨i0, hi, hz0, hz1, hz2⟩ := info_parts hinfo
  have hnn : n ≤ n * bytes := Nat.le_mul_of_pos_right n hby
  by_cases h0 : 0 < n
  · have hn0 : 0 < news.length := by rw [hl]; exact Nat.mul_pos h0 hsz
    obtain ⟨b, off, rfl, _, hc⟩ := hrow hn0
    refine wpList_append_lies _ hgd s x t ho B e i0 z size bytes ht hi hz0 hz1 hz2 hzs hsz _ 0 [] hs hown ⟨b, off, none⟩ n cap news hx hl (fun j u hj => by rw [add_off]; exact hc j u hj) hone h0 ?_ ?_ hB _ rfl ?_
    · unfold maxLen; omega
    · rw [Nat.zero_add]; exact hlen
    · intro g' c' w' hown' hgrow _ _
      rw [Nat.zero_add] at hown' ⊢
      rw [List.nil_append] at hown'
      exact h _ _ w' (fown_at hown') (fun _ h1 => by omega) (below_grownS hown hB hgrow)
  · have hn : n = 0 := by omega
    subst hn
    have hm : news = [] := List.eq_nil_of_length_eq_zero (by omega)
    subst hm
    have h' := h (g.map fun g => ⟨g, 0, none⟩) 0 wr (FOwn.nil _ _ _) (fun hg _ => by subst hg; exact ⟨rfl, rfl⟩) (Below.refl _ _)
    cases ao with
    | none =>
      refine wpList_plain hgd fun K hK => ?_
      unfold Oper.wp execOp
      have hr := run_append_empty wr t o.type e i0 ht hi g cap
      simp only [ho, resolve, invoke, builtin, Sem.run_bind, Sem.run_pure, Result.andThen_ok, List.map_toArray, List.map_cons, List.map_nil, hs, hx, hr]
      exact hK _ _ h'
    | some ad =>
      refine wpList_append_own _ hgd s x t ho B e i0 z size bytes ht hi hz0 hz1 hz2 hzs hsz _ 0 [] hs hown ad 0 cap [] hx (by simp) ?_ ?_ ?_ ?_ hB ?_
      · intro j u hj; simp at hj
      · intro u hu; simp at hu
      · unfold maxLen; omega
      · simp
      · intro v' w' hown' hgrow hni
        have hb := below_grownS hown hB hgrow
        rcases hown'.2 with ⟨rfl, h1⟩ | ⟨g', cap', cur, rfl, _⟩
        · exact h _ _ w' (FOwn.nil _ _ _) (fun _ _ => ⟨rfl, rfl⟩) hb
        · refine h _ _ w' (FOwn.nil _ _ _) (fun hg _ => ?_) hb
          subst hg
          exact absurd (hni.2 ⟨rfl, rfl⟩) (by simp)

theorem own_none (w : World) (B : Nat) (e : TypeId) (s : Nat) : w.ownsRow B e s (.slice ((none : Option Nat).map fun g => ⟨g, 0, none⟩) 0 0) 0 [] := ⟨by simp, Or.inl ⟨rfl, rfl⟩⟩

theorem own_empty {w : World} {k : Nat} (hk : w.heap.size = k) {e : TypeId} {s : Nat} : (w.alloc (.cells #[] e)).ownsRow k e s (.slice ((some k).map fun g => ⟨g, 0, none⟩) 0 0) 0 [] := by
  subst hk
  simpa using World.ownsRow_lit w #[] 0 (base := w.heap.size) (e := e) (size := s) (Nat.le_refl _) (by simp) (by simp)

/-- Block g holds the cells xs, and they may be written. -/
def Has (w : World) (g : Nat) (xs : List Value) : Prop :=
  g < w.heap.size ∧ ∀ i u, xs[i]? = some u → w.cell? ⟨g, i, none⟩ = some u ∧ w.frozen? ⟨g, i, none⟩ = false

theorem Has.later {w w' : World} {g : Nat} {xs : List Value} (h : Has w g xs) (hb : Below w.heap.size w w') : Has w' g xs :=
  ⟨Nat.lt_of_lt_of_le h.1 hb.size, fun i u hu => ⟨(hb.cell (by exact h.1)).trans (h.2 i u hu).1, (hb.frozen (by exact h.1)).trans (h.2 i u hu).2⟩⟩

theorem has_new (w : World) (xs : List Value) (t : TypeId) : Has (w.alloc (.cells xs.toArray t)) w.heap.size xs := by
  refine ⟨by simp, fun i u hu => ⟨?_, World.frozen?_alloc_at _ _ _ _ rfl⟩⟩
  rw [World.cell?_alloc_at _ _ _ _ rfl]
  simpa using hu

theorem Has.at {w : World} {g : Nat} {xs : List Value} (h : Has w g xs) (i : Nat) {u : Value} (hu : xs[i]? = some u) : w.cell? ⟨g, i, none⟩ = some u := (h.2 i u hu).1

theorem Has.free {w : World} {g : Nat} {xs : List Value} (h : Has w g xs) (i : Nat) {u : Value} (hu : xs[i]? = some u) : w.frozen? ⟨g, i, none⟩ = false := (h.2 i u hu).2

theorem Has.put {w : World} {g : Nat} {xs : List Value} (h : Has w g xs) (j : Nat) (v : Value) : Has (w.setCell ⟨g, j, none⟩ v) g (xs.set j v) := by
  refine ⟨by simpa using h.1, fun i u hu => ?_⟩
  by_cases e : j = i
  · subst e
    have hj : j < xs.length := by
      have := (List.getElem?_eq_some_iff.1 hu).1
      simpa using this
    rw [List.getElem?_set_self hj] at hu
    simp only [Option.some.injEq] at hu
    subst hu
    have h1 := h.2 j xs[j] (List.getElem?_eq_getElem hj)
    exact ⟨World.cell?_setCell_same _ _ _ h1.1, by rw [World.frozen?_setCell]; exact h1.2⟩
  · rw [List.getElem?_set_ne e] at hu
    have h1 := h.2 i u hu
    refine ⟨?_, by rw [World.frozen?_setCell]; exact h1.2⟩
    rw [World.cell?_setCell_other _ _ _ _ (by simp [Ne.symm e, e])]
    exact h1.1

theorem Has.other {w : World} {g k : Nat} {xs : List Value} (h : Has w g xs) (hk : k ≠ g) (o : Nat) (v : Value) : Has (w.setCell ⟨k, o, none⟩ v) g xs := by
  refine ⟨by simpa using h.1, fun i u hu => ⟨?_, by rw [World.frozen?_setCell]; exact (h.2 i u hu).2⟩⟩
  rw [World.cell?_setCell_other _ _ _ _ (fun e => by injection e with e _ _; first | exact hk e | exact hk e.symm)]
  exact (h.2 i u hu).1

end Go.Proofs.YtgkddimijmnpcaaGreatDoor

/-
  A field's state (api.Cell) as plain data; its ten cells; where its lists lie.
-/
namespace Go.Proofs.YtgkddimijmnpcaaGreatDoor
open Go.RowKit
set_option linter.unusedVariables false
set_option linter.unusedSimpArgs false

/-- A set's entry. -/
structure E3 where
  node : Int
  seq : Int
  val : ByteArray

/-- A list's element. -/
structure L5 where
  node : Int
  seq : Int
  time : Int
  val : ByteArray
  gone : Bool

/-- A field's state. -/
structure Ce where
  kind : Int
  set : Bool
  time : Int
  node : Int
  val : ByteArray
  re : Int
  im : Int
  ents : List E3
  elems : List L5
  seen : List Int

/-- Where its three lists lie. -/
structure Pl where
  eo : Option Addr
  ec : Nat
  lo : Option Addr
  lc : Nat
  so : Option Addr
  sc : Nat

abbrev e3 (p : E3) : List Value := [.int .i64 p.node, .int .i64 p.seq, .string p.val]
abbrev l5 (p : L5) : List Value := [.int .i64 p.node, .int .i64 p.seq, .int .i64 p.time, .string p.val, .bool p.gone]
def flatE (l : List E3) : List Value := l.flatMap e3
def flatL (l : List L5) : List Value := l.flatMap l5
def flatI (l : List Int) : List Value := l.map (.int .i64)

theorem flatE_len (l : List E3) : (flatE l).length = l.length * 3 := flat_len e3 3 (fun _ => rfl) l
theorem flatL_len (l : List L5) : (flatL l).length = l.length * 5 := flat_len l5 5 (fun _ => rfl) l
theorem flatI_len (l : List Int) : (flatI l).length = l.length * 1 := by simp [flatI]

theorem flatE_at (l : List E3) (i : Nat) {p : E3} (h : l[i]? = some p) : (flatE l)[i * 3]? = some (.int .i64 p.node) ∧ (flatE l)[i * 3 + 1]? = some (.int .i64 p.seq) ∧ (flatE l)[i * 3 + 2]? = some (.string p.val) :=
  ⟨flat_get e3 3 (fun _ => rfl) l i 0 (by omega) h, flat_get e3 3 (fun _ => rfl) l i 1 (by omega) h, flat_get e3 3 (fun _ => rfl) l i 2 (by omega) h⟩

theorem flatL_at (l : List L5) (i : Nat) {p : L5} (h : l[i]? = some p) : (flatL l)[i * 5]? = some (.int .i64 p.node) ∧ (flatL l)[i * 5 + 1]? = some (.int .i64 p.seq) ∧ (flatL l)[i * 5 + 2]? = some (.int .i64 p.time) ∧ (flatL l)[i * 5 + 3]? = some (.string p.val) ∧ (flatL l)[i * 5 + 4]? = some (.bool p.gone) :=
  ⟨flat_get l5 5 (fun _ => rfl) l i 0 (by omega) h, flat_get l5 5 (fun _ => rfl) l i 1 (by omega) h, flat_get l5 5 (fun _ => rfl) l i 2 (by omega) h, flat_get l5 5 (fun _ => rfl) l i 3 (by omega) h, flat_get l5 5 (fun _ => rfl) l i 4 (by omega) h⟩

theorem flatI_at (l : List Int) (i : Nat) {x : Int} (h : l[i]? = some x) : (flatI l)[i]? = some (.int .i64 x) := by simp [flatI, h]

theorem oneE {l : List E3} {u : Value} (h : u ∈ flatE l) : u.oneCell' = true := by
  simp only [flatE, e3, List.mem_flatMap, List.mem_cons, List.not_mem_nil, or_false] at h
  obtain ⟨p, _, rfl | rfl | rfl⟩ := h <;> rfl

theorem oneL {l : List L5} {u : Value} (h : u ∈ flatL l) : u.oneCell' = true := by
  simp only [flatL, l5, List.mem_flatMap, List.mem_cons, List.not_mem_nil, or_false] at h
  obtain ⟨p, _, rfl | rfl | rfl | rfl | rfl⟩ := h <;> rfl

theorem oneI {l : List Int} {u : Value} (h : u ∈ flatI l) : u.oneCell' = true := by
  simp only [flatI, List.mem_map] at h
  obtain ⟨p, _, rfl⟩ := h; rfl

theorem Tryz.infoEntry : (Tryz.prog.info? 62).map (fun i => (i.zero, i.size, i.bytes)) = some (some (.agg #[.int .i64 0, .int .i64 0, .string ByteArray.empty]), 3, 32) := by kernel_rfl
theorem Tryz.infoElem : (Tryz.prog.info? 59).map (fun i => (i.zero, i.size, i.bytes)) = some (some (.agg #[.int .i64 0, .int .i64 0, .int .i64 0, .string ByteArray.empty, .bool false]), 5, 48) := by kernel_rfl
theorem Tryz.infoSeen : (Tryz.prog.info? 3).map (fun i => (i.zero, i.size, i.bytes)) = some (some (.int .i64 0), 1, 8) := by kernel_rfl

/-- The cell's ten cells. -/
abbrev ceL (c : Ce) (p : Pl) : List Value := [.int .i64 c.kind, .bool c.set, .int .i64 c.time, .int .i64 c.node, .string c.val, .int .i64 c.re, .int .i64 c.im, .slice p.eo c.ents.length p.ec, .slice p.lo c.elems.length p.lc, .slice p.so c.seen.length p.sc]
abbrev ceV (c : Ce) (p : Pl) : Value := .agg #[.int .i64 c.kind, .bool c.set, .int .i64 c.time, .int .i64 c.node, .string c.val, .int .i64 c.re, .int .i64 c.im, .slice p.eo c.ents.length p.ec, .slice p.lo c.elems.length p.lc, .slice p.so c.seen.length p.sc]

/-- The cell of nothing. -/
def ce0 : Ce := ⟨0, false, 0, 0, ByteArray.empty, 0, 0, [], [], []⟩
def pl0 : Pl := ⟨none, 0, none, 0, none, 0⟩

/-- Its lists lie there. -/
def CRow (w : World) (c : Ce) (p : Pl) : Prop := FRow w p.eo (flatE c.ents) ∧ FRow w p.lo (flatL c.elems) ∧ FRow w p.so (flatI c.seen)
def COwn (B : Nat) (w : World) (c : Ce) (p : Pl) : Prop := FOwn B w p.eo (flatE c.ents) ∧ FOwn B w p.lo (flatL c.elems) ∧ FOwn B w p.so (flatI c.seen)

theorem COwn.row {B : Nat} {w : World} {c : Ce} {p : Pl} (h : COwn B w c p) : CRow w c p := ⟨h.1.row, h.2.1.row, h.2.2.row⟩
theorem CRow.later {w w' : World} {c : Ce} {p : Pl} (h : CRow w c p) (hb : Below w.heap.size w w') : CRow w' c p := ⟨h.1.later hb, h.2.1.later hb, h.2.2.later hb⟩
theorem COwn.later {B : Nat} {w w' : World} {c : Ce} {p : Pl} (h : COwn B w c p) (hb : Below w.heap.size w w') : COwn B w' c p := ⟨h.1.later hb, h.2.1.later hb, h.2.2.later hb⟩
theorem COwn.mono {B C : Nat} {w : World} {c : Ce} {p : Pl} (h : COwn B w c p) (hC : C ≤ B) : COwn C w c p := ⟨h.1.mono hC, h.2.1.mono hC, h.2.2.mono hC⟩
theorem COwn.kept {A B : Nat} {w v w' : World} {c : Ce} {p : Pl} (h : COwn A w c p) (hB : w.heap.size ≤ B) (h1 : Below w.heap.size w v) (hb : Below B v w') : COwn A w' c p := ⟨h.1.kept hB h1 hb, h.2.1.kept hB h1 hb, h.2.2.kept hB h1 hb⟩
theorem CRow.alloc {w : World} {c : Ce} {p : Pl} (h : CRow w c p) (o : Obj) : CRow (w.alloc o) c p := h.later ((Below.refl _ _).alloc (Nat.le_refl _) _)

/-- What memory bears. -/
def Fit (c : Ce) : Prop := c.ents.length * 32 ≤ 140737488351232 ∧ c.elems.length * 48 ≤ 140737488351232 ∧ c.seen.length * 8 ≤ 140737488351232 ∧ c.val.size ≤ 140737488351232 ∧ (∀ (i : Nat) x, c.ents[i]? = some x → x.val.size ≤ 140737488351232) ∧ (∀ (i : Nat) x, c.elems[i]? = some x → x.val.size ≤ 140737488351232)

/-- A list of nothing is nil. -/
def Nils (c : Ce) (p : Pl) : Prop := (c.ents.length = 0 → p.eo = none ∧ p.ec = 0) ∧ (c.elems.length = 0 → p.lo = none ∧ p.lc = 0) ∧ (c.seen.length = 0 → p.so = none ∧ p.sc = 0)

theorem Has.under {w w' : World} {g B : Nat} {xs : List Value} (h : Has w g xs) (hg : g < B) (hb : Below B w w') : Has w' g xs :=
  ⟨Nat.lt_of_lt_of_le h.1 hb.size, fun i u hu => ⟨(hb.cell (by exact hg)).trans (h.2 i u hu).1, (hb.frozen (by exact hg)).trans (h.2 i u hu).2⟩⟩

theorem Has.alloc {w : World} {g : Nat} {xs : List Value} (h : Has w g xs) (o : Obj) : Has (w.alloc o) g xs := h.later ((Below.refl _ _).alloc (Nat.le_refl _) _)

/-- The ten cells, one by one. -/
theorem Has.ten {w : World} {g : Nat} {u0 u1 u2 u3 u4 u5 u6 u7 u8 u9 : Value} (h : Has w g [u0, u1, u2, u3, u4, u5, u6, u7, u8, u9]) :
    w.cell? ⟨g, 0, none⟩ = some u0 ∧ w.cell? ⟨g, 1, none⟩ = some u1 ∧ w.cell? ⟨g, 2, none⟩ = some u2 ∧ w.cell? ⟨g, 3, none⟩ = some u3 ∧ w.cell? ⟨g, 4, none⟩ = some u4 ∧ w.cell? ⟨g, 5, none⟩ = some u5 ∧ w.cell? ⟨g, 6, none⟩ = some u6 ∧ w.cell? ⟨g, 7, none⟩ = some u7 ∧ w.cell? ⟨g, 8, none⟩ = some u8 ∧ w.cell? ⟨g, 9, none⟩ = some u9 :=
  ⟨h.at 0 rfl, h.at 1 rfl, h.at 2 rfl, h.at 3 rfl, h.at 4 rfl, h.at 5 rfl, h.at 6 rfl, h.at 7 rfl, h.at 8 rfl, h.at 9 rfl⟩

theorem Has.tenf {w : World} {g : Nat} {u0 u1 u2 u3 u4 u5 u6 u7 u8 u9 : Value} (h : Has w g [u0, u1, u2, u3, u4, u5, u6, u7, u8, u9]) :
    w.frozen? ⟨g, 0, none⟩ = false ∧ w.frozen? ⟨g, 1, none⟩ = false ∧ w.frozen? ⟨g, 2, none⟩ = false ∧ w.frozen? ⟨g, 3, none⟩ = false ∧ w.frozen? ⟨g, 4, none⟩ = false ∧ w.frozen? ⟨g, 5, none⟩ = false ∧ w.frozen? ⟨g, 6, none⟩ = false ∧ w.frozen? ⟨g, 7, none⟩ = false ∧ w.frozen? ⟨g, 8, none⟩ = false ∧ w.frozen? ⟨g, 9, none⟩ = false :=
  ⟨h.free 0 rfl, h.free 1 rfl, h.free 2 rfl, h.free 3 rfl, h.free 4 rfl, h.free 5 rfl, h.free 6 rfl, h.free 7 rfl, h.free 8 rfl, h.free 9 rfl⟩

/-- The world behind a store of ten cells. -/
abbrev put10 (w : World) (g : Nat) (u0 u1 u2 u3 u4 u5 u6 u7 u8 u9 : Value) : World := (((((((((w.setCell ⟨g, 0, none⟩ u0).setCell ⟨g, 1, none⟩ u1).setCell ⟨g, 2, none⟩ u2).setCell ⟨g, 3, none⟩ u3).setCell ⟨g, 4, none⟩ u4).setCell ⟨g, 5, none⟩ u5).setCell ⟨g, 6, none⟩ u6).setCell ⟨g, 7, none⟩ u7).setCell ⟨g, 8, none⟩ u8).setCell ⟨g, 9, none⟩ u9

theorem Has.put10 {w : World} {g : Nat} {z0 z1 z2 z3 z4 z5 z6 z7 z8 z9 : Value} (h : Has w g [z0, z1, z2, z3, z4, z5, z6, z7, z8, z9]) (u0 u1 u2 u3 u4 u5 u6 u7 u8 u9 : Value) : Has (put10 w g u0 u1 u2 u3 u4 u5 u6 u7 u8 u9) g [u0, u1, u2, u3, u4, u5, u6, u7, u8, u9] :=
  (((((((((h.put 0 u0).put 1 u1).put 2 u2).put 3 u3).put 4 u4).put 5 u5).put 6 u6).put 7 u7).put 8 u8).put 9 u9

theorem below_put10 {B : Nat} {a w : World} (h : Below B a w) {g : Nat} (hg : B ≤ g) (u0 u1 u2 u3 u4 u5 u6 u7 u8 u9 : Value) : Below B a (put10 w g u0 u1 u2 u3 u4 u5 u6 u7 u8 u9) :=
  (((((((((h.setCell (p := ⟨g, 0, none⟩) hg _).setCell (p := ⟨g, 1, none⟩) hg _).setCell (p := ⟨g, 2, none⟩) hg _).setCell (p := ⟨g, 3, none⟩) hg _).setCell (p := ⟨g, 4, none⟩) hg _).setCell (p := ⟨g, 5, none⟩) hg _).setCell (p := ⟨g, 6, none⟩) hg _).setCell (p := ⟨g, 7, none⟩) hg _).setCell (p := ⟨g, 8, none⟩) hg _).setCell (p := ⟨g, 9, none⟩) hg _

theorem FOwn.put10 {B : Nat} {w : World} {ao : Option Addr} {xs : List Value} (h : FOwn B w ao xs) {g : Nat} (hg : g < B) (u0 u1 u2 u3 u4 u5 u6 u7 u8 u9 : Value) : FOwn B (put10 w g u0 u1 u2 u3 u4 u5 u6 u7 u8 u9) ao xs := fun h0 => by
  obtain ⟨b, h1, h4, h2, h3⟩ := h h0
  have hne : ∀ o i, (⟨b, i, none⟩ : Addr) ≠ ⟨g, o, none⟩ := fun o i e => by injection e; omega
  refine ⟨b, h1, h4, by simpa using h2, fun i u hu => ?_⟩
  simp only [World.frozen?_setCell]
  refine ⟨?_, (h3 i u hu).2⟩
  repeat rw [World.cell?_setCell_other _ _ _ _ (by first | exact hne _ _ | exact (hne _ _).symm)]
  exact (h3 i u hu).1

/-- One cell of another block set. -/
theorem FOwn.off {B : Nat} {w : World} {ao : Option Addr} {xs : List Value} (h : FOwn B w ao xs) {g : Nat} (hg : g < B) (o : Nat) (v : Value) : FOwn B (w.setCell ⟨g, o, none⟩ v) ao xs := fun h0 => by
  obtain ⟨b, h1, h4, h2, h3⟩ := h h0
  have hne : ∀ o i, (⟨b, i, none⟩ : Addr) ≠ ⟨g, o, none⟩ := fun o i e => by injection e; omega
  refine ⟨b, h1, h4, by simpa using h2, fun i u hu => ?_⟩
  simp only [World.frozen?_setCell]
  refine ⟨?_, (h3 i u hu).2⟩
  rw [World.cell?_setCell_other _ _ _ _ (by first | exact hne _ _ | exact (hne _ _).symm)]
  exact (h3 i u hu).1

theorem COwn.put10 {B : Nat} {w : World} {c : Ce} {p : Pl} (h : COwn B w c p) {g : Nat} (hg : g < B) (u0 u1 u2 u3 u4 u5 u6 u7 u8 u9 : Value) : COwn B (put10 w g u0 u1 u2 u3 u4 u5 u6 u7 u8 u9) c p :=
  ⟨h.1.put10 hg _ _ _ _ _ _ _ _ _ _, h.2.1.put10 hg _ _ _ _ _ _ _ _ _ _, h.2.2.put10 hg _ _ _ _ _ _ _ _ _ _⟩

theorem COwn.off {B : Nat} {w : World} {c : Ce} {p : Pl} (h : COwn B w c p) {g : Nat} (hg : g < B) (o : Nat) (v : Value) : COwn B (w.setCell ⟨g, o, none⟩ v) c p := ⟨h.1.off hg o v, h.2.1.off hg o v, h.2.2.off hg o v⟩

/-- What a function answers whose answer is a cell. -/
theorem ret_cell {fn : Func} {tmps : Array Value} {t : Tmp} {w : World} {g : Nat} {u0 u1 u2 u3 u4 u5 u6 u7 u8 u9 : Value} (h : fn.results = #[.cell t 30]) (ht : tmps[t]? = some (.pointer (some ⟨g, 0, none⟩))) (hg : Has w g [u0, u1, u2, u3, u4, u5, u6, u7, u8, u9]) :
    (results fn tmps).run Tryz.prog w = .ok (.agg #[u0, u1, u2, u3, u4, u5, u6, u7, u8, u9]) w := by
  obtain ⟨h0, h1, h2, h3, h4, h5, h6, h7, h8, h9⟩ := hg.ten
  clear hg
  simp [results, h, ht, h0, h1, h2, h3, h4, h5, h6, h7, h8, h9, go_sem]

/-- What a function answers whose answers are a cell and a number. -/
theorem ret_cell2 {fn : Func} {tmps : Array Value} {t u : Tmp} {w : World} {g : Nat} {v u0 u1 u2 u3 u4 u5 u6 u7 u8 u9 : Value} (h : fn.results = #[.cell t 30, .tmp u]) (ht : tmps[t]? = some (.pointer (some ⟨g, 0, none⟩))) (hu : tmps[u]? = some v) (hg : Has w g [u0, u1, u2, u3, u4, u5, u6, u7, u8, u9]) :
    (results fn tmps).run Tryz.prog w = .ok (.tuple #[.agg #[u0, u1, u2, u3, u4, u5, u6, u7, u8, u9], v]) w := by
  obtain ⟨h0, h1, h2, h3, h4, h5, h6, h7, h8, h9⟩ := hg.ten
  clear hg
  simp [results, h, ht, hu, h0, h1, h2, h3, h4, h5, h6, h7, h8, h9, go_sem]

end Go.Proofs.YtgkddimijmnpcaaGreatDoor

/-
  A region that draws its order, whose operations only read and whose callees only make memory: one walk in the order of the text (the library's theorem on quiet regions, at the class of the worlds that stand above one).
-/
namespace Go.Proofs.YtgkddimijmnpcaaGreatDoor
open Go.RowKit
set_option linter.unusedVariables false

/-- A world that stands above w1 from B on. -/
structure MW (B : Nat) (w1 : World) where
  w : World
  h : Below B w1 w ∧ B ≤ w.heap.size

theorem MW.cell {B : Nat} {w1 : World} {b o : Nat} {v : Value} (hv : w1.cell? ⟨b, o, none⟩ = some v) (hb : b < B) (r : MW B w1) : r.w.cell? ⟨b, o, none⟩ = some v := (r.h.1.cell (p := ⟨b, o, none⟩) (by exact hb)).trans hv
theorem MW.has {B : Nat} {w1 : World} {b i : Nat} {xs : List Value} {v : Value} (hv : Has w1 b xs) (hb : b < B) (hi : xs[i]? = some v) (r : MW B w1) : r.w.cell? ⟨b, i, none⟩ = some v := MW.cell (hv.at i hi) hb r
theorem MW.later {B : Nat} {w1 w2 : World} (r : MW B w1) (h : Below r.w.heap.size r.w w2) : ∃ r2 : MW B w1, w2 = r2.w := ⟨⟨w2, r.h.1.trans (h.mono r.h.2), Nat.le_trans r.h.2 h.size⟩, rfl⟩
theorem MW.same {B : Nat} {w1 w2 : World} (r : MW B w1) (h : w2 = r.w) : ∃ r2 : MW B w1, w2 = r2.w := ⟨r, h⟩

theorem MW.some {B : Nat} {w1 : World} (h : w1.heap.size = B) : Nonempty (MW B w1) := ⟨⟨w1, Below.refl _ _, Nat.le_of_eq h.symm⟩⟩

theorem wp_region_mild {P : Program} {id : Nat} {Q : Exit → Act → World → Prop} {a : Act} {w : World} {l : List Oper} {B : Nat} (hB0 : w.heap.size = B) (hm : P.follows .mixedOrders = true) (hB : Region.lexB .any l.toArray = true)
    (h : wpQuiet P l.toArray (fun w' => ∃ r : MW B w, w' = r.w) (fun a' => ∀ w', (∃ r : MW B w, w' = r.w) → Q .normal a' w') l a) : (Code.region id l.toArray true).wp P Q a w :=
  wp_region_quiet (C := fun w' => ∃ r : MW B w, w' = r.w) hm hB ⟨⟨w.drew, (Below.refl _ _).drew, Nat.le_of_eq hB0.symm⟩, rfl⟩ (by simpa using h)

/-- Fourteen cells, one by one. -/
theorem Has.f14 {w : World} {g : Nat} {u0 u1 u2 u3 u4 u5 u6 u7 u8 u9 u10 u11 u12 u13 : Value} (h : Has w g [u0, u1, u2, u3, u4, u5, u6, u7, u8, u9, u10, u11, u12, u13]) :
    w.cell? ⟨g, 0, none⟩ = some u0 ∧ w.cell? ⟨g, 1, none⟩ = some u1 ∧ w.cell? ⟨g, 2, none⟩ = some u2 ∧ w.cell? ⟨g, 3, none⟩ = some u3 ∧ w.cell? ⟨g, 4, none⟩ = some u4 ∧ w.cell? ⟨g, 5, none⟩ = some u5 ∧ w.cell? ⟨g, 6, none⟩ = some u6 ∧ w.cell? ⟨g, 7, none⟩ = some u7 ∧ w.cell? ⟨g, 8, none⟩ = some u8 ∧ w.cell? ⟨g, 9, none⟩ = some u9 ∧ w.cell? ⟨g, 10, none⟩ = some u10 ∧ w.cell? ⟨g, 11, none⟩ = some u11 ∧ w.cell? ⟨g, 12, none⟩ = some u12 ∧ w.cell? ⟨g, 13, none⟩ = some u13 :=
  ⟨h.at 0 rfl, h.at 1 rfl, h.at 2 rfl, h.at 3 rfl, h.at 4 rfl, h.at 5 rfl, h.at 6 rfl, h.at 7 rfl, h.at 8 rfl, h.at 9 rfl, h.at 10 rfl, h.at 11 rfl, h.at 12 rfl, h.at 13 rfl⟩
theorem Has.g14 {w : World} {g B : Nat} {u0 u1 u2 u3 u4 u5 u6 u7 u8 u9 u10 u11 u12 u13 : Value} (h : Has w g [u0, u1, u2, u3, u4, u5, u6, u7, u8, u9, u10, u11, u12, u13]) (hb : g < B) :
    (∀ r : MW B w, r.w.cell? ⟨g, 0, none⟩ = some u0) ∧ (∀ r : MW B w, r.w.cell? ⟨g, 1, none⟩ = some u1) ∧ (∀ r : MW B w, r.w.cell? ⟨g, 2, none⟩ = some u2) ∧ (∀ r : MW B w, r.w.cell? ⟨g, 3, none⟩ = some u3) ∧ (∀ r : MW B w, r.w.cell? ⟨g, 4, none⟩ = some u4) ∧ (∀ r : MW B w, r.w.cell? ⟨g, 5, none⟩ = some u5) ∧ (∀ r : MW B w, r.w.cell? ⟨g, 6, none⟩ = some u6) ∧ (∀ r : MW B w, r.w.cell? ⟨g, 7, none⟩ = some u7) ∧ (∀ r : MW B w, r.w.cell? ⟨g, 8, none⟩ = some u8) ∧ (∀ r : MW B w, r.w.cell? ⟨g, 9, none⟩ = some u9) ∧ (∀ r : MW B w, r.w.cell? ⟨g, 10, none⟩ = some u10) ∧ (∀ r : MW B w, r.w.cell? ⟨g, 11, none⟩ = some u11) ∧ (∀ r : MW B w, r.w.cell? ⟨g, 12, none⟩ = some u12) ∧ (∀ r : MW B w, r.w.cell? ⟨g, 13, none⟩ = some u13) :=
  ⟨MW.has h hb rfl, MW.has h hb rfl, MW.has h hb rfl, MW.has h hb rfl, MW.has h hb rfl, MW.has h hb rfl, MW.has h hb rfl, MW.has h hb rfl, MW.has h hb rfl, MW.has h hb rfl, MW.has h hb rfl, MW.has h hb rfl, MW.has h hb rfl, MW.has h hb rfl⟩

end Go.Proofs.YtgkddimijmnpcaaGreatDoor

/-
  Copies of a cell: the laws' own, and the document's.
-/
namespace Go.Proofs.YtgkddimijmnpcaaGreatDoor
open Go.RowKit
set_option linter.unusedVariables false
set_option linter.unusedSimpArgs false

/-- What a copy keeps: the cell itself in block h, room for the answer in block h + 1. -/
def Copy0 (w : World) (h : Nat) (c : Ce) (p : Pl) (w1 : World) : Prop := Below h w w1 ∧ Has w1 h (ceL c p) ∧ Has w1 (h + 1) (ceL ce0 pl0)
def Copy1 (w : World) (h : Nat) (c : Ce) (p : Pl) (ao : Option Addr) (w1 : World) : Prop := Below h w w1 ∧ Has w1 h (ceL c p) ∧ Has w1 (h + 1) (ceL ce0 pl0) ∧ FOwn (h + 2) w1 ao (flatE c.ents)
def Copy2 (w : World) (h : Nat) (c : Ce) (p : Pl) (ao : Option Addr) (ca : Nat) (bo : Option Addr) (w1 : World) : Prop := Below h w w1 ∧ Has w1 h (ceL c { p with eo := ao, ec := ca }) ∧ Has w1 (h + 1) (ceL ce0 pl0) ∧ FOwn (h + 2) w1 ao (flatE c.ents) ∧ FOwn (h + 2) w1 bo (flatL c.elems)
def Copy3 (w : World) (h : Nat) (c : Ce) (p : Pl) (ao : Option Addr) (ca : Nat) (bo : Option Addr) (cb : Nat) (so : Option Addr) (w1 : World) : Prop := Below h w w1 ∧ Has w1 h (ceL c { p with eo := ao, ec := ca, lo := bo, lc := cb }) ∧ Has w1 (h + 1) (ceL ce0 pl0) ∧ FOwn (h + 2) w1 ao (flatE c.ents) ∧ FOwn (h + 2) w1 bo (flatL c.elems) ∧ FOwn (h + 2) w1 so (flatI c.seen)

theorem copy0_new (w : World) (c : Ce) (p : Pl) (t : TypeId) : Copy0 w w.heap.size c p ((w.alloc (.cells (ceL c p).toArray t)).alloc (.cells (ceL ce0 pl0).toArray t)) := by
  refine ⟨((Below.refl _ _).alloc (Nat.le_refl _) _).alloc (by simp) _, (has_new _ _ _).alloc _, ?_⟩
  have := has_new (w.alloc (.cells (ceL c p).toArray t)) (ceL ce0 pl0) t
  simpa using this

theorem Copy0.size {w : World} {h : Nat} {c : Ce} {p : Pl} {w1 : World} (H : Copy0 w h c p w1) : h + 2 ≤ w1.heap.size := by have := H.2.2.1; omega
theorem Copy1.size {w : World} {h : Nat} {c : Ce} {p : Pl} {ao : Option Addr} {w1 : World} (H : Copy1 w h c p ao w1) : h + 2 ≤ w1.heap.size := by have := H.2.2.1.1; omega
theorem Copy2.size {w : World} {h : Nat} {c : Ce} {p : Pl} {ao : Option Addr} {ca : Nat} {bo : Option Addr} {w1 : World} (H : Copy2 w h c p ao ca bo w1) : h + 2 ≤ w1.heap.size := by have := H.2.2.1.1; omega

theorem copy1_of {w : World} {h B : Nat} {c : Ce} {p : Pl} {ao : Option Addr} {W w1 : World} {o : Obj} (hB : B = h + 2) (H : Copy0 w h c p W) (o1 : FOwn B w1 ao (flatE c.ents)) (b1 : Below B (W.alloc o) w1) : Copy1 w h c p ao w1 := by
  subst hB
  have hs := H.size
  exact ⟨(H.1.alloc (by omega) _).trans (b1.mono (by omega)), (H.2.1.alloc _).under (by omega) b1, (H.2.2.alloc _).under (by omega) b1, o1⟩

theorem copy2_of {w : World} {h k : Nat} {c : Ce} {p : Pl} {ao bo : Option Addr} {ca : Nat} {w1 w2 : World} {o : Obj} (hk : w1.heap.size = k) (H : Copy1 w h c p ao w1) (o2 : FOwn k w2 bo (flatL c.elems)) (b2 : Below k ((w1.setCell ⟨h, 7, none⟩ (.slice ao c.ents.length ca)).alloc o) w2) : Copy2 w h c p ao ca bo w2 := by
  subst hk
  have hs := H.size
  refine ⟨((H.1.setCell (p := ⟨h, 7, none⟩) (Nat.le_refl _) _).alloc (by simp; omega) _).trans (b2.mono (by omega)), ((H.2.1.put 7 _).alloc _).under (by omega) b2, ((H.2.2.1.other (by omega) _ _).alloc _).under (by omega) b2, ?_, o2.mono (by omega)⟩
  exact (H.2.2.2.off (g := h) (by omega) 7 _).kept (by simp) ((Below.refl _ _).alloc (Nat.le_refl _) _) b2

theorem copy3_of {w : World} {h k : Nat} {c : Ce} {p : Pl} {ao bo so : Option Addr} {ca cb : Nat} {w1 w2 : World} {o : Obj} (hk : w1.heap.size = k) (H : Copy2 w h c p ao ca bo w1) (o2 : FOwn k w2 so (flatI c.seen)) (b2 : Below k ((w1.setCell ⟨h, 8, none⟩ (.slice bo c.elems.length cb)).alloc o) w2) : Copy3 w h c p ao ca bo cb so w2 := by
  subst hk
  have hs := H.size
  refine ⟨((H.1.setCell (p := ⟨h, 8, none⟩) (Nat.le_refl _) _).alloc (by simp; omega) _).trans (b2.mono (by omega)), ((H.2.1.put 8 _).alloc _).under (by omega) b2, ((H.2.2.1.other (by omega) _ _).alloc _).under (by omega) b2, ?_, ?_, o2.mono (by omega)⟩
  · exact (H.2.2.2.1.off (g := h) (by omega) 8 _).kept (by simp) ((Below.refl _ _).alloc (Nat.le_refl _) _) b2
  · exact (H.2.2.2.2.off (g := h) (by omega) 8 _).kept (by simp) ((Below.refl _ _).alloc (Nat.le_refl _) _) b2

theorem copy1_row {w : World} {h : Nat} {c : Ce} {p : Pl} {ao : Option Addr} {w1 : World} (hh : w.heap.size = h) (H : Copy1 w h c p ao w1) (R : CRow w c p) (v : Value) (o : Obj) : CRow ((w1.setCell ⟨h, 7, none⟩ v).alloc o) c p := by
  subst hh
  have hs := H.size
  exact R.later ((H.1.setCell (p := ⟨w.heap.size, 7, none⟩) (Nat.le_refl _) _).alloc (by simp; omega) _)

theorem copy2_row {w : World} {h : Nat} {c : Ce} {p : Pl} {ao : Option Addr} {ca : Nat} {bo : Option Addr} {w1 : World} (hh : w.heap.size = h) (H : Copy2 w h c p ao ca bo w1) (R : CRow w c p) (v : Value) (o : Obj) : CRow ((w1.setCell ⟨h, 8, none⟩ v).alloc o) c p := by
  subst hh
  have hs := H.size
  exact R.later ((H.1.setCell (p := ⟨w.heap.size, 8, none⟩) (Nat.le_refl _) _).alloc (by simp; omega) _)

/-- The end of a copy. -/
theorem copy_end {fn : Func} {act : Act} {w w3 : World} {h : Nat} {c : Ce} {p : Pl} {ao bo so : Option Addr} {ca cb cs : Nat} (H : Copy3 w h c p ao ca bo cb so w3) (hr : fn.results = #[.cell 2 30]) (h2 : act.tmps[2]? = some (.pointer (some ⟨h + 1, 0, none⟩))) (hd : act.defers = []) :
    bodyPost Tryz.prog fn (fun e w' => ∃ q, e = .returned (ceV c q) ∧ COwn h w' c q ∧ Below h w w') Exit.ret act (put10 (w3.setCell ⟨h, 9, none⟩ (.slice so c.seen.length cs)) (h + 1) (.int .i64 c.kind) (.bool c.set) (.int .i64 c.time) (.int .i64 c.node) (.string c.val) (.int .i64 c.re) (.int .i64 c.im) (.slice ao c.ents.length ca) (.slice bo c.elems.length cb) (.slice so c.seen.length cs)) := by
  have H2 := (H.2.2.1.other (k := h) (by omega) 9 (.slice so c.seen.length cs)).put10 (.int .i64 c.kind) (.bool c.set) (.int .i64 c.time) (.int .i64 c.node) (.string c.val) (.int .i64 c.re) (.int .i64 c.im) (.slice ao c.ents.length ca) (.slice bo c.elems.length cb) (.slice so c.seen.length cs)
  have HO : COwn (h + 2) (w3.setCell ⟨h, 9, none⟩ (.slice so c.seen.length cs)) c ⟨ao, ca, bo, cb, so, cs⟩ := ⟨H.2.2.2.1.off (by omega) 9 _, H.2.2.2.2.1.off (by omega) 9 _, H.2.2.2.2.2.off (by omega) 9 _⟩
  exact bodyPost_ret (ret_cell hr h2 H2) hd ⟨⟨ao, ca, bo, cb, so, cs⟩, rfl, (HO.put10 (by omega) _ _ _ _ _ _ _ _ _ _).mono (by omega), below_put10 (H.1.setCell (p := ⟨h, 9, none⟩) (Nat.le_refl _) _) (by omega) _ _ _ _ _ _ _ _ _ _⟩

set_option maxHeartbeats 1000000 in
set_option maxRecDepth 100000 in
theorem copyCell_any (c : Ce) (p : Pl) (w : World) (hr : CRow w c p) (hf : Fit c) :
    Calls Tryz.prog 9 #[ceV c p] w fun e w' => ∃ q, e = .returned (ceV c q) ∧ COwn w.heap.size w' c q ∧ Below w.heap.size w w' := by
  obtain ⟨f1, f2, f3, _⟩ := hf
  have H0 : Hid (Copy0 w w.heap.size c p (((w.alloc (.cells (ceL c p).toArray 30)).alloc (.cells (ceL ce0 pl0).toArray 30)))) := copy0_new w c p 30
  obtain ⟨h, hh⟩ : ∃ h, w.heap.size = h := ⟨_, rfl⟩
  rw [hh] at H0 ⊢
  have HR : Hid (CRow w c p) := hr
  clear hr
  go_enter Tryz.func9, Tryz.ntmps9
  go_wp2_with (first
    | (at_builtin
       refine wpList_copy rfl _ _ 26 rfl (B := h + 1 + 1) Tryz.underlying26 Tryz.infoEntry rfl (by decide) (by decide) (g := some (h + 1 + 1)) rfl rfl (own_empty (by simp [hh])) (HR.out.later (hh.symm ▸ (H0.out.1.alloc (by have := H0.out.size; omega) _))).1 (flatE_len _) (fun u hu => oneE hu) (by omega) (by simp [hh]) ?_
       intro ao1 ca1 w1 o1 _ b1
       have H1 : Hid (Copy1 w h c p ao1 w1) := copy1_of (by omega) H0.out o1 b1
       have hs1 := H1.out.size
       obtain ⟨k1, hk1⟩ : ∃ k, w1.heap.size = k := ⟨_, rfl⟩
       rw [hk1] at hs1
       obtain ⟨t0, t1, t2, t3, t4, t5, t6, t7, t8, t9⟩ := H1.out.2.1.ten
       have y7 := H1.out.2.1.free 7 rfl
       have y8 := H1.out.2.1.free 8 rfl
       have hlt1 : h < k1 := by omega
       clear o1 b1 H0)
    | (at_builtin
       refine wpList_copy rfl _ _ 27 rfl (B := k1) Tryz.underlying27 Tryz.infoElem rfl (by decide) (by decide) (g := some k1) rfl rfl (own_empty (by simp [hk1])) (copy1_row hh H1.out HR.out _ _).2.1 (flatL_len _) (fun u hu => oneL hu) (by omega) (by simp [hk1]) ?_
       intro ao2 ca2 w2 o2 _ b2
       have H2 : Hid (Copy2 w h c p ao1 ca1 ao2 w2) := copy2_of hk1 H1.out o2 b2
       have hs2 := H2.out.size
       obtain ⟨k2, hk2⟩ : ∃ k, w2.heap.size = k := ⟨_, rfl⟩
       rw [hk2] at hs2
       clear t0 t1 t2 t3 t4 t5 t6 t7 t8 t9 y7 y8
       obtain ⟨t0, t1, t2, t3, t4, t5, t6, t7, t8, t9⟩ := H2.out.2.1.ten
       have y8 := H2.out.2.1.free 8 rfl
       have y9 := H2.out.2.1.free 9 rfl
       have hlt2 : h < k2 := by omega
       clear o2 b2 H1 hk1 hs1 hlt1)
    | (at_builtin
       refine wpList_copy rfl _ _ 28 rfl (B := k2) Tryz.underlying28 Tryz.infoSeen rfl (by decide) (by decide) (g := some k2) rfl rfl (own_empty (by simp [hk2])) (copy2_row hh H2.out HR.out _ _).2.2 (flatI_len _) (fun u hu => oneI hu) (by omega) (by simp [hk2]) ?_
       intro ao3 ca3 w3 o3 _ b3
       have H3 : Hid (Copy3 w h c p ao1 ca1 ao2 ca2 ao3 w3) := copy3_of hk2 H2.out o3 b3
       clear t0 t1 t2 t3 t4 t5 t6 t7 t8 t9 y8 y9
       obtain ⟨t0, t1, t2, t3, t4, t5, t6, t7, t8, t9⟩ := H3.out.2.1.ten
       have y9 := H3.out.2.1.free 9 rfl
       obtain ⟨s0, s1, s2, s3, s4, s5, s6, s7, s8, s9⟩ := H3.out.2.2.1.ten
       obtain ⟨z0, z1, z2, z3, z4, z5, z6, z7, z8, z9⟩ := H3.out.2.2.1.tenf
       clear o3 b3 H2 hk2 hs2 hlt2))
  exact copy_end H3.out rfl rfl rfl

set_option maxHeartbeats 1000000 in
set_option maxRecDepth 100000 in
theorem rcopy_any (c : Ce) (p : Pl) (w : World) (hr : CRow w c p) (hf : Fit c) :
    Calls Tryz.prog 117 #[ceV c p] w fun e w' => ∃ q, e = .returned (ceV c q) ∧ COwn w.heap.size w' c q ∧ Below w.heap.size w w' := by
  obtain ⟨f1, f2, f3, _⟩ := hf
  have H0 : Hid (Copy0 w w.heap.size c p (((w.alloc (.cells (ceL c p).toArray 30)).alloc (.cells (ceL ce0 pl0).toArray 30)))) := copy0_new w c p 30
  obtain ⟨h, hh⟩ : ∃ h, w.heap.size = h := ⟨_, rfl⟩
  rw [hh] at H0 ⊢
  have HR : Hid (CRow w c p) := hr
  clear hr
  go_enter Tryz.func117, Tryz.ntmps117
  go_wp2_with (first
    | (at_builtin
       refine wpList_copy rfl _ _ 26 rfl (B := h + 1 + 1) Tryz.underlying26 Tryz.infoEntry rfl (by decide) (by decide) (g := some (h + 1 + 1)) rfl rfl (own_empty (by simp [hh])) (HR.out.later (hh.symm ▸ (H0.out.1.alloc (by have := H0.out.size; omega) _))).1 (flatE_len _) (fun u hu => oneE hu) (by omega) (by simp [hh]) ?_
       intro ao1 ca1 w1 o1 _ b1
       have H1 : Hid (Copy1 w h c p ao1 w1) := copy1_of (by omega) H0.out o1 b1
       have hs1 := H1.out.size
       obtain ⟨k1, hk1⟩ : ∃ k, w1.heap.size = k := ⟨_, rfl⟩
       rw [hk1] at hs1
       obtain ⟨t0, t1, t2, t3, t4, t5, t6, t7, t8, t9⟩ := H1.out.2.1.ten
       have y7 := H1.out.2.1.free 7 rfl
       have y8 := H1.out.2.1.free 8 rfl
       have hlt1 : h < k1 := by omega
       clear o1 b1 H0)
    | (at_builtin
       refine wpList_copy rfl _ _ 27 rfl (B := k1) Tryz.underlying27 Tryz.infoElem rfl (by decide) (by decide) (g := some k1) rfl rfl (own_empty (by simp [hk1])) (copy1_row hh H1.out HR.out _ _).2.1 (flatL_len _) (fun u hu => oneL hu) (by omega) (by simp [hk1]) ?_
       intro ao2 ca2 w2 o2 _ b2
       have H2 : Hid (Copy2 w h c p ao1 ca1 ao2 w2) := copy2_of hk1 H1.out o2 b2
       have hs2 := H2.out.size
       obtain ⟨k2, hk2⟩ : ∃ k, w2.heap.size = k := ⟨_, rfl⟩
       rw [hk2] at hs2
       clear t0 t1 t2 t3 t4 t5 t6 t7 t8 t9 y7 y8
       obtain ⟨t0, t1, t2, t3, t4, t5, t6, t7, t8, t9⟩ := H2.out.2.1.ten
       have y8 := H2.out.2.1.free 8 rfl
       have y9 := H2.out.2.1.free 9 rfl
       have hlt2 : h < k2 := by omega
       clear o2 b2 H1 hk1 hs1 hlt1)
    | (at_builtin
       refine wpList_copy rfl _ _ 28 rfl (B := k2) Tryz.underlying28 Tryz.infoSeen rfl (by decide) (by decide) (g := some k2) rfl rfl (own_empty (by simp [hk2])) (copy2_row hh H2.out HR.out _ _).2.2 (flatI_len _) (fun u hu => oneI hu) (by omega) (by simp [hk2]) ?_
       intro ao3 ca3 w3 o3 _ b3
       have H3 : Hid (Copy3 w h c p ao1 ca1 ao2 ca2 ao3 w3) := copy3_of hk2 H2.out o3 b3
       clear t0 t1 t2 t3 t4 t5 t6 t7 t8 t9 y8 y9
       obtain ⟨t0, t1, t2, t3, t4, t5, t6, t7, t8, t9⟩ := H3.out.2.1.ten
       have y9 := H3.out.2.1.free 9 rfl
       obtain ⟨s0, s1, s2, s3, s4, s5, s6, s7, s8, s9⟩ := H3.out.2.2.1.ten
       obtain ⟨z0, z1, z2, z3, z4, z5, z6, z7, z8, z9⟩ := H3.out.2.2.1.tenf
       clear o3 b3 H2 hk2 hs2 hlt2))
  exact copy_end H3.out rfl rfl rfl

end Go.Proofs.YtgkddimijmnpcaaGreatDoor

/-
  The laws' own SameCell and SameInts at two cells of the same data, by contracts.
-/
namespace Go.Proofs.YtgkddimijmnpcaaGreatDoor
open Go.RowKit
set_option linter.unusedVariables false
set_option linter.unusedSimpArgs false

set_option maxHeartbeats 400000 in
set_option maxRecDepth 100000 in
theorem sameInts_any (ao bo : Option Addr) (ca cb : Nat) (a : List Int) (w : World) (ha : FRow w ao (flatI a)) (hb : FRow w bo (flatI a)) (hla : a.length ≤ maxLen) :
    Calls Tryz.prog 26 #[.slice ao a.length ca, .slice bo a.length cb] w fun e w' => e = .returned (.bool true) ∧ Below w.heap.size w w' := by
  have HA : Hid (FRow w ao (flatI a)) := ha
  have HC : Hid (FRow w bo (flatI a)) := hb
  clear ha hb
  unfold maxLen at hla
  have hd0 : ((a.length : Int) != (a.length : Int)) = false := by simp
  go_enter Tryz.func26, Tryz.ntmps26
  go_wp2
  go_loopg [5] a.length (fun n iv wr => ∃ i : Nat, i + n = a.length ∧ iv = .int .i64 i ∧ Below w.heap.size w wr)
  case atStart => exact ⟨0, by omega, rfl, Below.refl _ _⟩
  case round =>
    obtain ⟨i, hin, rfl, hbel⟩ := hrel
    by_cases hi : i < a.length
    · obtain ⟨bk, off, rfl, hb, hc⟩ := HA.out (by rw [flatI_len]; omega)
      obtain ⟨bk2, off2, rfl, hb2, hc2⟩ := HC.out (by rw [flatI_len]; omega)
      obtain ⟨x, hx⟩ : ∃ x, a[i]? = some x := ⟨_, List.getElem?_eq_getElem hi⟩
      have hcx := (hbel.cell (p := ⟨bk, off + i, none⟩) (by exact hb)).trans (hc i _ (flatI_at a i hx))
      have hcy := (hbel.cell (p := ⟨bk2, off2 + i, none⟩) (by exact hb2)).trans (hc2 i _ (flatI_at a i hx))
      clear hc hc2 hx
      go_wp2
      go_region
      all_goals go_wp2
      all_goals go_roundg (gk - 1)
      case measure => omega
      case rel => exact ⟨i + 1, by omega, by go_num, hbel.drew⟩
    · have hd : decide ((i : Int) < (a.length : Int)) = false := by simp; omega
      go_wp2
      go_ret
      exact ⟨rfl, hbel⟩

/-- What the comparison keeps: both cells, in blocks h and h + 1. -/
def Same2 (w : World) (h : Nat) (c : Ce) (p q : Pl) (w1 : World) : Prop := Below h w w1 ∧ Has w1 h (ceL c p) ∧ Has w1 (h + 1) (ceL c q)

theorem same2_new (w : World) (c : Ce) (p q : Pl) (t : TypeId) : Same2 w w.heap.size c p q ((w.alloc (.cells (ceL c p).toArray t)).alloc (.cells (ceL c q).toArray t)) := by
  refine ⟨((Below.refl _ _).alloc (Nat.le_refl _) _).alloc (by simp) _, (has_new _ _ _).alloc _, ?_⟩
  have := has_new (w.alloc (.cells (ceL c p).toArray t)) (ceL c q) t
  simpa using this

theorem Same2.later {w w1 w2 : World} {h : Nat} {c : Ce} {p q : Pl} (H : Same2 w h c p q w1) (hb : Below w1.heap.size w1 w2) : Same2 w h c p q w2 :=
  ⟨H.1.trans (hb.mono (by have := H.2.1.1; omega)), H.2.1.later hb, H.2.2.later hb⟩

/-- No list is longer than memory. -/
def Lens (c : Ce) : Prop := c.ents.length ≤ 140737488355328 ∧ c.elems.length ≤ 140737488355328 ∧ c.seen.length ≤ 140737488355328
theorem Fit.lens {c : Ce} (h : Fit c) : Lens c := by
  obtain ⟨f1, f2, f3, _⟩ := h
  exact ⟨by omega, by omega, by omega⟩

set_option maxHeartbeats 2000000 in
set_option maxRecDepth 100000 in
theorem sameCell_lens (c : Ce) (p q : Pl) (w : World) (hp : CRow w c p) (hq : CRow w c q) (hf : Lens c) :
    Calls Tryz.prog 17 #[ceV c p, ceV c q] w fun e w' => e = .returned (.bool true) ∧ Below w.heap.size w w' := by
  obtain ⟨f1, f2, f3⟩ := hf
  have H0 : Hid (Same2 w w.heap.size c p q ((w.alloc (.cells (ceL c p).toArray 30)).alloc (.cells (ceL c q).toArray 30))) := same2_new w c p q 30
  obtain ⟨h, hh⟩ : ∃ h, w.heap.size = h := ⟨_, rfl⟩
  rw [hh] at H0 ⊢
  have HR : Hid (CRow w c p ∧ CRow w c q) := ⟨hp, hq⟩
  clear hp hq
  go_enter Tryz.func17, Tryz.ntmps17
  go_wp2_with fail
  refine (sameInts_any p.so q.so p.sc q.sc c.seen _ (HR.out.1.later (hh.symm ▸ H0.out.1)).2.2 (HR.out.2.later (hh.symm ▸ H0.out.1)).2.2 (by unfold maxLen; omega)).mono ?_
  rintro e w1 ⟨rfl, b1⟩
  have H1 : Hid (Same2 w h c p q w1) := H0.out.later b1
  clear b1 H0
  go_wp2
  go_loopg [5] c.ents.length (fun n iv wr => ∃ i : Nat, i + n = c.ents.length ∧ iv = .int .i64 i ∧ Same2 w h c p q wr)
  case atStart => exact ⟨0, by omega, rfl, H1.out⟩
  case round =>
    obtain ⟨i, hin, rfl, hs⟩ := hrel
    have HS : Hid (Same2 w h c p q wr) := hs
    have t7 := HS.out.2.1.at 7 rfl
    have r7 := HS.out.2.2.at 7 rfl
    have HBel : Below w.heap.size w wr := hh.symm ▸ hs.1
    clear hs H1
    by_cases hi : i < c.ents.length
    · obtain ⟨bk, off, ea, hb, hc⟩ := HR.out.1.1 (by rw [flatE_len]; omega)
      obtain ⟨bk2, off2, eb, hb2, hc2⟩ := HR.out.2.1 (by rw [flatE_len]; omega)
      obtain ⟨⟨x0, x1, x2⟩, hx⟩ : ∃ x, c.ents[i]? = some x := ⟨_, List.getElem?_eq_getElem hi⟩
      obtain ⟨g0, g1, g2⟩ := flatE_at c.ents i hx
      rw [ea] at t7
      rw [eb] at r7
      have k0 := (HBel.cell (p := ⟨bk, off + i * 3, none⟩) (by exact hb)).trans (hc _ _ g0)
      have k1 := (HBel.cell (p := ⟨bk, off + i * 3 + 1, none⟩) (by exact hb)).trans (hc _ _ g1)
      have k2 := (HBel.cell (p := ⟨bk, off + i * 3 + 2, none⟩) (by exact hb)).trans (hc _ _ g2)
      have l0 := (HBel.cell (p := ⟨bk2, off2 + i * 3, none⟩) (by exact hb2)).trans (hc2 _ _ g0)
      have l1 := (HBel.cell (p := ⟨bk2, off2 + i * 3 + 1, none⟩) (by exact hb2)).trans (hc2 _ _ g1)
      have l2 := (HBel.cell (p := ⟨bk2, off2 + i * 3 + 2, none⟩) (by exact hb2)).trans (hc2 _ _ g2)
      clear hc hc2 hx g0 g1 g2 ea eb HBel
      go_wp2
      go_region
      all_goals go_wp2
      all_goals go_roundg (gk - 1)
      case measure => omega
      case rel => exact ⟨i + 1, by omega, by go_num, HS.out.later (Below.refl _ _).drew⟩
    · have hd : decide ((i : Int) < (c.ents.length : Int)) = false := by simp; omega
      clear t7 r7 HBel
      have t7 := HS.out.2.1.at 7 rfl
      go_wp2
      clear t7
      go_loopg [6] c.elems.length (fun n iv wr => ∃ i : Nat, i + n = c.elems.length ∧ iv = .int .i64 i ∧ Same2 w h c p q wr)
      case atStart => exact ⟨0, by omega, rfl, HS.out⟩
      case round =>
        obtain ⟨j, hjn, rfl, hs⟩ := hrel
        clear HS
        have HS : Hid (Same2 w h c p q wr) := hs
        have t8 := HS.out.2.1.at 8 rfl
        have r8 := HS.out.2.2.at 8 rfl
        have HBel : Below w.heap.size w wr := hh.symm ▸ hs.1
        clear hs
        by_cases hj : j < c.elems.length
        · obtain ⟨bk, off, ea, hb, hc⟩ := HR.out.1.2.1 (by rw [flatL_len]; omega)
          obtain ⟨bk2, off2, eb, hb2, hc2⟩ := HR.out.2.2.1 (by rw [flatL_len]; omega)
          obtain ⟨⟨x0, x1, x2, x3, x4⟩, hx⟩ : ∃ x, c.elems[j]? = some x := ⟨_, List.getElem?_eq_getElem hj⟩
          obtain ⟨g0, g1, g2, g3, g4⟩ := flatL_at c.elems j hx
          rw [ea] at t8
          rw [eb] at r8
          have k0 := (HBel.cell (p := ⟨bk, off + j * 5, none⟩) (by exact hb)).trans (hc _ _ g0)
          have k1 := (HBel.cell (p := ⟨bk, off + j * 5 + 1, none⟩) (by exact hb)).trans (hc _ _ g1)
          have k2 := (HBel.cell (p := ⟨bk, off + j * 5 + 2, none⟩) (by exact hb)).trans (hc _ _ g2)
          have k3 := (HBel.cell (p := ⟨bk, off + j * 5 + 3, none⟩) (by exact hb)).trans (hc _ _ g3)
          have k4 := (HBel.cell (p := ⟨bk, off + j * 5 + 4, none⟩) (by exact hb)).trans (hc _ _ g4)
          have l0 := (HBel.cell (p := ⟨bk2, off2 + j * 5, none⟩) (by exact hb2)).trans (hc2 _ _ g0)
          have l1 := (HBel.cell (p := ⟨bk2, off2 + j * 5 + 1, none⟩) (by exact hb2)).trans (hc2 _ _ g1)
          have l2 := (HBel.cell (p := ⟨bk2, off2 + j * 5 + 2, none⟩) (by exact hb2)).trans (hc2 _ _ g2)
          have l3 := (HBel.cell (p := ⟨bk2, off2 + j * 5 + 3, none⟩) (by exact hb2)).trans (hc2 _ _ g3)
          have l4 := (HBel.cell (p := ⟨bk2, off2 + j * 5 + 4, none⟩) (by exact hb2)).trans (hc2 _ _ g4)
          clear hc hc2 hx g0 g1 g2 g3 g4 ea eb HBel
          go_wp2
          go_region
          all_goals go_wp2
          all_goals go_roundg (gk - 1)
          case measure => omega
          case rel => exact ⟨j + 1, by omega, by go_num, HS.out.later (Below.refl _ _).drew⟩
        · have hd2 : decide ((j : Int) < (c.elems.length : Int)) = false := by simp; omega
          go_wp2
          go_ret
          exact ⟨rfl, HS.out.1⟩

theorem sameCell_any (c : Ce) (p q : Pl) (w : World) (hp : CRow w c p) (hq : CRow w c q) (hf : Fit c) :
    Calls Tryz.prog 17 #[ceV c p, ceV c q] w fun e w' => e = .returned (.bool true) ∧ Below w.heap.size w w' := sameCell_lens c p q w hp hq hf.lens

end Go.Proofs.YtgkddimijmnpcaaGreatDoor

/-
  The laws' own SpoilCell and SpoilInts: they write over what an answer's lists hold, and over nothing else.
-/
namespace Go.Proofs.YtgkddimijmnpcaaGreatDoor
open Go.RowKit
set_option linter.unusedVariables false
set_option linter.unusedSimpArgs false

/-- There is a number, and it may be written over. -/
def IntAt (w : World) (b o : Nat) : Prop := (∃ z, w.cell? ⟨b, o, none⟩ = some (.int .i64 z)) ∧ w.frozen? ⟨b, o, none⟩ = false

theorem IntAt.set {w : World} {b o : Nat} (h : IntAt w b o) (b' o' : Nat) (z' : Int) : IntAt (w.setCell ⟨b', o', none⟩ (.int .i64 z')) b o := by
  obtain ⟨⟨z, hz⟩, hf⟩ := h
  refine ⟨?_, by rw [World.frozen?_setCell]; exact hf⟩
  by_cases e : (⟨b', o', none⟩ : Addr) = ⟨b, o, none⟩
  · rw [e]
    exact ⟨z', World.cell?_setCell_same _ _ _ hz⟩
  · refine ⟨z, ?_⟩
    rw [World.cell?_setCell_other _ _ _ _ (by first | exact e | exact fun e' => e e'.symm)]
    exact hz

theorem IntAt.later {w w' : World} {b o : Nat} (h : IntAt w b o) (hb : b < w.heap.size) (hl : Below w.heap.size w w') : IntAt w' b o := by
  obtain ⟨⟨z, hz⟩, hf⟩ := h
  exact ⟨⟨z, (hl.cell (by exact hb)).trans hz⟩, (hl.frozen (by exact hb)).trans hf⟩

/-- n numbers, s cells apart, the first at o, in a block from B on and below h. -/
def Nums (B h : Nat) (w : World) (ao : Option Addr) (n s o : Nat) : Prop := 0 < n → ∃ g, ao = some ⟨g, 0, none⟩ ∧ B ≤ g ∧ g < h ∧ h ≤ w.heap.size ∧ ∀ j, j < n → IntAt w g (j * s + o)

theorem Nums.set {B h : Nat} {w : World} {ao : Option Addr} {n s o : Nat} (H : Nums B h w ao n s o) (b' o' : Nat) (z' : Int) : Nums B h (w.setCell ⟨b', o', none⟩ (.int .i64 z')) ao n s o := fun h0 => by
  obtain ⟨g, h1, h2, h3, h4, h5⟩ := H h0
  exact ⟨g, h1, h2, h3, by simpa using h4, fun j hj => (h5 j hj).set _ _ _⟩

theorem Nums.later {B h : Nat} {w w' : World} {ao : Option Addr} {n s o : Nat} (H : Nums B h w ao n s o) (hl : Below w.heap.size w w') : Nums B h w' ao n s o := fun h0 => by
  obtain ⟨g, h1, h2, h3, h4, h5⟩ := H h0
  exact ⟨g, h1, h2, h3, Nat.le_trans h4 hl.size, fun j hj => (h5 j hj).later (by omega) hl⟩

set_option maxHeartbeats 400000 in
set_option maxRecDepth 100000 in
theorem spoilInts_any (B h : Nat) (ao : Option Addr) (ca n : Nat) (w : World) (ha : Nums B h w ao n 1 0) (hla : n ≤ maxLen) :
    Calls Tryz.prog 40 #[.slice ao n ca] w fun e w' => e = .returned (.tuple #[]) ∧ Below B w w' := by
  have HA : Hid (Nums B h w ao n 1 0) := ha
  clear ha
  unfold maxLen at hla
  by_cases h0 : 0 < n
  · obtain ⟨g, rfl, hB, hg, _⟩ := HA.out h0
    go_enter Tryz.func40, Tryz.ntmps40
    go_wp2
    go_loopg [2] n (fun k iv wr => ∃ i : Nat, i + k = n ∧ iv = .int .i64 i ∧ Below B w wr ∧ Nums B h wr (some ⟨g, 0, none⟩) n 1 0)
    case atStart => exact ⟨0, by omega, rfl, Below.refl _ _, HA.out⟩
    case round =>
      obtain ⟨i, hin, rfl, hbel, hnum⟩ := hrel
      have HN : Hid (Nums B h wr (some ⟨g, 0, none⟩) n 1 0) := hnum
      clear hnum
      by_cases hi : i < n
      · obtain ⟨g', e, _, _, _, h5⟩ := HN.out h0
        simp only [Option.some.injEq, Addr.mk.injEq, and_true] at e
        subst e
        obtain ⟨⟨z, hz⟩, hf⟩ := h5 i hi
        rw [Nat.mul_one, Nat.add_zero] at hz hf
        clear h5
        go_wp2
        go_roundg (gk - 1)
        case measure => omega
        case rel => exact ⟨i + 1, by omega, by go_num, hbel.setCell (p := ⟨g, i, none⟩) hB _, HN.out.set _ _ _⟩
      · have hd : decide ((i : Int) < (n : Int)) = false := by simp; omega
        go_wp2
        first | go_ret | go_end0
        exact ⟨rfl, hbel⟩
  · obtain rfl : n = 0 := by omega
    go_enter Tryz.func40, Tryz.ntmps40
    go_wp2
    refine wp_loop_rounds 1 ?_
    rw [rounds_succ]
    go_wp2
    first | go_ret | go_end0
    exact ⟨rfl, Below.refl _ _⟩

/-- What SpoilCell keeps. -/
def Spo (B h : Nat) (w : World) (c : Ce) (q : Pl) (w1 : World) : Prop := Below B w w1 ∧ Has w1 h (ceL c q) ∧ B ≤ h ∧ Nums B h w1 q.eo c.ents.length 3 1 ∧ Nums B h w1 q.lo c.elems.length 5 2 ∧ Nums B h w1 q.so c.seen.length 1 0

theorem Spo.set {B h : Nat} {w w1 : World} {c : Ce} {q : Pl} (H : Spo B h w c q w1) {g : Nat} (hg : B ≤ g) (hh : g < h) (o : Nat) (z : Int) : Spo B h w c q (w1.setCell ⟨g, o, none⟩ (.int .i64 z)) :=
  ⟨H.1.setCell (p := ⟨g, o, none⟩) hg _, H.2.1.other (by omega) _ _, H.2.2.1, H.2.2.2.1.set _ _ _, H.2.2.2.2.1.set _ _ _, H.2.2.2.2.2.set _ _ _⟩

theorem Spo.later {B h : Nat} {w w1 w2 : World} {c : Ce} {q : Pl} (H : Spo B h w c q w1) (hl : Below w1.heap.size w1 w2) : Spo B h w c q w2 :=
  ⟨H.1.trans (hl.mono (by have := H.2.1.1; have := H.2.2.1; omega)), H.2.1.later hl, H.2.2.1, H.2.2.2.1.later hl, H.2.2.2.2.1.later hl, H.2.2.2.2.2.later hl⟩

theorem spo_new {B : Nat} {w : World} {c : Ce} {q : Pl} (HO : COwn B w c q) (hB : B ≤ w.heap.size) (t : TypeId) : Spo B w.heap.size w c q (w.alloc (.cells (ceL c q).toArray t)) := by
  have hb : Below w.heap.size w (w.alloc (.cells (ceL c q).toArray t)) := (Below.refl _ _).alloc (Nat.le_refl _) _
  refine ⟨hb.mono hB, has_new _ _ _, hB, fun h0 => ?_, fun h0 => ?_, fun h0 => ?_⟩
  · obtain ⟨g, h1, h2, h3, h4⟩ := HO.1 (by rw [flatE_len]; omega)
    refine ⟨g, h1, h2, h3, by simp, fun j hj => IntAt.later ?_ h3 hb⟩
    have := (flatE_at c.ents j (List.getElem?_eq_getElem hj)).2.1
    exact ⟨⟨_, (h4 _ _ this).1⟩, (h4 _ _ this).2⟩
  · obtain ⟨g, h1, h2, h3, h4⟩ := HO.2.1 (by rw [flatL_len]; omega)
    refine ⟨g, h1, h2, h3, by simp, fun j hj => IntAt.later ?_ h3 hb⟩
    have := (flatL_at c.elems j (List.getElem?_eq_getElem hj)).2.2.1
    exact ⟨⟨_, (h4 _ _ this).1⟩, (h4 _ _ this).2⟩
  · obtain ⟨g, h1, h2, h3, h4⟩ := HO.2.2 (by rw [flatI_len]; omega)
    refine ⟨g, h1, h2, h3, by simp, fun j hj => IntAt.later ?_ h3 hb⟩
    rw [Nat.mul_one, Nat.add_zero]
    have := flatI_at c.seen j (List.getElem?_eq_getElem hj)
    exact ⟨⟨_, (h4 _ _ this).1⟩, (h4 _ _ this).2⟩

set_option maxHeartbeats 1000000 in
set_option maxRecDepth 100000 in
theorem spoilCell_lens (B : Nat) (c : Ce) (q : Pl) (w : World) (HO : COwn B w c q) (hB : B ≤ w.heap.size) (hf : Lens c) :
    Calls Tryz.prog 19 #[ceV c q] w fun e w' => e = .returned (.tuple #[]) ∧ Below B w w' := by
  obtain ⟨f1, f2, f3⟩ := hf
  have H0 : Hid (Spo B w.heap.size w c q (w.alloc (.cells (ceL c q).toArray 30))) := spo_new HO hB _
  obtain ⟨h, hh⟩ : ∃ h, w.heap.size = h := ⟨_, rfl⟩
  rw [hh] at H0
  clear HO hB
  go_enter Tryz.func19, Tryz.ntmps19
  go_wp2
  go_loopg [2] c.ents.length (fun k iv wr => ∃ i : Nat, i + k = c.ents.length ∧ iv = .int .i64 i ∧ Spo B h w c q wr)
  case atStart => exact ⟨0, by omega, rfl, H0.out⟩
  case round =>
    obtain ⟨i, hin, rfl, hs⟩ := hrel
    have HS : Hid (Spo B h w c q wr) := hs
    clear hs H0
    have t7 := HS.out.2.1.at 7 rfl
    by_cases hi : i < c.ents.length
    · obtain ⟨g, ea, g1, g2, g3, h5⟩ := HS.out.2.2.2.1 (by omega)
      obtain ⟨⟨z, hz⟩, hfz⟩ := h5 i hi
      rw [ea] at t7
      clear h5 ea
      go_wp2
      go_region
      all_goals go_wp2
      all_goals go_roundg (gk - 1)
      case measure => omega
      case rel => exact ⟨i + 1, by omega, by go_num, (HS.out.later (Below.refl _ _).drew).set g1 g2 _ _⟩
    · have hd : decide ((i : Int) < (c.ents.length : Int)) = false := by simp; omega
      go_wp2
      clear t7
      go_loopg [3] c.elems.length (fun k iv wr => ∃ i : Nat, i + k = c.elems.length ∧ iv = .int .i64 i ∧ Spo B h w c q wr)
      case atStart => exact ⟨0, by omega, rfl, HS.out⟩
      case round =>
        obtain ⟨j, hjn, rfl, hs⟩ := hrel
        clear HS
        have HS : Hid (Spo B h w c q wr) := hs
        clear hs
        have t8 := HS.out.2.1.at 8 rfl
        by_cases hj : j < c.elems.length
        · obtain ⟨g, ea, g1, g2, g3, h5⟩ := HS.out.2.2.2.2.1 (by omega)
          obtain ⟨⟨z, hz⟩, hfz⟩ := h5 j hj
          rw [ea] at t8
          clear h5 ea
          go_wp2
          go_region
          all_goals go_wp2
          all_goals go_roundg (gk - 1)
          case measure => omega
          case rel => exact ⟨j + 1, by omega, by go_num, (HS.out.later (Below.refl _ _).drew).set g1 g2 _ _⟩
        · have hd2 : decide ((j : Int) < (c.elems.length : Int)) = false := by simp; omega
          have t9 := HS.out.2.1.at 9 rfl
          go_wp2_with fail
          refine (spoilInts_any B h q.so q.sc c.seen.length wr HS.out.2.2.2.2.2 (by unfold maxLen; omega)).mono ?_
          rintro e w5 ⟨rfl, b5⟩
          go_wp2
          first | go_ret | go_end0
          exact ⟨rfl, HS.out.1.trans b5⟩

theorem spoilCell_any (B : Nat) (c : Ce) (q : Pl) (w : World) (HO : COwn B w c q) (hB : B ≤ w.heap.size) (hf : Fit c) :
    Calls Tryz.prog 19 #[ceV c q] w fun e w' => e = .returned (.tuple #[]) ∧ Below B w w' := spoilCell_lens B c q w HO hB hf.lens

end Go.Proofs.YtgkddimijmnpcaaGreatDoor

/-
  strings.Clone, by the library's own contract of the function that it calls, laid at this program's numbers: the same bytes, in new memory.
-/
namespace Go.Proofs.YtgkddimijmnpcaaGreatDoor
open Go.Shelf Go.RowKit

def cloneRen : Go.Shelf.Ren := ⟨fun | 316 => 135 | n => n, fun | 9 => 9 | 3 => 3 | 4 => 4 | 37 => 63 | 0 => 0 | 127 => 175 | 5 => 5 | n => n, fun | n => n⟩

theorem cloneLays : Go.Proofs.LaysM.n316 Tryz.prog cloneRen := {
  mixed := by kernel_rfl
  f316 := Tryz.func135.trans (congrArg some (by kernel_rfl))
  t0 := Tryz.underlying0
  a0 := Tryz.isAgg0
  z0 := Tryz.sizeOf0
  v0 := Tryz.zeroValue0
  t3 := Tryz.underlying3
  a3 := Tryz.isAgg3
  z3 := Tryz.sizeOf3
  v3 := Tryz.zeroValue3
  t4 := Tryz.underlying4
  a4 := Tryz.isAgg4
  z4 := Tryz.sizeOf4
  v4 := Tryz.zeroValue4
  t9 := Tryz.underlying9
  a9 := Tryz.isAgg9
  z9 := Tryz.sizeOf9
  v9 := Tryz.zeroValue9
  t37 := Tryz.underlying63
  a37 := Tryz.isAgg63
  z37 := Tryz.sizeOf63
  v37 := Tryz.zeroValue63
  t127 := Tryz.underlying175
  a127 := Tryz.isAgg175
  z127 := Tryz.sizeOf175
  v127 := Tryz.zeroValue175
  t5 := Tryz.underlying5
  a5 := Tryz.isAgg5
  z5 := Tryz.sizeOf5
  v5 := Tryz.zeroValue5
  i0 := by kernel_rfl
  i3 := by kernel_rfl
  i4 := by kernel_rfl
  i5 := by kernel_rfl
  i9 := by kernel_rfl
  i37 := by kernel_rfl
  i127 := by kernel_rfl }

theorem slite_clone (s : ByteArray) (w : World) (hlim : s.size ≤ 281474976710656) :
    Calls Tryz.prog 135 #[.string s] w fun e w' => e = .returned (.string s) ∧ Below w.heap.size w w' := Any.stringslite_Clone cloneLays s w hlim

theorem clone_any (s : ByteArray) (w : World) (hlim : s.size ≤ 281474976710656) :
    Calls Tryz.prog 102 #[.string s] w fun e w' => e = .returned (.string s) ∧ Below w.heap.size w w' := by
  go_enter Tryz.func102, Tryz.ntmps102
  go_wp2_with (go_at_call 135; refine (slite_clone _ _ hlim).mono ?_; rintro e w1 ⟨rfl, hb⟩)
  go_ret
  exact ⟨rfl, hb⟩

end Go.Proofs.YtgkddimijmnpcaaGreatDoor

/-
  Package fresh: copies of a cell and of its lists in memory of their own, by contracts.
-/
namespace Go.Proofs.YtgkddimijmnpcaaGreatDoor
open Go.RowKit
set_option linter.unusedVariables false
set_option linter.unusedSimpArgs false

set_option maxHeartbeats 400000 in
set_option maxRecDepth 100000 in
theorem fints_any (ao : Option Addr) (ca : Nat) (l : List Int) (w : World) (hr : FRow w ao (flatI l)) (hn : l.length * 8 ≤ 140737488351232) :
    Calls Tryz.prog 134 #[.slice ao l.length ca] w fun e w' => ∃ bo cb, e = .returned (.slice bo l.length cb) ∧ FOwn w.heap.size w' bo (flatI l) ∧ (l.length = 0 → bo = none ∧ cb = 0) ∧ Below w.heap.size w w' := by
  go_enter Tryz.func134, Tryz.ntmps134
  go_wp2_with (at_builtin; refine wpList_copy rfl _ _ 28 rfl Tryz.underlying28 Tryz.infoSeen rfl (by decide) (by decide) (g := none) rfl rfl (own_none _ w.heap.size _ _) hr (flatI_len _) (fun u hu => oneI hu) (by omega) (Nat.le_refl _) ?_; intro bo cb w1 o1 n1 b1; have N1 : Hid (l.length = 0 → bo = none ∧ cb = 0) := n1 rfl; clear n1)
  go_ret
  exact ⟨bo, cb, rfl, o1, N1.out, b1⟩

set_option maxHeartbeats 1000000 in
set_option maxRecDepth 100000 in
theorem fents_any (ao : Option Addr) (ca : Nat) (l : List E3) (w : World) (hr : FRow w ao (flatE l)) (hn : l.length * 32 ≤ 140737488351232) (hs : ∀ (i : Nat) x, l[i]? = some x → x.val.size ≤ 140737488351232) :
    Calls Tryz.prog 132 #[.slice ao l.length ca] w fun e w' => ∃ bo cb, e = .returned (.slice bo l.length cb) ∧ FOwn w.heap.size w' bo (flatE l) ∧ (l.length = 0 → bo = none ∧ cb = 0) ∧ Below w.heap.size w w' := by
  have HS : Hid (∀ (i : Nat) x, l[i]? = some x → x.val.size ≤ 140737488351232) := hs
  clear hs
  obtain ⟨h, hh⟩ : ∃ h, w.heap.size = h := ⟨_, rfl⟩
  rw [hh]
  go_enter Tryz.func132, Tryz.ntmps132
  go_wp2_with (at_builtin; refine wpList_copy rfl _ _ 26 rfl Tryz.underlying26 Tryz.infoEntry rfl (by decide) (by decide) (g := none) rfl rfl (own_none _ h _ _) hr (flatE_len _) (fun u hu => oneE hu) (by omega) (by omega) ?_; intro bo cb w1 o1 n1 b1; have O1 : Hid (FOwn h w1 bo (flatE l) ∧ (l.length = 0 → bo = none ∧ cb = 0) ∧ Below h w w1) := ⟨o1, n1 rfl, b1⟩; clear o1 n1 b1 hr)
  by_cases h0 : 0 < l.length
  · obtain ⟨g, rfl, hg, hg1, _⟩ := O1.out.1 (by rw [flatE_len]; omega)
    go_loopg [8] l.length (fun n iv wr => ∃ i : Nat, i + n = l.length ∧ iv = .int .i64 i ∧ FOwn h wr (some ⟨g, 0, none⟩) (flatE l) ∧ Below h w wr)
    case atStart => exact ⟨0, by omega, rfl, O1.out.1, O1.out.2.2⟩
    case round =>
      obtain ⟨i, hin, rfl, hrel⟩ := hrel
      have HW : Hid (FOwn h wr (some ⟨g, 0, none⟩) (flatE l) ∧ Below h w wr) := hrel
      clear hrel
      by_cases hi : i < l.length
      · obtain ⟨x, hx⟩ : ∃ x, l[i]? = some x := ⟨_, List.getElem?_eq_getElem hi⟩
        obtain ⟨_, _, g2⟩ := flatE_at l i hx
        obtain ⟨b, eb, hb1, hb2, hc⟩ := HW.out.1 (by rw [flatE_len]; omega)
        simp only [Option.some.injEq, Addr.mk.injEq, and_true] at eb
        subst eb
        have k2 := (hc _ _ g2).1
        have C := clone_any x.val wr (by have := HS.out i x hx; omega)
        have G2 : Hid ((flatE l)[i * 3 + 2]? = some (.string x.val)) := g2
        clear hc g2 hx
        go_wp2_with fail
        refine C.mono ?_
        rintro e w2 ⟨rfl, b2⟩
        have O2 : Hid (FOwn h w2 (some ⟨g, 0, none⟩) (flatE l) ∧ Below h w w2) := ⟨HW.out.1.later b2, HW.out.2.trans (b2.mono (by omega))⟩
        obtain ⟨b, eb, _, hb3, hc⟩ := O2.out.1 (by rw [flatE_len]; omega)
        simp only [Option.some.injEq, Addr.mk.injEq, and_true] at eb
        subst eb
        have q2 := (hc _ _ G2.out).1
        have q3 := (hc _ _ G2.out).2
        clear C b2 k2 hc
        go_wp2
        go_roundg (gk - 1)
        case measure => omega
        case rel => exact ⟨i + 1, by omega, by go_num, O2.out.1.same G2.out, O2.out.2.setCell (p := ⟨g, i * 3 + 2, none⟩) hg _⟩
      · have hd : decide ((i : Int) < (l.length : Int)) = false := by simp; omega
        go_wp2
        go_ret
        exact ⟨_, _, rfl, HW.out.1, fun e => by omega, HW.out.2⟩
  · obtain rfl : l = [] := List.eq_nil_of_length_eq_zero (by omega)
    obtain ⟨rfl, rfl⟩ := O1.out.2.1 rfl
    refine wp_loop_rounds 1 ?_
    rw [rounds_succ]
    go_wp2
    go_ret
    exact ⟨_, _, rfl, O1.out.1, by first | exact fun _ => ⟨rfl, rfl⟩ | exact ⟨rfl, rfl⟩, O1.out.2.2⟩

set_option maxHeartbeats 1000000 in
set_option maxRecDepth 100000 in
theorem felems_any (ao : Option Addr) (ca : Nat) (l : List L5) (w : World) (hr : FRow w ao (flatL l)) (hn : l.length * 48 ≤ 140737488351232) (hs : ∀ (i : Nat) x, l[i]? = some x → x.val.size ≤ 140737488351232) :
    Calls Tryz.prog 133 #[.slice ao l.length ca] w fun e w' => ∃ bo cb, e = .returned (.slice bo l.length cb) ∧ FOwn w.heap.size w' bo (flatL l) ∧ (l.length = 0 → bo = none ∧ cb = 0) ∧ Below w.heap.size w w' := by
  have HS : Hid (∀ (i : Nat) x, l[i]? = some x → x.val.size ≤ 140737488351232) := hs
  clear hs
  obtain ⟨h, hh⟩ : ∃ h, w.heap.size = h := ⟨_, rfl⟩
  rw [hh]
  go_enter Tryz.func133, Tryz.ntmps133
  go_wp2_with (at_builtin; refine wpList_copy rfl _ _ 27 rfl Tryz.underlying27 Tryz.infoElem rfl (by decide) (by decide) (g := none) rfl rfl (own_none _ h _ _) hr (flatL_len _) (fun u hu => oneL hu) (by omega) (by omega) ?_; intro bo cb w1 o1 n1 b1; have O1 : Hid (FOwn h w1 bo (flatL l) ∧ (l.length = 0 → bo = none ∧ cb = 0) ∧ Below h w w1) := ⟨o1, n1 rfl, b1⟩; clear o1 n1 b1 hr)
  by_cases h0 : 0 < l.length
  · obtain ⟨g, rfl, hg, hg1, _⟩ := O1.out.1 (by rw [flatL_len]; omega)
    go_loopg [8] l.length (fun n iv wr => ∃ i : Nat, i + n = l.length ∧ iv = .int .i64 i ∧ FOwn h wr (some ⟨g, 0, none⟩) (flatL l) ∧ Below h w wr)
    case atStart => exact ⟨0, by omega, rfl, O1.out.1, O1.out.2.2⟩
    case round =>
      obtain ⟨i, hin, rfl, hrel⟩ := hrel
      have HW : Hid (FOwn h wr (some ⟨g, 0, none⟩) (flatL l) ∧ Below h w wr) := hrel
      clear hrel
      by_cases hi : i < l.length
      · obtain ⟨x, hx⟩ : ∃ x, l[i]? = some x := ⟨_, List.getElem?_eq_getElem hi⟩
        obtain ⟨_, _, _, g2, _⟩ := flatL_at l i hx
        obtain ⟨b, eb, hb1, hb2, hc⟩ := HW.out.1 (by rw [flatL_len]; omega)
        simp only [Option.some.injEq, Addr.mk.injEq, and_true] at eb
        subst eb
        have k2 := (hc _ _ g2).1
        have C := clone_any x.val wr (by have := HS.out i x hx; omega)
        have G2 : Hid ((flatL l)[i * 5 + 3]? = some (.string x.val)) := g2
        clear hc g2 hx
        go_wp2_with fail
        refine C.mono ?_
        rintro e w2 ⟨rfl, b2⟩
        have O2 : Hid (FOwn h w2 (some ⟨g, 0, none⟩) (flatL l) ∧ Below h w w2) := ⟨HW.out.1.later b2, HW.out.2.trans (b2.mono (by omega))⟩
        obtain ⟨b, eb, _, hb3, hc⟩ := O2.out.1 (by rw [flatL_len]; omega)
        simp only [Option.some.injEq, Addr.mk.injEq, and_true] at eb
        subst eb
        have q2 := (hc _ _ G2.out).1
        have q3 := (hc _ _ G2.out).2
        clear C b2 k2 hc
        go_wp2
        go_roundg (gk - 1)
        case measure => omega
        case rel => exact ⟨i + 1, by omega, by go_num, O2.out.1.same G2.out, O2.out.2.setCell (p := ⟨g, i * 5 + 3, none⟩) hg _⟩
      · have hd : decide ((i : Int) < (l.length : Int)) = false := by simp; omega
        go_wp2
        go_ret
        exact ⟨_, _, rfl, HW.out.1, fun e => by omega, HW.out.2⟩
  · obtain rfl : l = [] := List.eq_nil_of_length_eq_zero (by omega)
    obtain ⟨rfl, rfl⟩ := O1.out.2.1 rfl
    refine wp_loop_rounds 1 ?_
    rw [rounds_succ]
    go_wp2
    go_ret
    exact ⟨_, _, rfl, O1.out.1, by first | exact fun _ => ⟨rfl, rfl⟩ | exact ⟨rfl, rfl⟩, O1.out.2.2⟩

theorem Copy0.later {w w1 w2 : World} {h : Nat} {c : Ce} {p : Pl} (H : Copy0 w h c p w1) (hb : Below w1.heap.size w1 w2) : Copy0 w h c p w2 :=
  ⟨H.1.trans (hb.mono (by have := H.size; omega)), H.2.1.later hb, H.2.2.later hb⟩

theorem Copy0.row {w w1 : World} {h : Nat} {c : Ce} {p q : Pl} (H : Copy0 w h c q w1) (hh : w.heap.size = h) (R : CRow w c p) : CRow w1 c p := R.later (hh.symm ▸ H.1)

theorem Copy0.set4 {w w1 : World} {h : Nat} {c : Ce} {p : Pl} (H : Copy0 w h c p w1) : Copy0 w h c p (w1.setCell ⟨h, 4, none⟩ (.string c.val)) :=
  ⟨H.1.setCell (p := ⟨h, 4, none⟩) (Nat.le_refl _) _, H.2.1.put 4 _, H.2.2.other (by omega) _ _⟩
theorem Copy0.set7 {w w1 : World} {h : Nat} {c : Ce} {p : Pl} (H : Copy0 w h c p w1) (ao : Option Addr) (ca : Nat) : Copy0 w h c { p with eo := ao, ec := ca } (w1.setCell ⟨h, 7, none⟩ (.slice ao c.ents.length ca)) :=
  ⟨H.1.setCell (p := ⟨h, 7, none⟩) (Nat.le_refl _) _, H.2.1.put 7 _, H.2.2.other (by omega) _ _⟩
theorem Copy0.set8 {w w1 : World} {h : Nat} {c : Ce} {p : Pl} (H : Copy0 w h c p w1) (ao : Option Addr) (ca : Nat) : Copy0 w h c { p with lo := ao, lc := ca } (w1.setCell ⟨h, 8, none⟩ (.slice ao c.elems.length ca)) :=
  ⟨H.1.setCell (p := ⟨h, 8, none⟩) (Nat.le_refl _) _, H.2.1.put 8 _, H.2.2.other (by omega) _ _⟩
theorem Copy0.set9 {w w1 : World} {h : Nat} {c : Ce} {p : Pl} (H : Copy0 w h c p w1) (ao : Option Addr) (ca : Nat) : Copy0 w h c { p with so := ao, sc := ca } (w1.setCell ⟨h, 9, none⟩ (.slice ao c.seen.length ca)) :=
  ⟨H.1.setCell (p := ⟨h, 9, none⟩) (Nat.le_refl _) _, H.2.1.put 9 _, H.2.2.other (by omega) _ _⟩

/-- The end of a copy, whatever placement q. -/
theorem fresh_end {fn : Func} {act : Act} {w w3 : World} {h : Nat} {c : Ce} {q : Pl} (H : Copy0 w h c q w3) (HO : COwn (h + 2) w3 c q) (HN : Nils c q) (hr : fn.results = #[.cell 2 30]) (h2 : act.tmps[2]? = some (.pointer (some ⟨h + 1, 0, none⟩))) (hd : act.defers = []) :
    bodyPost Tryz.prog fn (fun e w' => ∃ q, e = .returned (ceV c q) ∧ COwn h w' c q ∧ Nils c q ∧ Below h w w') Exit.ret act (put10 w3 (h + 1) (.int .i64 c.kind) (.bool c.set) (.int .i64 c.time) (.int .i64 c.node) (.string c.val) (.int .i64 c.re) (.int .i64 c.im) (.slice q.eo c.ents.length q.ec) (.slice q.lo c.elems.length q.lc) (.slice q.so c.seen.length q.sc)) :=
  bodyPost_ret (ret_cell hr h2 (H.2.2.put10 _ _ _ _ _ _ _ _ _ _)) hd ⟨q, rfl, (HO.put10 (by omega) _ _ _ _ _ _ _ _ _ _).mono (by omega), HN, below_put10 H.1 (by omega) _ _ _ _ _ _ _ _ _ _⟩

set_option maxHeartbeats 1000000 in
set_option maxRecDepth 100000 in
theorem fcell_any (c : Ce) (p : Pl) (w : World) (hr : CRow w c p) (hf : Fit c) :
    Calls Tryz.prog 100 #[ceV c p] w fun e w' => ∃ q, e = .returned (ceV c q) ∧ COwn w.heap.size w' c q ∧ Nils c q ∧ Below w.heap.size w w' := by
  have H0 : Hid (Copy0 w w.heap.size c p (((w.alloc (.cells (ceL c p).toArray 30)).alloc (.cells (ceL ce0 pl0).toArray 30)))) := copy0_new w c p 30
  obtain ⟨h, hh⟩ : ∃ h, w.heap.size = h := ⟨_, rfl⟩
  rw [hh] at H0 ⊢
  have HR : Hid (CRow w c p ∧ Fit c) := ⟨hr, hf⟩
  have hv := hf.2.2.2.1
  clear hr hf
  go_enter Tryz.func100, Tryz.ntmps100
  go_wp2_with fail
  refine (clone_any c.val _ (by omega)).mono ?_
  rintro e w1 ⟨rfl, b1⟩
  have H1 : Hid (Copy0 w h c p w1) := H0.out.later b1
  have S1 : Hid (Copy0 w h c p (w1.setCell ⟨h, 4, none⟩ (.string c.val))) := H1.out.set4
  have t7 := H1.out.2.1.at 7 rfl
  have t4 := H1.out.2.1.at 4 rfl
  have y4 := H1.out.2.1.free 4 rfl
  clear b1 H0
  go_wp2_with fail
  refine (fents_any p.eo p.ec c.ents _ (S1.out.row hh HR.out.1).1 HR.out.2.1 HR.out.2.2.2.2.2.1).mono ?_
  rintro e w2 ⟨eo, ec, rfl, o2, n2, b2⟩
  have K2 : Hid (FOwn (h + 2) w2 eo (flatE c.ents) ∧ (c.ents.length = 0 → eo = none ∧ ec = 0)) := ⟨o2.mono S1.out.size, n2⟩
  have H2 : Hid (Copy0 w h c p w2) := S1.out.later b2
  have S2 : Hid (Copy0 w h c { p with eo := eo, ec := ec } (w2.setCell ⟨h, 7, none⟩ (.slice eo c.ents.length ec))) := H2.out.set7 eo ec
  clear t7 t4 y4 b2 n2 o2 H1 S1
  have t7 := H2.out.2.1.at 7 rfl
  have y7 := H2.out.2.1.free 7 rfl
  have t8 := H2.out.2.1.at 8 rfl
  go_wp2_with fail
  refine (felems_any p.lo p.lc c.elems _ (S2.out.row hh HR.out.1).2.1 HR.out.2.2.1 HR.out.2.2.2.2.2.2).mono ?_
  rintro e w3 ⟨lo, lc, rfl, o3, n3, b3⟩
  have K3 : Hid (FOwn (h + 2) w3 eo (flatE c.ents) ∧ FOwn (h + 2) w3 lo (flatL c.elems) ∧ (c.elems.length = 0 → lo = none ∧ lc = 0)) := ⟨(K2.out.1.off (g := h) (by omega) 7 _).later b3, o3.mono S2.out.size, n3⟩
  have H3 : Hid (Copy0 w h c { p with eo := eo, ec := ec } w3) := S2.out.later b3
  have S3 : Hid (Copy0 w h c { p with eo := eo, ec := ec, lo := lo, lc := lc } (w3.setCell ⟨h, 8, none⟩ (.slice lo c.elems.length lc))) := H3.out.set8 lo lc
  clear t7 y7 t8 b3 n3 o3 H2 S2
  have t8 := H3.out.2.1.at 8 rfl
  have y8 := H3.out.2.1.free 8 rfl
  have t9 := H3.out.2.1.at 9 rfl
  go_wp2_with fail
  refine (fints_any p.so p.sc c.seen _ (S3.out.row hh HR.out.1).2.2 HR.out.2.2.2.1).mono ?_
  rintro e w4 ⟨so, sc, rfl, o4, n4, b4⟩
  have H4 : Hid (Copy0 w h c { p with eo := eo, ec := ec, lo := lo, lc := lc } w4) := S3.out.later b4
  have E4 : Hid (COwn (h + 2) (w4.setCell ⟨h, 9, none⟩ (.slice so c.seen.length sc)) c ⟨eo, ec, lo, lc, so, sc⟩ ∧ Nils c ⟨eo, ec, lo, lc, so, sc⟩) :=
    ⟨⟨((K3.out.1.off (g := h) (by omega) 8 _).later b4).off (by omega) 9 _, ((K3.out.2.1.off (g := h) (by omega) 8 _).later b4).off (by omega) 9 _, (o4.mono S3.out.size).off (by omega) 9 _⟩, K2.out.2, K3.out.2.2, n4⟩
  have H5 : Hid (Copy0 w h c ⟨eo, ec, lo, lc, so, sc⟩ (w4.setCell ⟨h, 9, none⟩ (.slice so c.seen.length sc))) := H4.out.set9 so sc
  clear t8 y8 t9 b4 n4 o4 H3 S3
  obtain ⟨t0, t1, t2, t3, t4, t5, t6, t7, t8, t9⟩ := H4.out.2.1.ten
  have y9 := H4.out.2.1.free 9 rfl
  obtain ⟨s0, s1, s2, s3, s4, s5, s6, s7, s8, s9⟩ := H4.out.2.2.ten
  obtain ⟨z0, z1, z2, z3, z4, z5, z6, z7, z8, z9⟩ := H4.out.2.2.tenf
  go_wp2_with fail
  exact fresh_end (q := ⟨eo, ec, lo, lc, so, sc⟩) H5.out E4.out.1 E4.out.2 rfl rfl rfl

end Go.Proofs.YtgkddimijmnpcaaGreatDoor

/-
  Cells, what every layer of cells uses: bare ones; what a call that turns a cell begins with and keeps; what a law keeps in blocks of its own.
-/
namespace Go.Proofs.YtgkddimijmnpcaaGreatDoor
open Go.RowKit
set_option linter.unusedVariables false
set_option linter.unusedSimpArgs false

theorem Has.two {w : World} {g : Nat} {u0 u1 : Value} (h : Has w g [u0, u1]) : w.cell? ⟨g, 0, none⟩ = some u0 ∧ w.cell? ⟨g, 1, none⟩ = some u1 := ⟨h.at 0 rfl, h.at 1 rfl⟩

/-- What a call of Set begins with: the cell, the stamp, room for the answer. -/
def Set3 (w : World) (h : Nat) (c : Ce) (p : Pl) (t n : Int) (w1 : World) : Prop := Below h w w1 ∧ Has w1 h (ceL c p) ∧ Has w1 (h + 1) [.int .i64 t, .int .i64 n] ∧ Has w1 (h + 2) (ceL ce0 pl0)

theorem set3_new (w : World) (c : Ce) (p : Pl) (t n : Int) (t1 t2 t3 : TypeId) : Set3 w w.heap.size c p t n (((w.alloc (.cells (ceL c p).toArray t1)).alloc (.cells #[.int .i64 t, .int .i64 n] t2)).alloc (.cells (ceL ce0 pl0).toArray t3)) := by
  refine ⟨(((Below.refl _ _).alloc (Nat.le_refl _) _).alloc (by simp) _).alloc (by simp; omega) _, ((has_new _ _ _).alloc _).alloc _, ?_, ?_⟩
  · have := (has_new (w.alloc (.cells (ceL c p).toArray t1)) [.int .i64 t, .int .i64 n] t2).alloc (.cells (ceL ce0 pl0).toArray t3)
    simpa using this
  · have := has_new ((w.alloc (.cells (ceL c p).toArray t1)).alloc (.cells #[.int .i64 t, .int .i64 n] t2)) (ceL ce0 pl0) t3
    simpa using this

theorem Set3.size {w w1 : World} {h : Nat} {c : Ce} {p : Pl} {t n : Int} (H : Set3 w h c p t n w1) : h + 3 ≤ w1.heap.size := by have := H.2.2.2.1; omega

theorem Set3.later {w w1 w2 : World} {h : Nat} {c : Ce} {p : Pl} {t n : Int} (H : Set3 w h c p t n w1) (hb : Below w1.heap.size w1 w2) : Set3 w h c p t n w2 :=
  ⟨H.1.trans (hb.mono (by have := H.size; omega)), H.2.1.later hb, H.2.2.1.later hb, H.2.2.2.later hb⟩

/-- What Set keeps once the copy is made: the answer to be lies in block k. -/
def Set4 (w1 : World) (k : Nat) (d : Ce) (q : Pl) (w2 : World) : Prop := Below k w1 w2 ∧ Has w2 k (ceL d q)

theorem Set4.later {w1 w2 w3 : World} {k : Nat} {d : Ce} {q : Pl} (H : Set4 w1 k d q w2) (hb : Below w2.heap.size w2 w3) : Set4 w1 k d q w3 := ⟨H.1.trans (hb.mono (by have := H.2.1; omega)), H.2.later hb⟩

theorem set4_new {w1 : World} {k : Nat} (hk : w1.heap.size = k) (c : Ce) (q : Pl) (t1 : TypeId) : Set4 w1 k c q (w1.alloc (.cells (ceL c q).toArray t1)) := by
  subst hk
  exact ⟨(Below.refl _ _).alloc (Nat.le_refl _) _, has_new _ _ _⟩

/-- What the document's Set keeps once the copy is made. -/
def RSt (w : World) (h : Nat) (c : Ce) (q : Pl) (W : World) : Prop := Below h w W ∧ Has W (h + 2) (ceL ce0 pl0) ∧ COwn (h + 3) W c q

theorem RSt.set {w W : World} {h : Nat} {c : Ce} {q : Pl} (H : RSt w h c q W) (o : Nat) (v : Value) : RSt w h c q (W.setCell ⟨h, o, none⟩ v) :=
  ⟨H.1.setCell (p := ⟨h, o, none⟩) (Nat.le_refl _) _, H.2.1.other (by omega) _ _, H.2.2.off (by omega) _ _⟩

theorem RSt.put {w W : World} {h : Nat} {c : Ce} {q : Pl} (H : RSt w h c q W) (u0 u1 u2 u3 u4 u5 u6 u7 u8 u9 : Value) : RSt w h c q (put10 W h u0 u1 u2 u3 u4 u5 u6 u7 u8 u9) :=
  (((((((((H.set 0 u0).set 1 u1).set 2 u2).set 3 u3).set 4 u4).set 5 u5).set 6 u6).set 7 u7).set 8 u8).set 9 u9

theorem RSt.later {w W W2 : World} {h : Nat} {c : Ce} {q : Pl} (H : RSt w h c q W) (hb : Below W.heap.size W W2) : RSt w h c q W2 :=
  ⟨H.1.trans (hb.mono (by have := H.2.1.1; omega)), H.2.1.later hb, H.2.2.later hb⟩

theorem Set3.copied {w w2 : World} {h : Nat} {c : Ce} {p q : Pl} {t n : Int} (H : Set3 w h c p t n w2) : Set3 w h c q t n (put10 w2 h (.int .i64 c.kind) (.bool c.set) (.int .i64 c.time) (.int .i64 c.node) (.string c.val) (.int .i64 c.re) (.int .i64 c.im) (.slice q.eo c.ents.length q.ec) (.slice q.lo c.elems.length q.lc) (.slice q.so c.seen.length q.sc)) := by
  refine ⟨below_put10 H.1 (Nat.le_refl _) _ _ _ _ _ _ _ _ _ _, H.2.1.put10 _ _ _ _ _ _ _ _ _ _, ?_, ?_⟩
  · repeat apply Has.other (hk := by omega)
    exact H.2.2.1
  · repeat apply Has.other (hk := by omega)
    exact H.2.2.2

theorem fit_bare {c : Ce} (h1 : c.ents = []) (h2 : c.elems = []) (h3 : c.seen.length ≤ 1000) (h4 : c.val.size ≤ 1000000) : Fit c := by
  refine ⟨by rw [h1]; simp, by rw [h2]; simp, by omega, by omega, fun i x hx => ?_, fun i x hx => ?_⟩
  · rw [h1] at hx; simp at hx
  · rw [h2] at hx; simp at hx

theorem fit_none : Fit ce0 := fit_bare rfl rfl (by decide) (by decide)

theorem row_none (w : World) : CRow w ce0 pl0 := ⟨FRow.nil _ _, FRow.nil _ _, FRow.nil _ _⟩

theorem own_none0 (B : Nat) (w : World) : COwn B w ce0 pl0 := ⟨FOwn.nil _ _ _, FOwn.nil _ _ _, FOwn.nil _ _ _⟩

/-- The cell of nothing but a kind. -/
abbrev zl (k : Int) : List Value := [.int .i64 k, .bool false, .int .i64 0, .int .i64 0, .string ⟨#[]⟩, .int .i64 0, .int .i64 0, .slice none 0 0, .slice none 0 0, .slice none 0 0]

abbrev zv (k : Int) : Value := .agg #[.int .i64 k, .bool false, .int .i64 0, .int .i64 0, .string ⟨#[]⟩, .int .i64 0, .int .i64 0, .slice none 0 0, .slice none 0 0, .slice none 0 0]

theorem nils_all {c : Ce} {q : Pl} (h1 : c.ents.length = 0) (h2 : c.elems.length = 0) (h3 : c.seen.length = 0) (h : Nils c q) : q = pl0 := by
  obtain ⟨eo, ec, lo, lc, so, sc⟩ := q
  obtain ⟨a, b⟩ := h.1 h1
  obtain ⟨a', b'⟩ := h.2.1 h2
  obtain ⟨a'', b''⟩ := h.2.2 h3
  simp only at a b a' b' a'' b''
  subst a b a' b' a'' b''
  rfl

theorem bare_row (w : World) {c : Ce} (h1 : c.ents = []) (h2 : c.elems = []) (h3 : c.seen = []) (q : Pl) : CRow w c q := ⟨by rw [h1]; exact FRow.nil _ _, by rw [h2]; exact FRow.nil _ _, by rw [h3]; exact FRow.nil _ _⟩

theorem same_none (w : World) :
    Calls Tryz.prog 17 #[zv 0, zv 0] w fun e w' => e = .returned (.bool true) ∧ Below w.heap.size w w' :=
  sameCell_any ce0 pl0 pl0 w (bare_row w rfl rfl rfl _) (bare_row w rfl rfl rfl _) (fit_bare rfl rfl (by decide) (by decide))

/-- The blocks of the list hold its cells, and nothing below h has turned. -/
def Regs (h : Nat) (w w1 : World) : List (Nat × List Value) → Prop
  | [] => Below h w w1 ∧ h ≤ w1.heap.size
  | e :: L => Has w1 e.1 e.2 ∧ Regs h w w1 L

theorem Regs.base {h : Nat} {w w1 : World} {L : List (Nat × List Value)} (H : Regs h w w1 L) : Below h w w1 ∧ h ≤ w1.heap.size := by
  induction L with
  | nil => exact H
  | cons e L ih => exact ih H.2

theorem Regs.later {h : Nat} {w w1 w2 : World} {L : List (Nat × List Value)} (H : Regs h w w1 L) (hb : Below w1.heap.size w1 w2) : Regs h w w2 L := by
  induction L with
  | nil => exact ⟨H.1.trans (hb.mono H.2), Nat.le_trans H.2 hb.size⟩
  | cons e L ih => exact ⟨H.1.later hb, ih H.2⟩

theorem Regs.push {h : Nat} {w w1 : World} {L : List (Nat × List Value)} (H : Regs h w w1 L) {g : Nat} (hg : w1.heap.size = g) (xs : List Value) (t : TypeId) : Regs h w (w1.alloc (.cells xs.toArray t)) ((g, xs) :: L) :=
  ⟨hg ▸ has_new w1 xs t, H.later ((Below.refl _ _).alloc (Nat.le_refl _) _)⟩

/-- What the law begins with. -/
def L2 (w : World) (h : Nat) (c : Ce) (p : Pl) (t n : Int) (w1 : World) : Prop := Below h w w1 ∧ Has w1 h (ceL c p) ∧ Has w1 (h + 1) [.int .i64 t, .int .i64 n]

theorem L2.size {w w1 : World} {h : Nat} {c : Ce} {p : Pl} {t n : Int} (H : L2 w h c p t n w1) : h + 2 ≤ w1.heap.size := by have := H.2.2.1; omega

theorem l2_new (w : World) (c : Ce) (p : Pl) (t n : Int) (t1 t2 : TypeId) : L2 w w.heap.size c p t n ((w.alloc (.cells (ceL c p).toArray t1)).alloc (.cells #[.int .i64 t, .int .i64 n] t2)) := by
  refine ⟨((Below.refl _ _).alloc (Nat.le_refl _) _).alloc (by simp) _, (has_new _ _ _).alloc _, ?_⟩
  have := has_new (w.alloc (.cells (ceL c p).toArray t1)) [.int .i64 t, .int .i64 n] t2
  simpa using this

theorem L2.later {w w1 w2 : World} {h : Nat} {c : Ce} {p : Pl} {t n : Int} (H : L2 w h c p t n w1) (hb : Below w1.heap.size w1 w2) : L2 w h c p t n w2 :=
  ⟨H.1.trans (hb.mono (by have := H.size; omega)), H.2.1.later hb, H.2.2.later hb⟩

end Go.Proofs.YtgkddimijmnpcaaGreatDoor

/-
  A whole value is read out of its block in one step: cells of fields, elements, entries.
-/
namespace Go.Proofs.YtgkddimijmnpcaaGreatDoor
open Go.RowKit
set_option linter.unusedVariables false
set_option linter.unusedSimpArgs false

theorem Tryz.infoCe : (Tryz.prog.info? 30).map (·.size) = some 10 := by kernel_rfl
theorem Tryz.infoL5 : (Tryz.prog.info? 59).map (·.size) = some 5 := by kernel_rfl
theorem Tryz.infoE3 : (Tryz.prog.info? 62).map (·.size) = some 3 := by kernel_rfl
/-- Read in one step. -/
abbrev LdT (T : TypeId) (W : World) (g : Nat) (v : Value) : Prop := (Instr.loadAt T (.pointer (some ⟨g, 0, none⟩))).run Tryz.prog W = .ok v W
theorem ld_ce {W : World} {g : Nat} {c : Ce} {p : Pl} (h : Has W g (ceL c p)) : LdT 30 W g (ceV c p) :=
  run_loadAt_mid W g 0 30 (ceL c p) _ (fun j v hv => by rw [Nat.zero_add]; exact h.at j hv) Tryz.underlying30 rfl Tryz.infoCe
theorem ld_l5 {W : World} {g : Nat} {x : L5} (h : Has W g (l5 x)) : LdT 59 W g (.agg #[.int .i64 x.node, .int .i64 x.seq, .int .i64 x.time, .string x.val, .bool x.gone]) :=
  run_loadAt_mid W g 0 59 (l5 x) _ (fun j v hv => by rw [Nat.zero_add]; exact h.at j hv) Tryz.underlying59 rfl Tryz.infoL5
theorem ld_ceM {B : Nat} {W : World} {g : Nat} {c : Ce} {p : Pl} (h : Has W g (ceL c p)) (hg : g < B) (r : MW B W) : LdT 30 r.w g (ceV c p) := ld_ce (h.under hg r.h.1)

theorem exec_ldt {T : TypeId} {op : Oper} {a : Act} {W : World} {x : Operand} {g : Nat} {v : Value} (hl : LdT T W g v) (ho : op.op = .load T x) (hx : a.eval x = .pointer (some ⟨g, 0, none⟩)) : (execOp a.eval op).run Tryz.prog W = .ok (.value v) W := by
  unfold execOp
  simp only [ho, hx, Sem.run_bind, Sem.run_pure, Result.andThen_ok, hl]
/-- At a list of operations. -/
theorem wpList_ldt {T : TypeId} {ops : Array Oper} {rest : List Oper} {op : Oper} {a : Act} {W : World} {Q : Exit → Act → World → Prop} {x : Operand} {g : Nat} {v : Value} (hl : LdT T W g v) (hw : Region.wanted op (yielded ops a.tmps) = true) (ho : op.op = .load T x) (hx : a.eval x = .pointer (some ⟨g, 0, none⟩))
    (h : wpList Tryz.prog ops Q rest (a.put op.dst v) W) : wpList Tryz.prog ops Q (op :: rest) a W :=
  BigFrame.wpList_want hw fun K hK => by
    unfold Oper.wp
    rw [exec_ldt hl ho hx]
    exact hK _ _ h
/-- In a region that draws its order. -/
theorem wpQuiet_ldt {T : TypeId} {ops : Array Oper} {rest : List Oper} {op : Oper} {a : Act} {C : World → Prop} {Q : Act → Prop} {x : Operand} {g : Nat} {v : Value} (hl : ∀ w, C w → LdT T w g v) (hw : Region.wanted op (yielded ops a.tmps) = true) (ho : op.op = .load T x) (hx : a.eval x = .pointer (some ⟨g, 0, none⟩))
    (h : wpQuiet Tryz.prog ops C Q rest (a.put op.dst v)) : wpQuiet Tryz.prog ops C Q (op :: rest) a :=
  BigFrame.wpQuiet_want hw fun K hK => ⟨v, fun w hC => by
    unfold Oper.quietAt
    rw [exec_ldt (hl w hC) ho hx]
    exact ⟨rfl, rfl⟩, hK _ h⟩
/-- .. of the worlds that stand above one. -/
theorem ldc_mild {B : Nat} {W : World} {g : Nat} {c : Ce} {p : Pl} (h : Has W g (ceL c p)) (hg : g < B) : ∀ w, (∃ r : MW B W, w = r.w) → LdT 30 w g (ceV c p) := fun w ⟨r, e⟩ => e ▸ ld_ceM h hg r

end Go.Proofs.YtgkddimijmnpcaaGreatDoor

/-
  Rows of the call's own, of whatever width: one row appended behind another; how they stay; as cells.
-/
namespace Go.Proofs.YtgkddimijmnpcaaGreatDoor
open Go.RowKit
set_option linter.unusedVariables false
set_option linter.unusedSimpArgs false

theorem own_later {B : Nat} {e : TypeId} {k : Nat} {v : Value} {n : Nat} {xs : List Value} {w w' : World} (h : w.ownsRow B e k v n xs) (hb : Below w.heap.size w w') : w'.ownsRow B e k v n xs :=
  h.kept (row := none) ⟨hb.os, hb.tape, hb.output, hb.size, fun j hj _ => hb.block j hj⟩ (by cases hv : v.ownBlock <;> simp)

theorem own_mono {B C : Nat} {e : TypeId} {k : Nat} {v : Value} {n : Nat} {xs : List Value} {w : World} (h : w.ownsRow B e k v n xs) (hC : C ≤ B) : w.ownsRow C e k v n xs := by
  refine ⟨h.1, ?_⟩
  rcases h.2 with h2 | ⟨g, cap, cur, hv, hg, r⟩
  · exact Or.inl h2
  · exact Or.inr ⟨g, cap, cur, hv, Nat.le_trans hC hg, r⟩

/-- It stays while only what lies from C on turns, its own block below C. -/
theorem own_under {B C : Nat} {e : TypeId} {k : Nat} {v : Value} {n : Nat} {xs : List Value} {w w' : World} (h : w.ownsRow B e k v n xs) (hg : ∀ g, v.ownBlock = some g → g < C) (hb : Below C w w') : w'.ownsRow B e k v n xs := by
  refine ⟨h.1, ?_⟩
  rcases h.2 with h2 | ⟨g, cap, cur, hv, h3, h4, r⟩
  · exact Or.inl h2
  · exact Or.inr ⟨g, cap, cur, hv, h3, by rw [hb.block g (hg g (by rw [hv]; rfl))]; exact h4, r⟩

theorem own_row {B : Nat} {e : TypeId} {s n c : Nat} {ao : Option Addr} {xs : List Value} {w : World} (h : w.ownsRow B e s (.slice ao n c) n xs) : FOwn B w ao xs := by
  rcases h.2 with ⟨h1, h2⟩ | ⟨g, cap, cur, h1, _⟩
  · have : xs.length = 0 := by rw [h.1, h2, Nat.zero_mul]
    exact fun h0 => by omega
  · simp only [Value.slice.injEq] at h1
    obtain ⟨rfl, _, rfl⟩ := h1
    exact fown_at h

theorem own_cap {B : Nat} {e : TypeId} {s n c : Nat} {ao : Option Addr} {xs : List Value} {w : World} (h : w.ownsRow B e s (.slice ao n c) n xs) : n ≤ c ∧ c ≤ maxLen := by
  rcases h.2 with ⟨h1, h2⟩ | ⟨g, cap, cur, h1, _, _, h3, h4, _⟩
  · simp only [Value.slice.injEq] at h1
    obtain ⟨_, _, rfl⟩ := h1
    subst h2
    exact ⟨Nat.le_refl _, Nat.zero_le _⟩
  · simp only [Value.slice.injEq] at h1
    obtain ⟨_, _, rfl⟩ := h1
    exact ⟨h3, h4⟩

theorem gb_refl (w : World) (row : Option Nat) : w.grownBy w row := ⟨rfl, rfl, rfl, Nat.le_refl _, fun _ _ _ => rfl⟩
theorem gb_trans {a b c : World} {row : Option Nat} (h : a.grownBy b row) (k : b.grownBy c row) : a.grownBy c row :=
  ⟨k.os.trans h.os, k.tape.trans h.tape, k.output.trans h.output, Nat.le_trans h.size k.size, fun i hi hne => (k.block i (Nat.lt_of_lt_of_le hi h.size) hne).trans (h.block i hi hne)⟩
theorem gb_below {w w' : World} (h : Below w.heap.size w w') (row : Option Nat) : w.grownBy w' row := ⟨h.os, h.tape, h.output, h.size, fun i hi _ => h.block i hi⟩
theorem gb_drew {a w : World} {row : Option Nat} (h : a.grownBy w row) : a.grownBy w.drew row := ⟨h.os, h.tape, h.output, h.size, h.block⟩
theorem gb_set {a w : World} {g : Nat} (h : a.grownBy w (some g)) (o : Nat) (v : Value) : a.grownBy (w.setCell ⟨g, o, none⟩ v) (some g) :=
  gb_trans h ⟨rfl, rfl, rfl, by simp, fun i hi hne => Below.heap_setCell _ _ _ _ (fun e => hne (by rw [e]))⟩
theorem gb_to {B : Nat} {w w' : World} {row : Option Nat} (h : w.grownBy w' row) (hB : B ≤ w.heap.size) (hr : ∀ k, row = some k → B ≤ k) : Below B w w' := (Below.refl _ _).grown h hB hr
/-- A block that is not the row's stays. -/
theorem gb_has {w w' : World} {row : Option Nat} {g : Nat} {xs : List Value} (h : w.grownBy w' row) (H : Has w g xs) (hne : some g ≠ row) : Has w' g xs :=
  ⟨Nat.lt_of_lt_of_le H.1 h.size, fun i u hu => ⟨(World.cell?_of_block (a := ⟨g, i, none⟩) (h.block g H.1 hne)).trans (H.2 i u hu).1, (World.frozen?_of_block (a := ⟨g, i, none⟩) (h.block g H.1 hne)).trans (H.2 i u hu).2⟩⟩

theorem own_nil (w : World) (B : Nat) (e : TypeId) (s : Nat) : w.ownsRow B e s (.slice none 0 0) 0 [] := ⟨by simp, Or.inl ⟨rfl, rfl⟩⟩

theorem frow_new (w : World) (xs : List Value) (t : TypeId) : FRow (w.alloc (.cells xs.toArray t)) (some ⟨w.heap.size, 0, none⟩) xs := fun _ =>
  ⟨w.heap.size, 0, rfl, by simp, fun i u hu => by rw [World.cell?_alloc_at _ _ _ _ rfl, Nat.zero_add]; simpa using hu⟩

theorem frow_newAt {w : World} {k : Nat} (hk : w.heap.size = k) (xs : List Value) (t : TypeId) : FRow (w.alloc (.cells xs.toArray t)) (some ⟨k, 0, none⟩) xs := hk ▸ frow_new w xs t

theorem run_append_zero {P : Program} (w : World) (t ty e : TypeId) (i : TypeInfo) (ht : P.underlying t = some (.slice e)) (hi : P.info? e = some i) (ao bo : Option Addr) (n c cap : Nat) (hc : n ≤ c) (hnil : ao = none → n = 0) :
    (Builtin.append_ #[t, t] ty #[.slice ao n c, .slice bo 0 cap]).run P w = .ok (.slice ao n c) w := by
  cases ao with
  | none =>
    have := hnil rfl
    subst this
    cases bo <;> simp [Builtin.append_, run_underlying ht, sizeOf, typeInfo, hi, Builtin.lenOf, Builtin.firstCells, loadCells, storeCells, loadCellsFrom]
  | some a => cases bo <;> simp [Builtin.append_, run_underlying ht, sizeOf, typeInfo, hi, Builtin.lenOf, Builtin.firstCells, loadCells, hc, storeCells, loadCellsFrom]

/-- 'append(own, m...)'; what may have turned. -/
theorem wpList_ontoG {P : Program} {ops : Array Oper} {rest : List Oper} {o : Oper} {a : Act} {Q : Exit → Act → World → Prop} (hgd : o.guard = none) (s x : Operand) (t : TypeId)
    (ho : o.op = .call { callee := .builtin .append, args := #[s, x], argTypes := #[t, t] })
    {e : TypeId} {size bytes : Nat} {z : Value} (ht : P.underlying t = some (.slice e)) (hinfo : (P.info? e).map (fun i => (i.zero, i.size, i.bytes)) = some (some z, size, bytes)) (hzs : z.cells.size = size) (hsz : 0 < size) (hby : 0 < bytes)
    {B n k : Nat} {bo ao : Option Addr} {cb cap : Nat} {xs news : List Value} {wr : World}
    (hs : a.eval s = .slice bo n cb) (hx : a.eval x = .slice ao k cap)
    (hown : wr.ownsRow B e size (.slice bo n cb) n xs) (hrow : FRow wr ao news) (hl : news.length = k * size) (hone : ∀ u ∈ news, u.oneCell' = true) (hlen : (n + k) * bytes ≤ 140737488355328) (hB : B ≤ wr.heap.size)
    (h : ∀ ao' cap' w', w'.ownsRow B e size (.slice ao' (n + k) cap') (n + k) (xs ++ news) → (bo = none → k = 0 → ao' = none ∧ cap' = 0) → Below B wr w' → wr.grownBy w' (Value.slice bo n cb).ownBlock → (∀ b, ao' = some ⟨b, 0, none⟩ → (Value.slice bo n cb).ownBlock = some b ∨ wr.heap.size ≤ b) → wpList P ops Q rest (a.put o.dst (.slice ao' (n + k) cap')) w') :
    wpList P ops Q (o :: rest) a wr := by
  obtain ⟨i0, hi, hz0, hz1, hz2⟩ := info_parts hinfo
  have hnn : n + k ≤ (n + k) * bytes := Nat.le_mul_of_pos_right _ hby
  have hcap := own_cap hown
  have hnil : bo = none → n = 0 ∧ cb = 0 := fun hb => by
    subst hb
    rcases hown.2 with ⟨h1, h2⟩ | ⟨g, cap, cur, h1, _⟩
    · simp only [Value.slice.injEq] at h1
      exact ⟨h2, h1.2.2⟩
    · simp at h1
  by_cases h0 : 0 < k
  · have hn0 : 0 < news.length := by rw [hl]; exact Nat.mul_pos h0 hsz
    obtain ⟨b, off, rfl, _, hc⟩ := hrow hn0
    refine wpList_append_lies _ hgd s x t ho B e i0 z size bytes ht hi hz0 hz1 hz2 hzs hsz _ n xs hs hown ⟨b, off, none⟩ k cap news hx hl (fun j u hj => by rw [add_off]; exact hc j u hj) hone h0 ?_ hlen hB _ rfl ?_
    · unfold maxLen; omega
    · intro g' c' w' hown' hgrow hor _
      refine h _ _ w' hown' (fun _ h1 => by omega) (below_grownS hown hB hgrow) hgrow fun b hb => ?_
      simp only [Option.some.injEq, Addr.mk.injEq, and_true] at hb
      subst hb
      rcases hor with e | e
      · exact Or.inl e
      · exact Or.inr (by omega)
  · have hk : k = 0 := by omega
    subst hk
    have hm : news = [] := List.eq_nil_of_length_eq_zero (by omega)
    subst hm
    have h' := h bo cb wr (by simpa using hown) (fun hb _ => ⟨hb, (hnil hb).2⟩) (Below.refl _ _) (gb_refl _ _) (fun b hb => Or.inl (by rw [hb]; rfl))
    rw [Nat.add_zero] at h'
    refine wpList_plain hgd fun K hK => ?_
    unfold Oper.wp execOp
    have hr := run_append_zero wr t o.type e i0 ht hi bo ao n cb cap hcap.1 (fun hb => (hnil hb).1)
    simp only [ho, resolve, invoke, builtin, Sem.run_bind, Sem.run_pure, Result.andThen_ok, List.map_toArray, List.map_cons, List.map_nil, hs, hx, hr]
    exact hK _ _ h'

/-- 'append(own, m...)'. -/
theorem wpList_onto {P : Program} {ops : Array Oper} {rest : List Oper} {o : Oper} {a : Act} {Q : Exit → Act → World → Prop} (hgd : o.guard = none) (s x : Operand) (t : TypeId)
    (ho : o.op = .call { callee := .builtin .append, args := #[s, x], argTypes := #[t, t] })
    {e : TypeId} {size bytes : Nat} {z : Value} (ht : P.underlying t = some (.slice e)) (hinfo : (P.info? e).map (fun i => (i.zero, i.size, i.bytes)) = some (some z, size, bytes)) (hzs : z.cells.size = size) (hsz : 0 < size) (hby : 0 < bytes)
    {B n k : Nat} {bo ao : Option Addr} {cb cap : Nat} {xs news : List Value} {wr : World}
    (hs : a.eval s = .slice bo n cb) (hx : a.eval x = .slice ao k cap)
    (hown : wr.ownsRow B e size (.slice bo n cb) n xs) (hrow : FRow wr ao news) (hl : news.length = k * size) (hone : ∀ u ∈ news, u.oneCell' = true) (hlen : (n + k) * bytes ≤ 140737488355328) (hB : B ≤ wr.heap.size)
    (h : ∀ ao' cap' w', w'.ownsRow B e size (.slice ao' (n + k) cap') (n + k) (xs ++ news) → (bo = none → k = 0 → ao' = none ∧ cap' = 0) → Below B wr w' → wpList P ops Q rest (a.put o.dst (.slice ao' (n + k) cap')) w') :
    wpList P ops Q (o :: rest) a wr :=
  wpList_ontoG hgd s x t ho ht hinfo hzs hsz hby hs hx hown hrow hl hone hlen hB fun ao' cap' w' h1 h2 h3 _ _ => h ao' cap' w' h1 h2 h3

end Go.Proofs.YtgkddimijmnpcaaGreatDoor

/-
  The order of dots: package order's Dots, by cmp.Compare; the document's DotLess. Rows of dots.
-/
namespace Go.Proofs.YtgkddimijmnpcaaGreatDoor
open Go.RowKit
set_option linter.unusedVariables false
set_option linter.unusedSimpArgs false

abbrev D2 := Int × Int
abbrev d2 (p : D2) : List Value := [.int .i64 p.1, .int .i64 p.2]
abbrev dv (p : D2) : Value := .agg #[.int .i64 p.1, .int .i64 p.2]
def flatD (l : List D2) : List Value := l.flatMap d2

theorem flatD_len (l : List D2) : (flatD l).length = l.length * 2 := flat_len d2 2 (fun _ => rfl) l
theorem flatD_at (l : List D2) (i : Nat) {p : D2} (h : l[i]? = some p) : (flatD l)[i * 2]? = some (.int .i64 p.1) ∧ (flatD l)[i * 2 + 1]? = some (.int .i64 p.2) :=
  ⟨flat_get d2 2 (fun _ => rfl) l i 0 (by omega) h, flat_get d2 2 (fun _ => rfl) l i 1 (by omega) h⟩
theorem flatD_append (l m : List D2) : flatD (l ++ m) = flatD l ++ flatD m := by simp [flatD]
theorem oneD {l : List D2} {u : Value} (h : u ∈ flatD l) : u.oneCell' = true := by
  simp only [flatD, d2, List.mem_flatMap, List.mem_cons, List.not_mem_nil, or_false] at h
  obtain ⟨p, _, rfl | rfl⟩ := h <;> rfl

theorem Tryz.infoDot : (Tryz.prog.info? 32).map (fun i => (i.zero, i.size, i.bytes)) = some (some (.agg #[.int .i64 0, .int .i64 0]), 2, 16) := by kernel_rfl

/-- Which of two numbers comes first. -/
def cmpI (x y : Int) : Int := if x < y then -1 else if y < x then 1 else 0
/-- Which of two dots comes first. -/
def cmpD (a b : D2) : Int := if cmpI a.1 b.1 = 0 then cmpI a.2 b.2 else cmpI a.1 b.1

set_option maxHeartbeats 400000 in
theorem nan_any (x : Int) (w : World) :
    Calls Tryz.prog 172 #[.int .i64 x] w fun e w' => e = .returned (.bool false) ∧ w' = w := by
  have hd : (x != x) = false := by simp
  go_enter Tryz.func172, Tryz.ntmps172
  go_wp2
  go_ret
  exact ⟨rfl, rfl⟩

set_option maxHeartbeats 400000 in
theorem cmp_any (x y : Int) (w : World) :
    Calls Tryz.prog 145 #[.int .i64 x, .int .i64 y] w fun e w' => e = .returned (.int .i64 (cmpI x y)) ∧ w' = w := by
  go_enter Tryz.func145, Tryz.ntmps145
  go_wp2_with (go_at_call 172; refine (nan_any _ _).mono ?_; rintro e w1 ⟨rfl, rfl⟩)
  all_goals go_ret
  all_goals (refine ⟨?_, rfl⟩; unfold cmpI; repeat' split)
  all_goals first | rfl | (exfalso; omega)

set_option maxHeartbeats 400000 in
/-- order.Dots: two blocks for its arguments, nothing else. -/
theorem odots_any (a b : D2) (w : World) :
    Calls Tryz.prog 108 #[dv a, dv b] w fun e w' => e = .returned (.int .i64 (cmpD a b)) ∧ w' = (w.alloc (.cells #[.int .i64 a.1, .int .i64 a.2] 32)).alloc (.cells #[.int .i64 b.1, .int .i64 b.2] 32) := by
  by_cases h : cmpI a.1 b.1 = 0
  · have e : cmpD a b = cmpI a.2 b.2 := by unfold cmpD; rw [if_pos h]
    rw [e]
    have h2 : (cmpI a.1 b.1 != 0) = false := by simpa using h
    clear h e
    go_enter Tryz.func108, Tryz.ntmps108
    go_wp2_with (go_at_call 145; refine (cmp_any _ _ _).mono ?_; rintro e w1 ⟨rfl, rfl⟩)
    go_ret
    exact ⟨rfl, rfl⟩
  · have e : cmpD a b = cmpI a.1 b.1 := by unfold cmpD; rw [if_neg h]
    rw [e]
    have h2 : (cmpI a.1 b.1 != 0) = true := by simpa using h
    clear h e
    go_enter Tryz.func108, Tryz.ntmps108
    go_wp2_with (go_at_call 145; refine (cmp_any _ _ _).mono ?_; rintro e w1 ⟨rfl, rfl⟩)
    go_ret
    exact ⟨rfl, rfl⟩

theorem odots_below (a b : D2) (w : World) :
    Calls Tryz.prog 108 #[dv a, dv b] w fun e w' => e = .returned (.int .i64 (cmpD a b)) ∧ Below w.heap.size w w' := by
  refine (odots_any a b w).mono ?_
  rintro e w' ⟨rfl, rfl⟩
  exact ⟨rfl, ((Below.refl _ _).alloc (Nat.le_refl _) _).alloc (by simp) _⟩

/-- Does the one stand ahead of the other? -/
def ltD (a b : D2) : Bool := decide (a.1 < b.1 ∨ a.1 = b.1 ∧ a.2 < b.2)

theorem cmpD_neg (a b : D2) : cmpD a b < 0 ↔ ltD a b = true := by
  unfold cmpD cmpI ltD
  simp only [decide_eq_true_eq]
  repeat' split
  all_goals omega

theorem cmpD_pos (a b : D2) : 0 < cmpD a b ↔ ltD b a = true := by
  unfold cmpD cmpI ltD
  simp only [decide_eq_true_eq]
  repeat' split
  all_goals omega

theorem cmpD_zero (a b : D2) : cmpD a b = 0 ↔ a = b := by
  obtain ⟨a1, a2⟩ := a
  obtain ⟨b1, b2⟩ := b
  simp only [Prod.mk.injEq]
  unfold cmpD cmpI
  simp only
  repeat' split
  all_goals omega

set_option maxHeartbeats 400000 in
theorem dotLess_any (a b : D2) (w : World) :
    Calls Tryz.prog 91 #[dv a, dv b] w fun e w' => e = .returned (.bool (ltD a b)) ∧ Below w.heap.size w w' := by
  go_enter Tryz.func91, Tryz.ntmps91
  go_wp2
  all_goals (go_ret; exact ⟨ret_bool (by unfold ltD; rw [Bool.eq_iff_iff]; simp; omega), ((Below.refl _ _).alloc (Nat.le_refl _) _).alloc (by simp) _⟩)

end Go.Proofs.YtgkddimijmnpcaaGreatDoor

/-
  Looking through a row of entries: slices.IndexFunc and slices.ContainsFunc at a predicate; package orset's has and placeOf.
-/
namespace Go.Proofs.YtgkddimijmnpcaaGreatDoor
open Go.RowKit Go.Shelf
set_option linter.unusedVariables false
set_option linter.unusedSimpArgs false

abbrev ev (x : E3) : Value := .agg #[.int .i64 x.node, .int .i64 x.seq, .string x.val]
/-- An entry's dot. -/
abbrev dotE (x : E3) : D2 := (x.node, x.seq)

/-- What a predicate answers wherever all that lay below B lies still. -/
def Pred (B : Nat) (w : World) (g : Nat) (lb : Array Value) (p : E3 → Bool) : Prop :=
  ∀ (W : World) (x : E3), Below B w W → B ≤ W.heap.size → Calls Tryz.prog g (#[ev x] ++ lb) W fun e w' => e = .returned (.bool (p x)) ∧ Below W.heap.size W w'

/-- The first place at which p holds; -1: there is none. -/
def Place (p : E3 → Bool) (l : List E3) (r : Int) : Prop :=
  (r = -1 ∧ ∀ (j : Nat) x, l[j]? = some x → p x = false) ∨ ∃ i : Nat, r = (i : Int) ∧ i < l.length ∧ (∃ x, l[i]? = some x ∧ p x = true) ∧ ∀ (j : Nat) x, j < i → l[j]? = some x → p x = false

set_option maxHeartbeats 1000000 in
set_option maxRecDepth 100000 in
theorem index_any (p : E3 → Bool) (g : Nat) (lb : Array Value) (eg : ∀ args w, (callFunc g args).run Tryz.prog w = .ok (.enter g args) w) (B : Nat) (ao : Option Addr) (ca : Nat) (l : List E3) (w : World) (hr : FRow w ao (flatE l)) (hl : l.length ≤ maxLen) (hB : B ≤ w.heap.size) (hp : Pred B w g lb p) :
    Calls Tryz.prog 146 #[.slice ao l.length ca, .func (.func g) #[] lb] w fun e w' => ∃ r : Int, e = .returned (.int .i64 r) ∧ Place p l r ∧ Below w.heap.size w w' := by
  have HR : Hid (FRow w ao (flatE l) ∧ Pred B w g lb p ∧ B ≤ w.heap.size) := ⟨hr, hp, hB⟩
  clear hr hp hB
  unfold maxLen at hl
  go_enter Tryz.func146, Tryz.ntmps146
  go_wp2
  go_loopg [5, 8] l.length (fun n _ iv wr => ∃ i : Nat, i + n = l.length ∧ iv = .int .i64 i ∧ Below w.heap.size w wr ∧ Hid (∀ (j : Nat) x, j < i → l[j]? = some x → p x = false))
  case atStart => exact ⟨0, by omega, rfl, Below.refl _ _, fun j x hj => by omega⟩
  case round =>
    obtain ⟨i, hin, rfl, hbel, HA⟩ := hrel
    by_cases hi : i < l.length
    · obtain ⟨bk, off, rfl, hb, hc⟩ := HR.out.1 (by rw [flatE_len]; omega)
      obtain ⟨x, hx⟩ : ∃ x, l[i]? = some x := ⟨_, List.getElem?_eq_getElem hi⟩
      obtain ⟨g0, g1, g2⟩ := flatE_at l i hx
      have k0 := (hbel.cell (p := ⟨bk, off + i * 3, none⟩) (by exact hb)).trans (hc _ _ g0)
      have k1 := (hbel.cell (p := ⟨bk, off + i * 3 + 1, none⟩) (by exact hb)).trans (hc _ _ g1)
      have k2 := (hbel.cell (p := ⟨bk, off + i * 3 + 2, none⟩) (by exact hb)).trans (hc _ _ g2)
      have C := HR.out.2.1 wr x (hbel.mono HR.out.2.2) (Nat.le_trans HR.out.2.2 hbel.size)
      have HX : Hid (l[i]? = some x) := hx
      have HBel : Hid (Below w.heap.size w wr) := hbel
      clear hc hx g0 g1 g2 hbel
      cases hq : p x with
      | true =>
        rw [hq] at C
        have HQ : Hid (p x = true) := hq
        clear hq
        go_wp2_with (go_at_fn g; refine C.mono ?_; rintro e w1 ⟨rfl, b1⟩)
        go_ret
        exact ⟨_, rfl, Or.inr ⟨i, rfl, hi, ⟨x, HX.out, HQ.out⟩, HA.out⟩, thenB HBel.out b1⟩
      | false =>
        rw [hq] at C
        have HQ : Hid (p x = false) := hq
        clear hq
        go_wp2_with (go_at_fn g; refine C.mono ?_; rintro e w1 ⟨rfl, b1⟩)
        go_roundg (gk - 1)
        case measure => omega
        case rel =>
          refine ⟨i + 1, by omega, by go_num, thenB HBel.out b1, fun j y hj hy => ?_⟩
          by_cases e : j = i
          · subst e
            have := HX.out.symm.trans hy
            simp only [Option.some.injEq] at this
            subst this
            exact HQ.out
          · exact HA.out j y (by omega) hy
    · have hd : decide ((i : Int) < (l.length : Int)) = false := by simp; omega
      go_wp2
      go_ret
      exact ⟨-1, rfl, Or.inl ⟨rfl, fun j x hx => HA.out j x (by have := (List.getElem?_eq_some_iff.1 hx).1; omega) hx⟩, hbel⟩

theorem place_any {p : E3 → Bool} {l : List E3} {r : Int} (h : Place p l r) : decide (0 ≤ r) = l.any p := by
  rcases h with ⟨rfl, h⟩ | ⟨i, rfl, hi, ⟨x, hx, hp⟩, _⟩
  · have : l.any p = false := by
      rw [List.any_eq_false]
      intro x hx
      obtain ⟨j, hj⟩ := List.getElem?_of_mem hx
      simp [h j x hj]
    rw [this]; decide
  · have : l.any p = true := List.any_eq_true.2 ⟨x, List.mem_of_getElem? hx, hp⟩
    rw [this]
    simp

set_option maxHeartbeats 1000000 in
set_option maxRecDepth 100000 in
theorem contains_any (p : E3 → Bool) (g : Nat) (lb : Array Value) (eg : ∀ args w, (callFunc g args).run Tryz.prog w = .ok (.enter g args) w) (B : Nat) (ao : Option Addr) (ca : Nat) (l : List E3) (w : World) (hr : FRow w ao (flatE l)) (hl : l.length ≤ maxLen) (hB : B ≤ w.heap.size) (hp : Pred B w g lb p) :
    Calls Tryz.prog 139 #[.slice ao l.length ca, .func (.func g) #[] lb] w fun e w' => e = .returned (.bool (l.any p)) ∧ Below w.heap.size w w' := by
  have C := index_any p g lb eg B ao ca l w hr hl hB hp
  clear hr hp hB hl
  go_enter Tryz.func139, Tryz.ntmps139
  go_wp2_with fail
  refine C.mono ?_
  rintro e w1 ⟨r, rfl, hpl, b1⟩
  have hd := place_any hpl
  obtain ⟨q, hq⟩ : ∃ q, q = l.any p := ⟨_, rfl⟩
  rw [← hq] at hd
  have HQ : Hid (q = l.any p) := hq
  clear hpl C hq
  go_wp2
  go_ret
  exact ⟨ret_bool HQ.out, b1⟩

/-- The closure of has: is it that dot? -/
theorem hasIs_any (d : D2) (k : Nat) (W : World) (x : E3) (h0 : W.cell? ⟨k, 0, none⟩ = some (.int .i64 d.1)) (h1 : W.cell? ⟨k, 1, none⟩ = some (.int .i64 d.2)) (hk : k < W.heap.size) :
    Calls Tryz.prog 140 #[ev x, .pointer (some ⟨k, 0, none⟩)] W fun e w' => e = .returned (.bool (decide (dotE x = d))) ∧ Below W.heap.size W w' := by
  have hne : k ≠ W.heap.size := by omega
  obtain ⟨d1, d2⟩ := d
  go_enter Tryz.func140, Tryz.ntmps140
  go_wp2
  all_goals (go_ret; exact ⟨ret_bool (by first | rfl | simp_all | (rw [Bool.eq_iff_iff]; simp_all)), (Below.refl _ _).alloc (Nat.le_refl _) _⟩)

theorem enters_has : ∀ args w, (callFunc 140 args).run Tryz.prog w = .ok (.enter 140 args) w := enters_of Tryz.func140 (by kernel_rfl) rfl

set_option maxHeartbeats 1000000 in
set_option maxRecDepth 100000 in
theorem fhas_any (d : D2) (ao : Option Addr) (ca : Nat) (l : List E3) (w : World) (hr : FRow w ao (flatE l)) (hl : l.length ≤ maxLen) :
    Calls Tryz.prog 104 #[.slice ao l.length ca, dv d] w fun e w' => e = .returned (.bool (l.any fun x => decide (dotE x = d))) ∧ Below w.heap.size w w' := by
  have H0 : Has (w.alloc (.cells #[.int .i64 d.1, .int .i64 d.2] 32)) w.heap.size [.int .i64 d.1, .int .i64 d.2] := has_new w [.int .i64 d.1, .int .i64 d.2] _
  have hal : Below w.heap.size w (w.alloc (.cells #[.int .i64 d.1, .int .i64 d.2] 32)) := (Below.refl _ _).alloc (Nat.le_refl _) _
  have C := contains_any (fun x => decide (dotE x = d)) 140 #[.pointer (some ⟨w.heap.size, 0, none⟩)] enters_has (w.heap.size + 1) ao ca l (w.alloc (.cells #[.int .i64 d.1, .int .i64 d.2] 32)) (hr.later hal) hl (by simp) (fun W x hW hs => by
    have H1 := H0.under (by omega) hW
    exact hasIs_any d w.heap.size W x (H1.at 0 rfl) (H1.at 1 rfl) (by omega))
  clear hr hl
  generalize l.any (fun x => decide (dotE x = d)) = q at C ⊢
  go_enter Tryz.func104, Tryz.ntmps104
  go_wp2_with fail
  refine C.mono ?_
  rintro e w1 ⟨rfl, b1⟩
  go_wp2
  go_ret
  exact ⟨rfl, thenB hal b1⟩

/-- Where an entry of dot d goes. -/
def placeD (l : List E3) (d : D2) : Nat := (l.takeWhile fun x => !ltD d (dotE x)).length

theorem place_le (l : List E3) (d : D2) : placeD l d ≤ l.length := by
  unfold placeD
  exact (List.takeWhile_sublist _).length_le

theorem placeD_at {l : List E3} {d : D2} {i : Nat} {x : E3} (hx : l[i]? = some x) (h : ltD d (dotE x) = true) (ha : ∀ (j : Nat) y, j < i → l[j]? = some y → ltD d (dotE y) = false) : placeD l d = i := by
  unfold placeD
  induction l generalizing i with
  | nil => simp at hx
  | cons a l ih =>
    cases i with
    | zero =>
      simp only [List.getElem?_cons_zero, Option.some.injEq] at hx
      subst hx
      simp [List.takeWhile_cons, h]
    | succ i =>
      have h0 := ha 0 a (by omega) rfl
      rw [List.takeWhile_cons, h0]
      simp only [Bool.not_false, if_true, List.length_cons]
      rw [ih (by simpa using hx) (fun j y hj hy => ha (j + 1) y (by omega) (by simpa using hy))]

theorem placeD_end {l : List E3} {d : D2} (ha : ∀ (j : Nat) y, l[j]? = some y → ltD d (dotE y) = false) : placeD l d = l.length := by
  unfold placeD
  induction l with
  | nil => rfl
  | cons a l ih =>
    rw [List.takeWhile_cons, ha 0 a rfl]
    simp only [Bool.not_false, if_true, List.length_cons]
    rw [ih fun j y hy => ha (j + 1) y (by simpa using hy)]

set_option maxHeartbeats 1000000 in
set_option maxRecDepth 100000 in
theorem placeOf_any (d : D2) (ao : Option Addr) (ca : Nat) (l : List E3) (w : World) (hr : FRow w ao (flatE l)) (hl : l.length ≤ maxLen) :
    Calls Tryz.prog 106 #[.slice ao l.length ca, dv d] w fun e w' => e = .returned (.int .i64 (placeD l d : Nat)) ∧ Below w.heap.size w w' := by
  have H0 : Hid (Has (w.alloc (.cells #[.int .i64 d.1, .int .i64 d.2] 32)) w.heap.size [.int .i64 d.1, .int .i64 d.2] ∧ Below w.heap.size w (w.alloc (.cells #[.int .i64 d.1, .int .i64 d.2] 32))) := ⟨has_new w [.int .i64 d.1, .int .i64 d.2] _, (Below.refl _ _).alloc (Nat.le_refl _) _⟩
  have HR : Hid (FRow w ao (flatE l)) := hr
  obtain ⟨h, hh⟩ : ∃ h, w.heap.size = h := ⟨_, rfl⟩
  rw [hh] at H0 ⊢
  have HH : Hid (w.heap.size = h) := hh
  clear hr
  unfold maxLen at hl
  go_enter Tryz.func106, Tryz.ntmps106
  go_wp2
  clear hh
  go_loopg [5, 6, 9] l.length (fun n _ _ iv wr => ∃ i : Nat, i + n = l.length ∧ iv = .int .i64 i ∧ Hid (Has wr h [.int .i64 d.1, .int .i64 d.2] ∧ Below h w wr) ∧ Hid (∀ (j : Nat) x, j < i → l[j]? = some x → ltD d (dotE x) = false))
  case atStart => exact ⟨0, by omega, rfl, H0.out, fun j x hj => by omega⟩
  case round =>
    obtain ⟨i, hin, rfl, HB, HA⟩ := hrel
    clear H0
    by_cases hi : i < l.length
    · obtain ⟨bk, off, rfl, hb, hc⟩ := HR.out (by rw [flatE_len]; omega)
      obtain ⟨x, hx⟩ : ∃ x, l[i]? = some x := ⟨_, List.getElem?_eq_getElem hi⟩
      obtain ⟨g0, g1, g2⟩ := flatE_at l i hx
      have hb1 : bk < h := HH.out ▸ hb
      have k0 := (HB.out.2.cell (p := ⟨bk, off + i * 3, none⟩) (by exact hb1)).trans (hc _ _ g0)
      have k1 := (HB.out.2.cell (p := ⟨bk, off + i * 3 + 1, none⟩) (by exact hb1)).trans (hc _ _ g1)
      have k2 := (HB.out.2.cell (p := ⟨bk, off + i * 3 + 2, none⟩) (by exact hb1)).trans (hc _ _ g2)
      have t0 := HB.out.1.at 0 rfl
      have t1 := HB.out.1.at 1 rfl
      obtain ⟨n1, hn1⟩ : ∃ n, wr.heap.size = n := ⟨_, rfl⟩
      have hlt : h < n1 := by have := HB.out.1.1; omega
      have HX : Hid (l[i]? = some x) := hx
      have HN : Hid (wr.heap.size = n1) := hn1
      clear hc hx g0 g1 g2 hb
      have hal : Hid (Below n1 wr (wr.alloc (.cells #[.int .i64 x.node, .int .i64 x.seq, .string x.val] 62))) := hn1 ▸ (Below.refl _ _).alloc (Nat.le_refl _) _
      go_wp2_with fail
      refine (odots_below (dotE x) d _).mono ?_
      rintro e w1 ⟨rfl, b1⟩
      have b2 : Hid (Below n1 wr w1) := by
        have h1 : Below wr.heap.size wr (wr.alloc (.cells #[.int .i64 x.node, .int .i64 x.seq, .string x.val] 62)) := HN.out ▸ hal.out
        exact HN.out ▸ thenB h1 b1
      clear b1 hal k0 k1 k2 t0 t1
      cases hq : ltD d (dotE x) with
      | true =>
        have hpos : decide (0 < cmpD (dotE x) d) = true := by simpa using (cmpD_pos (dotE x) d).2 hq
        have HQ : Hid (ltD d (dotE x) = true) := hq
        clear hq
        go_wp2
        go_ret
        rw [placeD_at HX.out HQ.out HA.out]
        exact ⟨rfl, HB.out.2.trans (b2.out.mono (by omega))⟩
      | false =>
        have hpos : decide (0 < cmpD (dotE x) d) = false := by
          rw [decide_eq_false_iff_not, cmpD_pos, hq]; simp
        have HQ : Hid (ltD d (dotE x) = false) := hq
        clear hq
        go_wp2
        go_roundg (gk - 1)
        case measure => omega
        case rel =>
          refine ⟨i + 1, by omega, by go_num, ⟨HB.out.1.under (by omega) b2.out, HB.out.2.trans (b2.out.mono (by omega))⟩, fun j y hj hy => ?_⟩
          by_cases e : j = i
          · subst e
            have := HX.out.symm.trans hy
            simp only [Option.some.injEq] at this
            subst this
            exact HQ.out
          · exact HA.out j y (by omega) hy
    · have hd : decide ((i : Int) < (l.length : Int)) = false := by simp; omega
      go_wp2
      go_ret
      rw [placeD_end fun j y hy => HA.out j y (by have := (List.getElem?_eq_some_iff.1 hy).1; omega) hy]
      exact ⟨rfl, HB.out.2⟩

end Go.Proofs.YtgkddimijmnpcaaGreatDoor

/-
  Steps through a region that draws its order, one by one: an operation that reads, taken first; one whose guard is not met, left out.
-/
namespace Go.Proofs.YtgkddimijmnpcaaGreatDoor
open Go.RowKit
set_option linter.unusedVariables false

section
variable {P : Program} {md : Region.Mode} {ops : Array Oper} {Q : Exit → Act → World → Prop} {S : World → Prop}

theorem put_at {l : List Value} {df : List Deferred} {o : Oper} {d : Nat} (hd : o.dst = some d) (v : Value) : (Act.put ⟨l.toArray, df⟩ o.dst v) = ⟨(l.set d v).toArray, df⟩ := by
  rw [hd]; simp [Act.put]

/-- An operation that reads: its value is the same in every world that meets S. -/
theorem take_at (i d : Nat) {oi : Oper} {v : Value} {fuel : Nat} {listed : Array Bool} {l : List Value} {df : List Deferred} {w : World} (hi : ops[i]? = some oi)
    (hs : Region.noSelect ops = true) (hf : Region.free md ops listed i = true) (hr : (Region.ready md ops listed).contains i = true)
    (hQ : ∀ c a w, Q (.panic c) (a.put oi.dst v) w → Q (.panic c) a w) (hd : oi.dst = some d) (hw : Region.wanted oi (yielded ops l.toArray) = true)
    (hy : ∀ w, S w → (execOp (Act.eval ⟨l.toArray, df⟩) oi).run P w = .ok (.value v) w) (hS : S w)
    (h : wpAnyH P md ops Q S fuel (listed.setIfInBounds i true) ⟨(l.set d v).toArray, df⟩ w) : wpAnyH P md ops Q S (fuel + 1) listed ⟨l.toArray, df⟩ w :=
  wpAnyH_take hi hs hf hr hQ (Or.inl ⟨hw, hy⟩) hS (by rw [put_at hd]; exact h)

/-- An operation whose guard is not met. -/
theorem skip_at (i d : Nat) {oi : Oper} {fuel : Nat} {listed : Array Bool} {l : List Value} {df : List Deferred} {w : World} (hi : ops[i]? = some oi)
    (hs : Region.noSelect ops = true) (hf : Region.free md ops listed i = true) (hr : (Region.ready md ops listed).contains i = true)
    (hQ : ∀ c a w, Q (.panic c) (a.put oi.dst undef) w → Q (.panic c) a w) (hd : oi.dst = some d) (hw : Region.wanted oi (yielded ops l.toArray) = false) (hS : S w)
    (h : wpAnyH P md ops Q S fuel (listed.setIfInBounds i true) ⟨(l.set d undef).toArray, df⟩ w) : wpAnyH P md ops Q S (fuel + 1) listed ⟨l.toArray, df⟩ w :=
  wpAnyH_take hi hs hf hr hQ (Or.inr ⟨hw, rfl⟩) hS (by rw [put_at hd]; exact h)

end

end Go.Proofs.YtgkddimijmnpcaaGreatDoor

/-
  slices.BinarySearchFunc at a row of dots that stands by order.Dots; the closure of Drop.
-/
namespace Go.Proofs.YtgkddimijmnpcaaGreatDoor
open Go.RowKit Go.Shelf
set_option linter.unusedVariables false
set_option linter.unusedSimpArgs false

/-- No later one stands ahead of an earlier one. -/
def Up (l : List D2) : Prop := ∀ (i j : Nat) x y, i < j → l[i]? = some x → l[j]? = some y → ltD y x = false

theorem up_mono {l : List D2} (h : Up l) (t : D2) {i j : Nat} {x y : D2} (hij : i ≤ j) (hx : l[i]? = some x) (hy : l[j]? = some y) (hlt : ltD y t = true) : ltD x t = true := by
  by_cases e : i = j
  · subst e
    rw [hx] at hy
    simp only [Option.some.injEq] at hy
    subst hy
    exact hlt
  · have := h i j x y (by omega) hx hy
    simp only [ltD, decide_eq_true_eq, decide_eq_false_iff_not] at *
    omega

/-- What a comparison keeps: an element, the target in its box. -/
abbrev HeldB (w0 : World) (h bk o : Nat) (x t : D2) (W : World) : Prop :=
  Below h w0 W ∧ h < W.heap.size ∧ W.cell? ⟨bk, o, none⟩ = some (.int .i64 x.1) ∧ W.cell? ⟨bk, o + 1, none⟩ = some (.int .i64 x.2) ∧ W.cell? ⟨h, 0, none⟩ = some (.int .i64 t.1) ∧ W.cell? ⟨h, 1, none⟩ = some (.int .i64 t.2)

theorem heldB_later {w0 : World} {h bk o : Nat} {x t : D2} {W W2 : World} (hbk : bk < h) (hb : Below W.heap.size W W2) (H : HeldB w0 h bk o x t W) : HeldB w0 h bk o x t W2 := by
  obtain ⟨h0, hn, h1, h2, h3, h4⟩ := H
  have hs := hb.size
  refine ⟨h0.trans (hb.mono (by omega)), by omega, ?_, ?_, ?_, ?_⟩ <;> (rw [hb.cell (by simp; omega)]; assumption)

theorem ret_two {x : Int} {a b : Bool} (h : b = a) : Ending.returned (.tuple #[.int .i64 x, .bool a]) = .returned (.tuple #[.int .i64 x, .bool b]) := by rw [h]

/-- The target in its box. -/
def Box2 (w0 : World) (h : Nat) (t : D2) (W : World) : Prop := Below h w0 W ∧ h < W.heap.size ∧ W.cell? ⟨h, 0, none⟩ = some (.int .i64 t.1) ∧ W.cell? ⟨h, 1, none⟩ = some (.int .i64 t.2)

theorem HeldB.box {w0 : World} {h bk o : Nat} {x t : D2} {W : World} (H : HeldB w0 h bk o x t W) : Box2 w0 h t W := ⟨H.1, H.2.1, H.2.2.2.2.1, H.2.2.2.2.2⟩

set_option maxHeartbeats 2000000 in
set_option maxRecDepth 100000 in
theorem bsearch_any (t : D2) (ao : Option Addr) (ca : Nat) (l : List D2) (w : World) (hr : FRow w ao (flatD l)) (hl : l.length * 16 ≤ 140737488355328) (hu : Up l) :
    Calls Tryz.prog 111 #[.slice ao l.length ca, dv t, .func (.func 108) #[] #[]] w fun e w' => ∃ r : Int, e = .returned (.tuple #[.int .i64 r, .bool (decide (t ∈ l))]) ∧ Below w.heap.size w w' := by
  have H0 : Hid (Box2 w w.heap.size t (w.alloc (.cells #[.int .i64 t.1, .int .i64 t.2] 32))) := ⟨(Below.refl _ _).alloc (Nat.le_refl _) _, by simp, (has_new w [.int .i64 t.1, .int .i64 t.2] _).at 0 rfl, (has_new w [.int .i64 t.1, .int .i64 t.2] _).at 1 rfl⟩
  have HR : Hid (FRow w ao (flatD l) ∧ Up l) := ⟨hr, hu⟩
  obtain ⟨fin, hfin⟩ : ∃ fin, decide (t ∈ l) = fin := ⟨_, rfl⟩
  rw [hfin]
  have HF : Hid (decide (t ∈ l) = fin) := hfin
  clear hfin
  obtain ⟨h, hh⟩ : ∃ h, w.heap.size = h := ⟨_, rfl⟩
  rw [hh] at H0 ⊢
  have HH : Hid (w.heap.size = h) := hh
  clear hr hu
  go_enter Tryz.func111, Tryz.ntmps111
  go_wp2
  clear hh
  go_loopg [9, 10, 11] l.length (fun n s9 s10 _ wr => ∃ lo hi : Nat, s9 = .int .i64 lo ∧ s10 = .int .i64 hi ∧ lo ≤ hi ∧ hi ≤ l.length ∧ hi - lo ≤ n ∧ Hid (Box2 w h t wr) ∧ Hid ((∀ (j : Nat) x, j < lo → l[j]? = some x → ltD x t = true) ∧ (∀ (j : Nat) x, hi ≤ j → l[j]? = some x → ltD x t = false)))
  case atStart => exact ⟨0, l.length, rfl, rfl, Nat.zero_le _, Nat.le_refl _, by omega, H0.out, fun j x hj => by omega, fun j x hj hx => by have := (List.getElem?_eq_some_iff.1 hx).1; omega⟩
  case round =>
    clear H0
    obtain ⟨lo, hi, rfl, rfl, hlh, hin, hg, HB, HI⟩ := hrel
    by_cases hlt : lo < hi
    · obtain ⟨m, hm⟩ : ∃ m, m = (lo + hi) / 2 := ⟨_, rfl⟩
      have hmi : ((lo : Int) + (hi : Int)) / 2 = (m : Int) := by omega
      have hm1 : lo ≤ m := by omega
      have hm2 : m < hi := by omega
      have hml : m < l.length := by omega
      clear hm
      obtain ⟨bk, off, rfl, hb, hc⟩ := HR.out.1 (by rw [flatD_len]; omega)
      obtain ⟨x, hx⟩ : ∃ x, l[m]? = some x := ⟨_, List.getElem?_eq_getElem hml⟩
      obtain ⟨g0, g1⟩ := flatD_at l m hx
      have hb1 : bk < h := HH.out ▸ hb
      have k0 := (HB.out.1.cell (p := ⟨bk, off + m * 2, none⟩) (by exact hb1)).trans (hc _ _ g0)
      have k1 := (HB.out.1.cell (p := ⟨bk, off + m * 2 + 1, none⟩) (by exact hb1)).trans (hc _ _ g1)
      have HX : Hid (l[m]? = some x) := hx
      have HW : Hid (HeldB w h bk (off + m * 2) x t wr.drew) := ⟨HB.out.1.drew, HB.out.2.1, k0, k1, HB.out.2.2.1, HB.out.2.2.2⟩
      clear hc hx g0 g1 hb k0 k1
      cases hq : ltD x t with
      | true =>
        have hneg : decide (cmpD x t < 0) = true := by simpa using (cmpD_neg x t).2 hq
        have HQ : Hid (ltD x t = true) := hq
        clear hq
        go_wp2_with fail
        go_region_held3 (HeldB w h bk (off + m * 2) x t) (first | exact heldB_later hb1 hb2 (by assumption) | exact HW.out)
          (first | (go_at_call 108; refine (odots_below x t _).mono ?_; rintro e w2 ⟨rfl, hb2⟩))
        all_goals go_wp2
        all_goals go_roundg (hi - (m + 1))
        case measure => omega
        case rel =>
          refine ⟨m + 1, hi, by go_num, rfl, by omega, hin, Nat.le_refl _, HeldB.box ‹HeldB w h bk (off + m * 2) x t _›, fun j y hj hy => ?_, HI.out.2⟩
          exact up_mono HR.out.2 t (by omega) hy HX.out HQ.out
      | false =>
        have hneg : decide (cmpD x t < 0) = false := by
          rw [decide_eq_false_iff_not, cmpD_neg, hq]; simp
        have HQ : Hid (ltD x t = false) := hq
        clear hq
        go_wp2_with fail
        go_region_held3 (HeldB w h bk (off + m * 2) x t) (first | exact heldB_later hb1 hb2 (by assumption) | exact HW.out)
          (first | (go_at_call 108; refine (odots_below x t _).mono ?_; rintro e w2 ⟨rfl, hb2⟩))
        all_goals go_wp2
        all_goals go_roundg (m - lo)
        case measure => omega
        case rel =>
          refine ⟨lo, m, rfl, rfl, by omega, by omega, Nat.le_refl _, HeldB.box ‹HeldB w h bk (off + m * 2) x t _›, HI.out.1, fun j y hj hy => ?_⟩
          cases hy2 : ltD y t with
          | false => rfl
          | true =>
            have := up_mono HR.out.2 t hj HX.out hy hy2
            rw [HQ.out] at this
            exact absurd this (by simp)
    · obtain rfl : hi = lo := by omega
      have hdl : decide ((hi : Int) < (hi : Int)) = false := by simp
      by_cases hn : hi < l.length
      · have hdn : decide ((hi : Int) < (l.length : Int)) = true := by simpa using hn
        obtain ⟨bk, off, rfl, hb, hc⟩ := HR.out.1 (by rw [flatD_len]; omega)
        obtain ⟨x, hx⟩ : ∃ x, l[hi]? = some x := ⟨_, List.getElem?_eq_getElem hn⟩
        obtain ⟨g0, g1⟩ := flatD_at l hi hx
        have hb1 : bk < h := HH.out ▸ hb
        have k0 := (HB.out.1.cell (p := ⟨bk, off + hi * 2, none⟩) (by exact hb1)).trans (hc _ _ g0)
        have k1 := (HB.out.1.cell (p := ⟨bk, off + hi * 2 + 1, none⟩) (by exact hb1)).trans (hc _ _ g1)
        have HW : Hid (HeldB w h bk (off + hi * 2) x t wr.drew) := ⟨HB.out.1.drew, HB.out.2.1, k0, k1, HB.out.2.2.1, HB.out.2.2.2⟩
        have hmem : Hid (fin = (cmpD x t == 0)) := by
          show fin = (cmpD x t == 0)
          rw [← HF.out, Bool.eq_iff_iff, decide_eq_true_eq, beq_iff_eq, cmpD_zero]
          constructor
          · intro ht
            obtain ⟨j, hj⟩ := List.getElem?_of_mem ht
            by_cases e : hi ≤ j
            · have h1 := HI.out.2 hi x (Nat.le_refl _) hx
              by_cases e2 : hi = j
              · subst e2
                rw [hx] at hj
                simpa using hj
              · have h2 := HR.out.2 hi j x t (by omega) hx hj
                obtain ⟨x1, x2⟩ := x
                obtain ⟨t1, t2⟩ := t
                simp only [ltD, decide_eq_false_iff_not, Prod.mk.injEq] at *
                omega
            · have h1 := HI.out.1 j t (by omega) hj
              simp [ltD] at h1
          · intro e
            subst e
            exact List.mem_of_getElem? hx
        clear hc hx g0 g1 hb k0 k1
        go_wp2_with fail
        go_region_held3 (HeldB w h bk (off + hi * 2) x t) (first | exact heldB_later hb1 hb2 (by assumption) | exact HW.out)
          (first | (go_at_call 108; refine (odots_below x t _).mono ?_; rintro e w2 ⟨rfl, hb2⟩))
        all_goals go_wp2
        all_goals go_ret2
        all_goals exact ⟨hi, ret_two hmem.out, (‹HeldB w h bk (off + hi * 2) x t _›).1⟩
      · have hdn : decide ((hi : Int) < (l.length : Int)) = false := by simp; omega
        have hmem : Hid (fin = false) := by
          show fin = false
          rw [← HF.out, decide_eq_false_iff_not]
          intro ht
          obtain ⟨j, hj⟩ := List.getElem?_of_mem ht
          have h1 := HI.out.1 j t (by have := (List.getElem?_eq_some_iff.1 hj).1; omega) hj
          simp [ltD] at h1
        go_wp2_with fail
        refine wp_region_held_drew (S := Below h w) (by kernel_rfl) HB.out.1.drew (fun hHeld => ?_)
        refine take_at 0 35 (v := .int .i64 hi) rfl (by kernel_rfl) (by kernel_rfl) (by kernel_rfl) (fun _ _ _ h => h) rfl (by rfl) (fun w hSw => ?hy) hHeld ?_
        case hy =>
          try dsimp only at hSw
          go_simp
        simp only [List.set_cons_zero, List.set_cons_succ]
        refine take_at 1 36 (v := .int .i64 hi) rfl (by kernel_rfl) (by kernel_rfl) (by kernel_rfl) (fun _ _ _ h => h) rfl (by rfl) (fun w hSw => ?hy) hHeld ?_
        case hy =>
          try dsimp only at hSw
          go_simp
        simp only [List.set_cons_zero, List.set_cons_succ]
        refine take_at 2 37 (v := .int .i64 l.length) rfl (by kernel_rfl) (by kernel_rfl) (by kernel_rfl) (fun _ _ _ h => h) rfl (by rfl) (fun w hSw => ?hy) hHeld ?_
        case hy =>
          try dsimp only at hSw
          go_simp
        simp only [List.set_cons_zero, List.set_cons_succ]
        refine take_at 3 38 (v := .bool false) rfl (by kernel_rfl) (by kernel_rfl) (by kernel_rfl) (fun _ _ _ h => h) rfl (by rfl) (fun w hSw => ?hy) hHeld ?_
        case hy =>
          try dsimp only at hSw
          go_simp
        simp only [List.set_cons_zero, List.set_cons_succ]
        refine take_at 4 39 (v := .bool false) rfl (by kernel_rfl) (by kernel_rfl) (by kernel_rfl) (fun _ _ _ h => h) rfl (by rfl) (fun w hSw => ?hy) hHeld ?_
        case hy =>
          try dsimp only at hSw
          go_simp
        simp only [List.set_cons_zero, List.set_cons_succ]
        refine skip_at 5 40 rfl (by kernel_rfl) (by kernel_rfl) (by kernel_rfl) (fun _ _ _ h => h) rfl (by rfl) hHeld ?_
        simp only [List.set_cons_zero, List.set_cons_succ]
        refine skip_at 6 41 rfl (by kernel_rfl) (by kernel_rfl) (by kernel_rfl) (fun _ _ _ h => h) rfl (by rfl) hHeld ?_
        simp only [List.set_cons_zero, List.set_cons_succ]
        refine skip_at 7 42 rfl (by kernel_rfl) (by kernel_rfl) (by kernel_rfl) (fun _ _ _ h => h) rfl (by rfl) hHeld ?_
        simp only [List.set_cons_zero, List.set_cons_succ]
        refine skip_at 10 45 rfl (by kernel_rfl) (by kernel_rfl) (by kernel_rfl) (fun _ _ _ h => h) rfl (by rfl) hHeld ?_
        simp only [List.set_cons_zero, List.set_cons_succ]
        refine wpAnyH_ready (rs := [8]) (by kernel_rfl) (by simp) ?_
        refine AllReadyH.cons rfl (fun K hK => ?_) AllReadyH.nil
        go_simp
        refine hK.out _ _ hHeld (fun hHeld => ?_)
        clear hK K
        try simp only [Act.put, List.setIfInBounds_toArray, List.set_cons_zero, List.set_cons_succ]
        refine skip_at 9 44 rfl (by kernel_rfl) (by kernel_rfl) (by kernel_rfl) (fun _ _ _ h => h) rfl (by rfl) hHeld ?_
        simp only [List.set_cons_zero, List.set_cons_succ]
        refine wpAnyH_ready (rs := [11]) (by kernel_rfl) (by simp) ?_
        refine AllReadyH.cons rfl (fun K hK => ?_) AllReadyH.nil
        go_simp
        refine hK.out _ _ hHeld (fun hHeld => ?_)
        clear hK K
        try simp only [Act.put, List.setIfInBounds_toArray, List.set_cons_zero, List.set_cons_succ]
        refine skip_at 12 47 rfl (by kernel_rfl) (by kernel_rfl) (by kernel_rfl) (fun _ _ _ h => h) rfl (by rfl) hHeld ?_
        simp only [List.set_cons_zero, List.set_cons_succ]
        refine take_at 13 48 (v := .bool false) rfl (by kernel_rfl) (by kernel_rfl) (by kernel_rfl) (fun _ _ _ h => h) rfl (by rfl) (fun w hSw => ?hy) hHeld ?_
        case hy =>
          try dsimp only at hSw
          go_simp
        simp only [List.set_cons_zero, List.set_cons_succ]
        refine take_at 14 6 (v := .int .i64 hi) rfl (by kernel_rfl) (by kernel_rfl) (by kernel_rfl) (fun _ _ _ h => h) rfl (by rfl) (fun w hSw => ?hy) hHeld ?_
        case hy =>
          try dsimp only at hSw
          go_simp
        simp only [List.set_cons_zero, List.set_cons_succ]
        refine take_at 15 7 (v := .bool false) rfl (by kernel_rfl) (by kernel_rfl) (by kernel_rfl) (fun _ _ _ h => h) rfl (by rfl) (fun w hSw => ?hy) hHeld ?_
        case hy =>
          try dsimp only at hSw
          go_simp
        simp only [List.set_cons_zero, List.set_cons_succ]
        refine wpAnyH_done (by kernel_rfl) ?_ _
        go_wp2
        go_ret2
        exact ⟨hi, ret_two hmem.out, hHeld⟩

end Go.Proofs.YtgkddimijmnpcaaGreatDoor

/-
  Contracts of the library's shelf laid at this program: slices.SortFunc at dots, slices.Sort and slices.Compact at strings.
-/
namespace Go.Proofs.YtgkddimijmnpcaaGreatDoor
open Go.Shelf

def laySort_ren : Go.Shelf.Ren := ⟨fun | 6 => 107 | 15 => 144 | 14 => 143 | 28 => 170 | 29 => 171 | 20 => 162 | 21 => 163 | 22 => 164 | 23 => 165 | 24 => 166 | 25 => 167 | 26 => 168 | 27 => 169 | 46 => 179 | 47 => 180 | 48 => 181 | 49 => 182 | 50 => 183 | 57 => 200 | n => n, fun | 22 => 33 | 24 => 32 | 25 => 126 | 3 => 3 | 39 => 60 | 0 => 0 | 53 => 185 | 55 => 143 | 4 => 4 | 46 => 179 | 45 => 178 | 50 => 128 | 5 => 5 | 9 => 9 | 66 => 190 | 70 => 194 | 76 => 209 | 77 => 210 | n => n, fun | n => n⟩
theorem laySort : Go.Proofs.SlLaysF0.n6 Tryz.prog laySort_ren := {
  mixed := by kernel_rfl
  f6 := ⟨Tryz.f107.name, by decide, Tryz.func107.trans (congrArg some (by kernel_rfl))⟩
  f14 := ⟨Tryz.f143.name, by decide, Tryz.func143.trans (congrArg some (by kernel_rfl))⟩
  f15 := Tryz.func144.trans (congrArg some (by kernel_rfl))
  f20 := ⟨Tryz.f162.name, by decide, Tryz.func162.trans (congrArg some (by kernel_rfl))⟩
  f21 := ⟨Tryz.f163.name, by decide, Tryz.func163.trans (congrArg some (by kernel_rfl))⟩
  f22 := ⟨Tryz.f164.name, by decide, Tryz.func164.trans (congrArg some (by kernel_rfl))⟩
  f23 := ⟨Tryz.f165.name, by decide, Tryz.func165.trans (congrArg some (by kernel_rfl))⟩
  f24 := ⟨Tryz.f166.name, by decide, Tryz.func166.trans (congrArg some (by kernel_rfl))⟩
  f25 := ⟨Tryz.f167.name, by decide, Tryz.func167.trans (congrArg some (by kernel_rfl))⟩
  f26 := ⟨Tryz.f168.name, by decide, Tryz.func168.trans (congrArg some (by kernel_rfl))⟩
  f27 := ⟨Tryz.f169.name, by decide, Tryz.func169.trans (congrArg some (by kernel_rfl))⟩
  f28 := Tryz.func170.trans (congrArg some (by kernel_rfl))
  f29 := Tryz.func171.trans (congrArg some (by kernel_rfl))
  f46 := ⟨Tryz.f179.name, by decide, Tryz.func179.trans (congrArg some (by kernel_rfl))⟩
  f47 := Tryz.func180.trans (congrArg some (by kernel_rfl))
  f48 := Tryz.func181.trans (congrArg some (by kernel_rfl))
  f49 := ⟨Tryz.f182.name, by decide, Tryz.func182.trans (congrArg some (by kernel_rfl))⟩
  f50 := ⟨Tryz.f183.name, by decide, Tryz.func183.trans (congrArg some (by kernel_rfl))⟩
  f57 := ⟨Tryz.f200.name, by decide, Tryz.func200.trans (congrArg some (by kernel_rfl))⟩
  t0 := Tryz.underlying0
  a0 := Tryz.isAgg0
  z0 := Tryz.sizeOf0
  v0 := Tryz.zeroValue0
  t3 := Tryz.underlying3
  a3 := Tryz.isAgg3
  z3 := Tryz.sizeOf3
  v3 := Tryz.zeroValue3
  t4 := Tryz.underlying4
  a4 := Tryz.isAgg4
  z4 := Tryz.sizeOf4
  v4 := Tryz.zeroValue4
  t5 := Tryz.underlying5
  a5 := Tryz.isAgg5
  z5 := Tryz.sizeOf5
  v5 := Tryz.zeroValue5
  t9 := Tryz.underlying9
  a9 := Tryz.isAgg9
  z9 := Tryz.sizeOf9
  v9 := Tryz.zeroValue9
  t22 := Tryz.underlying33
  a22 := Tryz.isAgg33
  z22 := Tryz.sizeOf33
  v22 := Tryz.zeroValue33
  t25 := Tryz.underlying126
  a25 := Tryz.isAgg126
  z25 := Tryz.sizeOf126
  v25 := Tryz.zeroValue126
  t39 := Tryz.underlying60
  a39 := Tryz.isAgg60
  z39 := Tryz.sizeOf60
  v39 := Tryz.zeroValue60
  t45 := Tryz.underlying178
  a45 := Tryz.isAgg178
  z45 := Tryz.sizeOf178
  v45 := Tryz.zeroValue178
  t46 := Tryz.underlying179
  a46 := Tryz.isAgg179
  z46 := Tryz.sizeOf179
  v46 := Tryz.zeroValue179
  t50 := Tryz.underlying128
  a50 := Tryz.isAgg128
  z50 := Tryz.sizeOf128
  v50 := Tryz.zeroValue128
  t53 := Tryz.underlying185
  a53 := Tryz.isAgg185
  z53 := Tryz.sizeOf185
  v53 := Tryz.zeroValue185
  t55 := Tryz.underlying143
  a55 := Tryz.isAgg143
  z55 := Tryz.sizeOf143
  v55 := Tryz.zeroValue143
  t66 := Tryz.underlying190
  a66 := Tryz.isAgg190
  z66 := Tryz.sizeOf190
  v66 := Tryz.zeroValue190
  t70 := Tryz.underlying194
  a70 := Tryz.isAgg194
  z70 := Tryz.sizeOf194
  v70 := Tryz.zeroValue194
  t76 := Tryz.underlying209
  a76 := Tryz.isAgg209
  z76 := Tryz.sizeOf209
  v76 := Tryz.zeroValue209
  t77 := Tryz.underlying210
  a77 := Tryz.isAgg210
  z77 := Tryz.sizeOf210
  v77 := Tryz.zeroValue210 }
def laySorts_ren : Go.Shelf.Ren := ⟨fun | 6 => 157 | 8 => 144 | 9 => 177 | 19 => 170 | 20 => 171 | 21 => 191 | 22 => 192 | 23 => 193 | 24 => 194 | 25 => 195 | 26 => 196 | 27 => 197 | 28 => 198 | 29 => 199 | 36 => 205 | 31 => 180 | 32 => 181 | 37 => 206 | 38 => 207 | 39 => 208 | 41 => 211 | n => n, fun | 27 => 65 | 29 => 9 | 3 => 3 | 32 => 60 | 26 => 65 | 0 => 0 | 44 => 185 | 46 => 143 | 4 => 4 | 36 => 179 | 35 => 178 | 41 => 128 | 5 => 5 | 9 => 9 | 53 => 190 | 57 => 194 | 63 => 209 | 64 => 210 | n => n, fun | n => n⟩
theorem laySorts : Go.Proofs.SlLaysM.n6 Tryz.prog laySorts_ren := {
  mixed := by kernel_rfl
  f6 := ⟨Tryz.f157.name, by decide, Tryz.func157.trans (congrArg some (by kernel_rfl))⟩
  f8 := Tryz.func144.trans (congrArg some (by kernel_rfl))
  f9 := ⟨Tryz.f177.name, by decide, Tryz.func177.trans (congrArg some (by kernel_rfl))⟩
  f19 := Tryz.func170.trans (congrArg some (by kernel_rfl))
  f20 := Tryz.func171.trans (congrArg some (by kernel_rfl))
  f21 := ⟨Tryz.f191.name, by decide, Tryz.func191.trans (congrArg some (by kernel_rfl))⟩
  f22 := ⟨Tryz.f192.name, by decide, Tryz.func192.trans (congrArg some (by kernel_rfl))⟩
  f23 := ⟨Tryz.f193.name, by decide, Tryz.func193.trans (congrArg some (by kernel_rfl))⟩
  f24 := ⟨Tryz.f194.name, by decide, Tryz.func194.trans (congrArg some (by kernel_rfl))⟩
  f25 := ⟨Tryz.f195.name, by decide, Tryz.func195.trans (congrArg some (by kernel_rfl))⟩
  f26 := ⟨Tryz.f196.name, by decide, Tryz.func196.trans (congrArg some (by kernel_rfl))⟩
  f27 := ⟨Tryz.f197.name, by decide, Tryz.func197.trans (congrArg some (by kernel_rfl))⟩
  f28 := ⟨Tryz.f198.name, by decide, Tryz.func198.trans (congrArg some (by kernel_rfl))⟩
  f29 := ⟨Tryz.f199.name, by decide, Tryz.func199.trans (congrArg some (by kernel_rfl))⟩
  f31 := Tryz.func180.trans (congrArg some (by kernel_rfl))
  f32 := Tryz.func181.trans (congrArg some (by kernel_rfl))
  f36 := ⟨Tryz.f205.name, by decide, Tryz.func205.trans (congrArg some (by kernel_rfl))⟩
  f37 := ⟨Tryz.f206.name, by decide, Tryz.func206.trans (congrArg some (by kernel_rfl))⟩
  f38 := ⟨Tryz.f207.name, by decide, Tryz.func207.trans (congrArg some (by kernel_rfl))⟩
  f39 := ⟨Tryz.f208.name, by decide, Tryz.func208.trans (congrArg some (by kernel_rfl))⟩
  f41 := ⟨Tryz.f211.name, by decide, Tryz.func211.trans (congrArg some (by kernel_rfl))⟩
  t0 := Tryz.underlying0
  a0 := Tryz.isAgg0
  z0 := Tryz.sizeOf0
  v0 := Tryz.zeroValue0
  t3 := Tryz.underlying3
  a3 := Tryz.isAgg3
  z3 := Tryz.sizeOf3
  v3 := Tryz.zeroValue3
  t4 := Tryz.underlying4
  a4 := Tryz.isAgg4
  z4 := Tryz.sizeOf4
  v4 := Tryz.zeroValue4
  t5 := Tryz.underlying5
  a5 := Tryz.isAgg5
  z5 := Tryz.sizeOf5
  v5 := Tryz.zeroValue5
  t9 := Tryz.underlying9
  a9 := Tryz.isAgg9
  z9 := Tryz.sizeOf9
  v9 := Tryz.zeroValue9
  t26 := Tryz.underlying65
  a26 := Tryz.isAgg65
  z26 := Tryz.sizeOf65
  v26 := Tryz.zeroValue65
  t27 := Tryz.underlying65
  a27 := Tryz.isAgg65
  z27 := Tryz.sizeOf65
  v27 := Tryz.zeroValue65
  t29 := Tryz.underlying9
  a29 := Tryz.isAgg9
  z29 := Tryz.sizeOf9
  v29 := Tryz.zeroValue9
  t32 := Tryz.underlying60
  a32 := Tryz.isAgg60
  z32 := Tryz.sizeOf60
  v32 := Tryz.zeroValue60
  t35 := Tryz.underlying178
  a35 := Tryz.isAgg178
  z35 := Tryz.sizeOf178
  v35 := Tryz.zeroValue178
  t36 := Tryz.underlying179
  a36 := Tryz.isAgg179
  z36 := Tryz.sizeOf179
  v36 := Tryz.zeroValue179
  t41 := Tryz.underlying128
  a41 := Tryz.isAgg128
  z41 := Tryz.sizeOf128
  v41 := Tryz.zeroValue128
  t44 := Tryz.underlying185
  a44 := Tryz.isAgg185
  z44 := Tryz.sizeOf185
  v44 := Tryz.zeroValue185
  t46 := Tryz.underlying143
  a46 := Tryz.isAgg143
  z46 := Tryz.sizeOf143
  v46 := Tryz.zeroValue143
  t53 := Tryz.underlying190
  a53 := Tryz.isAgg190
  z53 := Tryz.sizeOf190
  v53 := Tryz.zeroValue190
  t57 := Tryz.underlying194
  a57 := Tryz.isAgg194
  z57 := Tryz.sizeOf194
  v57 := Tryz.zeroValue194
  t63 := Tryz.underlying209
  a63 := Tryz.isAgg209
  z63 := Tryz.sizeOf209
  v63 := Tryz.zeroValue209
  t64 := Tryz.underlying210
  a64 := Tryz.isAgg210
  z64 := Tryz.sizeOf210
  v64 := Tryz.zeroValue210 }
def layCompact_ren : Go.Shelf.Ren := ⟨fun | 44 => 158 | n => n, fun | 25 => 65 | 26 => 9 | 3 => 3 | 4 => 4 | 0 => 0 | n => n, fun | n => n⟩
theorem layCompact : Go.Proofs.SlLaysN.n44 Tryz.prog layCompact_ren := {
  mixed := by kernel_rfl
  f44 := ⟨Tryz.f158.name, by decide, Tryz.func158.trans (congrArg some (by kernel_rfl))⟩
  t0 := Tryz.underlying0
  a0 := Tryz.isAgg0
  z0 := Tryz.sizeOf0
  v0 := Tryz.zeroValue0
  t3 := Tryz.underlying3
  a3 := Tryz.isAgg3
  z3 := Tryz.sizeOf3
  v3 := Tryz.zeroValue3
  t4 := Tryz.underlying4
  a4 := Tryz.isAgg4
  z4 := Tryz.sizeOf4
  v4 := Tryz.zeroValue4
  t25 := Tryz.underlying65
  a25 := Tryz.isAgg65
  z25 := Tryz.sizeOf65
  v25 := Tryz.zeroValue65
  t26 := Tryz.underlying9
  a26 := Tryz.isAgg9
  z26 := Tryz.sizeOf9
  v26 := Tryz.zeroValue9
  i26 := by kernel_rfl }

end Go.Proofs.YtgkddimijmnpcaaGreatDoor

/-
  slices.SortFunc at a row of dots of the call's own: the same dots, standing by order.Dots. The closure of Drop: is a dot among them?
-/
namespace Go.Proofs.YtgkddimijmnpcaaGreatDoor
open Go.RowKit Go.Shelf
set_option linter.unusedVariables false
set_option linter.unusedSimpArgs false

theorem gb_row {α : Type} [Inhabited α] (enc : α → Value) (w : World) (n blk off : Nat) (d : Array α) (os : Array Obj) : w.grownBy (Sort.grow (Sort.putRow enc (Sort.ahead w n) blk off d) os) (some blk) := by
  refine ⟨rfl, rfl, rfl, ?_, fun k hk hne => ?_⟩
  · show w.heap.size ≤ (((Sort.ahead w n).heap.modify blk _) ++ os).size
    simp [Sort.ahead]
  · show (((Sort.ahead w n).heap.modify blk _) ++ os)[k]? = w.heap[k]?
    have e : (Sort.ahead w n).heap = w.heap := rfl
    rw [e, Array.getElem?_append_left (by simp; omega), Array.getElem?_modify, if_neg (fun e => hne (by rw [e]))]

theorem ltOf_cmp (x y : D2) : ltOf cmpD x y = ltD x y := by
  unfold ltOf
  rw [Bool.eq_iff_iff, decide_eq_true_eq]
  exact cmpD_neg x y

theorem swo_cmp : Sort.SWO (ltOf cmpD) where
  irrefl x := by rw [ltOf_cmp]; simp [ltD]
  trans x y z h1 h2 := by
    rw [ltOf_cmp] at *
    simp only [ltD, decide_eq_true_eq] at *
    omega
  ntrans x y z h1 h2 := by
    rw [ltOf_cmp] at *
    simp only [ltD, decide_eq_false_iff_not] at *
    omega

theorem enters_cmp : ∀ args w, (callFunc 108 args).run Tryz.prog w = .ok (.enter 108 args) w := enters_of Tryz.func108 (by kernel_rfl) rfl

theorem cmp_lays (blk off size : Nat) (w : World) : CmpLays Tryz.prog 108 #[] d2 2 cmpD blk off size w := fun m os dk hs x y => by
  refine Calls.mono (odots_any x y _) ?_
  rintro e w' ⟨rfl, rfl⟩
  refine ⟨rfl, 0, #[.cells #[.int .i64 x.1, .int .i64 x.2] 32, .cells #[.int .i64 y.1, .int .i64 y.2] 32], ?_⟩
  rw [Sort.alloc_eq_grow, Sort.alloc_eq_grow, Sort.grow_grow]
  rfl

theorem flatD_K (l : List D2) (j : Nat) (hj : j < l.length * 2) : (flatD l)[j]? = some (Sort.flatK d2 2 l.toArray)[j]! := by
  rw [Sort.get_flatK _ _ _ _ (by simpa using hj)]
  have hi : j / 2 < l.length := by omega
  have h := flat_get d2 2 (fun _ => rfl) l (j / 2) (j % 2) (Nat.mod_lt _ (by decide)) (List.getElem?_eq_getElem hi)
  have e : j / 2 * 2 + j % 2 = j := by omega
  rw [e] at h
  have e2 : l.toArray[j / 2]! = l[j / 2] := by simp [hi]
  rw [e2]
  show (l.flatMap d2)[j]? = _
  rw [h]
  have hm : j % 2 < 2 := Nat.mod_lt _ (by decide)
  match j % 2, hm with
  | 0, _ => rfl
  | 1, _ => rfl

theorem holdsK_of {C g n c : Nat} {e : TypeId} {w : World} {l : List D2} (hn : n = l.length) (h : w.ownsRow C e 2 (.slice (some ⟨g, 0, none⟩) n c) n (flatD l)) : Sort.HoldsK d2 2 w g 0 l.toArray := fun j hj => by
  subst hn
  have hj2 : j < l.length * 2 := by simpa using hj
  rw [Nat.zero_add]
  exact ⟨(h.cellAt j hj2).trans (flatD_K l j hj2), h.frozenAt j⟩

theorem fown_of_holds {C g : Nat} {w : World} {l : List D2} (hC : C ≤ g) (hg : g < w.heap.size) (h : Sort.HoldsK d2 2 w g 0 l.toArray) : FOwn C w (some ⟨g, 0, none⟩) (flatD l) := fun _ => by
  refine ⟨g, rfl, hC, hg, fun j u hu => ?_⟩
  have hj := (List.getElem?_eq_some_iff.1 hu).1
  rw [flatD_len] at hj
  have := h j (by simpa using hj)
  rw [Nat.zero_add] at this
  refine ⟨this.1.trans ?_, this.2⟩
  rw [← hu, flatD_K l j hj]
  rfl

theorem sort_any (C : Nat) (ao : Option Addr) (ca : Nat) (l : List D2) (w : World) (hs : w.ownsRow C 32 2 (.slice ao l.length ca) l.length (flatD l)) (hl : l.length * 16 ≤ 140737488355328) (hC : C ≤ w.heap.size) :
    Calls Tryz.prog 107 #[.slice ao l.length ca, .func (.func 108) #[] #[]] w fun e w' => e = .returned (.tuple #[]) ∧ ∃ m, m.length = l.length ∧ (∀ t, t ∈ m ↔ t ∈ l) ∧ Up m ∧ FOwn C w' ao (flatD m) ∧ w.grownBy w' (Value.slice ao l.length ca).ownBlock := by
  by_cases h0 : l.length = 0
  · obtain rfl : l = [] := List.eq_nil_of_length_eq_zero h0
    refine Calls.mono (AnyF.slices_SortFunc_none laySort ao ca _ w) ?_
    rintro e w' ⟨rfl, rfl⟩
    exact ⟨rfl, [], rfl, fun t => Iff.rfl, fun i j x y _ hx => by simp at hx, FOwn.nil _ _ _, gb_refl _ _⟩
  · rcases hs.2 with ⟨_, h2⟩ | ⟨g, cap, cur, h2, _⟩
    · omega
    · simp only [Value.slice.injEq] at h2
      obtain ⟨rfl, _, rfl⟩ := h2
      have hCg := (hs.lt g rfl).1
      have hgw := (hs.lt g rfl).2
      have hH := holdsK_of rfl hs
      have hcon := AnyQ.slices_SortFunc laySort 2 Tryz.isAgg32 Tryz.sizeOf32 d2 (fun _ => rfl) (fun x v hv => by
        simp only [d2, List.mem_cons, List.not_mem_nil, or_false] at hv
        rcases hv with rfl | rfl <;> rfl) cmpD swo_cmp 108 #[] g 0 ca l.toArray w enters_cmp (cmp_lays g 0 _ w) hH hgw (by simp; omega)
      refine Calls.mono hcon ?_
      rintro e w' ⟨rfl, d', n, os, hp, hsd, rfl⟩
      obtain ⟨hsz, _, hperm⟩ := hp
      have hsz' : d'.size = l.length := by simpa using hsz
      have hpm : d'.toList.Perm l := by
        have e1 : d'.extract 0 l.toArray.size = d' := by rw [← hsz]; simp
        have e2 : l.toArray.extract 0 l.toArray.size = l.toArray := by simp
        rw [e1, e2] at hperm
        simpa using hperm
      refine ⟨rfl, d'.toList, by simpa using hsz', fun t => hpm.mem_iff, fun i j x y hij hx hy => ?_, ?_, ?_⟩
      · have hi := (List.getElem?_eq_some_iff.1 hx).1
        have hj := (List.getElem?_eq_some_iff.1 hy).1
        have := hsd i j (Nat.zero_le _) hij (by simp at hj; simp; omega)
        rw [ltOf_cmp] at this
        have ex : d'[i]! = x := by
          have h1 : i < d'.size := by simpa using hi
          rw [getElem!_pos d' i h1]
          simpa [h1] using hx
        have ey : d'[j]! = y := by
          have h1 : j < d'.size := by simpa using hj
          rw [getElem!_pos d' j h1]
          simpa [h1] using hy
        rwa [ex, ey] at this
      · refine fown_of_holds hCg (Nat.lt_of_lt_of_le hgw (size_sortWorldK_c d2 2 w g 0 n d' os)) ?_
        have := holdsK_sortWorldK_c d2 2 w g 0 l.toArray d' n os hH hgw hsz
        simpa using this
      · exact gb_row id w n g 0 _ os

end Go.Proofs.YtgkddimijmnpcaaGreatDoor

/-
  Rows of the call's own while they are written: what every layer of rows uses. Copies and clears of whatever width; rows that stay while others turn.
-/
namespace Go.Proofs.YtgkddimijmnpcaaGreatDoor
open Go.RowKit Go.Shelf
set_option linter.unusedVariables false
set_option linter.unusedSimpArgs false

theorem below_setCells {B : Nat} {a : World} {b : Nat} (hb : B ≤ b) : ∀ (vs : List Value) (o : Nat) {w : World}, Below B a w → Below B a (w.setCells b o vs)
  | [], _, _, h => h
  | v :: r, o, w, h => below_setCells hb r (o + 1) (h.setCell (p := ⟨b, o, none⟩) hb v)

theorem gb_setCells {a : World} {g : Nat} : ∀ (vs : List Value) (o : Nat) {w : World}, a.grownBy w (some g) → a.grownBy (w.setCells g o vs) (some g)
  | [], _, _, h => h
  | v :: r, o, w, h => gb_setCells r (o + 1) (gb_set h o v)

/-- A new block's cells set: nothing old turns. -/
theorem gb_newCells {a : World} {N : Nat} {row : Option Nat} (hN : a.heap.size ≤ N) : ∀ (vs : List Value) (o : Nat) {w : World}, a.grownBy w row → a.grownBy (w.setCells N o vs) row
  | [], _, _, h => h
  | v :: r, o, w, h => gb_newCells hN r (o + 1) ⟨h.os, h.tape, h.output, by simpa using h.size, fun i hi hne => (Below.heap_setCell _ _ _ _ (by show i ≠ N; omega)).trans (h.block i hi hne)⟩

theorem size_setCells (b : Nat) : ∀ (vs : List Value) (o : Nat) (w : World), (w.setCells b o vs).heap.size = w.heap.size
  | [], _, _ => rfl
  | v :: r, o, w => by rw [World.setCells, size_setCells b r]; simp

theorem some_setCells (b : Nat) : ∀ (vs : List Value) (o : Nat) (w : World) (x : Addr), (w.cell? x).isSome = true → ((w.setCells b o vs).cell? x).isSome = true
  | [], _, _, _, h => h
  | v :: r, o, w, x, h => by
    rw [World.setCells]
    refine some_setCells b r (o + 1) _ x ?_
    by_cases e : (⟨b, o, none⟩ : Addr) = x
    · subst e
      obtain ⟨u, hu⟩ := Option.isSome_iff_exists.1 h
      rw [World.cell?_setCell_same _ _ _ hu]; rfl
    · rw [World.cell?_setCell_other _ _ _ _ (by first | exact e | exact fun e' => e e'.symm)]; exact h

/-- The row behind both copies, the rest first. -/
theorem fown_shift {C g : Nat} {W : World} {F vs : List Value} {i3 : Nat} (hC : C ≤ g) (hg : g < W.heap.size) (hi : i3 ≤ F.length) (hF : ∀ k u, F[k]? = some u → W.cell? ⟨g, k, none⟩ = some u) (hs : ∀ k, k < F.length + vs.length → (W.cell? ⟨g, k, none⟩).isSome = true) (hfz : ∀ k, W.frozen? ⟨g, k, none⟩ = false) :
    FOwn C ((W.setCells g (i3 + vs.length) (F.drop i3)).setCells g i3 vs) (some ⟨g, 0, none⟩) (F.take i3 ++ (vs ++ F.drop i3)) := fun _ => by
  refine ⟨g, rfl, hC, by rw [size_setCells, size_setCells]; exact hg, fun k u hu => ⟨?_, by rw [World.frozen?_setCells, World.frozen?_setCells]; exact hfz k⟩⟩
  have hl : (F.take i3).length = i3 := by simp; omega
  have hk := (List.getElem?_eq_some_iff.1 hu).1
  simp only [List.length_append, List.length_drop, hl] at hk
  by_cases h1 : k < i3
  · rw [List.getElem?_append_left (by omega), List.getElem?_take, if_pos h1] at hu
    rw [World.cell?_setCells_out g _ _ _ _ (fun _ _ => Or.inl h1), World.cell?_setCells_out g _ _ _ _ (fun _ _ => Or.inl (by show k < _; omega))]
    exact hF k u hu
  · rw [List.getElem?_append_right (by omega), hl] at hu
    by_cases h2 : k < i3 + vs.length
    · rw [List.getElem?_append_left (by omega)] at hu
      have e : k = i3 + (k - i3) := by omega
      have hlt : k - i3 < vs.length := by omega
      have := World.cell?_setCells_in g vs i3 (W.setCells g (i3 + vs.length) (F.drop i3)) (fun j hj => some_setCells g _ _ _ _ (hs _ (by omega))) (k - i3) hlt
      rw [← e] at this
      rw [this, ← hu, List.getElem?_eq_getElem hlt]
    · rw [List.getElem?_append_right (by omega)] at hu
      rw [World.cell?_setCells_out g _ _ _ _ (fun _ _ => Or.inr (by show _ ≤ k; omega))]
      have e : k = i3 + vs.length + (k - (i3 + vs.length)) := by omega
      have hlt : k - (i3 + vs.length) < (F.drop i3).length := by simp; omega
      have := World.cell?_setCells_in g (F.drop i3) (i3 + vs.length) W (fun j hj => hs _ (by simp at hj; omega)) (k - (i3 + vs.length)) hlt
      rw [← e] at this
      have e2 : k - i3 - vs.length = k - (i3 + vs.length) := by omega
      rw [this, ← hu, e2, List.getElem?_eq_getElem hlt]

/-- The row behind both copies, the new ones first. -/
theorem fown_shift2 {C g : Nat} {W : World} {F vs : List Value} {i3 : Nat} (hC : C ≤ g) (hg : g < W.heap.size) (hi : i3 ≤ F.length) (hF : ∀ k u, k < i3 → F[k]? = some u → W.cell? ⟨g, k, none⟩ = some u) (hs : ∀ k, k < F.length + vs.length → (W.cell? ⟨g, k, none⟩).isSome = true) (hfz : ∀ k, W.frozen? ⟨g, k, none⟩ = false) :
    FOwn C (((W.setCells g i3 vs).drew).setCells g (i3 + vs.length) (F.drop i3)) (some ⟨g, 0, none⟩) (F.take i3 ++ (vs ++ F.drop i3)) := fun _ => by
  refine ⟨g, rfl, hC, by rw [size_setCells]; show g < (W.setCells g i3 vs).heap.size; rw [size_setCells]; exact hg, fun k u hu => ⟨?_, by rw [World.frozen?_setCells]; show (W.setCells g i3 vs).frozen? _ = false; rw [World.frozen?_setCells]; exact hfz k⟩⟩
  have hl : (F.take i3).length = i3 := by simp; omega
  have hk := (List.getElem?_eq_some_iff.1 hu).1
  simp only [List.length_append, List.length_drop, hl] at hk
  by_cases h1 : k < i3
  · rw [List.getElem?_append_left (by omega), List.getElem?_take, if_pos h1] at hu
    rw [World.cell?_setCells_out g _ _ _ _ (fun _ _ => Or.inl (by show k < _; omega))]
    show (W.setCells g i3 vs).cell? _ = _
    rw [World.cell?_setCells_out g _ _ _ _ (fun _ _ => Or.inl h1)]
    exact hF k u h1 hu
  · rw [List.getElem?_append_right (by omega), hl] at hu
    by_cases h2 : k < i3 + vs.length
    · rw [List.getElem?_append_left (by omega)] at hu
      rw [World.cell?_setCells_out g _ _ _ _ (fun _ _ => Or.inl h2)]
      show (W.setCells g i3 vs).cell? _ = _
      have e : k = i3 + (k - i3) := by omega
      have hlt : k - i3 < vs.length := by omega
      have := World.cell?_setCells_in g vs i3 W (fun j hj => hs _ (by omega)) (k - i3) hlt
      rw [← e] at this
      rw [this, ← hu, List.getElem?_eq_getElem hlt]
    · rw [List.getElem?_append_right (by omega)] at hu
      have e : k = i3 + vs.length + (k - (i3 + vs.length)) := by omega
      have hlt : k - (i3 + vs.length) < (F.drop i3).length := by simp; omega
      have := World.cell?_setCells_in g (F.drop i3) (i3 + vs.length) ((W.setCells g i3 vs).drew) (fun j hj => by show ((W.setCells g i3 vs).cell? _).isSome = true; exact some_setCells g _ _ _ _ (hs _ (by simp at hj; omega))) (k - (i3 + vs.length)) hlt
      rw [← e] at this
      have e2 : k - i3 - vs.length = k - (i3 + vs.length) := by omega
      rw [this, ← hu, e2, List.getElem?_eq_getElem hlt]

/-- 'copy(d, s)' at elements of k cells each; all is read ahead of what is written. -/
theorem run_copy_k {P : Program} (w : World) (dT sT ty elem : TypeId) (k b o dLen dCap : Nat) (a : Addr) (sLen sCap : Nat) (cs : List Value)
    (hu : P.underlying dT = some (.slice elem)) (hs : (P.info? elem).map (·.size) = some k) (hn : Nat.min sLen dLen * k = cs.length)
    (hsrc : ∀ j v, cs[j]? = some v → w.cell? (a.add j) = some v) (hc : ∀ j, j < cs.length → (w.cell? ⟨b, o + j, none⟩).isSome = true) (hf : ∀ j, j < cs.length → w.frozen? ⟨b, o + j, none⟩ = false) (h1 : ∀ v ∈ cs, v.oneCell' = true) :
    (Builtin.copy_ #[dT, sT] ty #[.slice (some ⟨b, o, none⟩) dLen dCap, .slice (some a) sLen sCap]).run P w = .ok (goInt (Nat.min sLen dLen)) (w.setCells b o cs) := by
  have hl := run_loadCells_list (P := P) w a cs hsrc
  have hst := run_storeCells_cells (P := P) b o cs 0 w (by simpa using hc) (by simpa using hf) h1
  cases hq : P.info? elem with
  | none => simp [hq] at hs
  | some i =>
    have hi : i.size = k := by simpa [hq] using hs
    simp [Builtin.copy_, run_underlying hu, Builtin.lenOf, Builtin.firstCells, sizeOf, typeInfo, hq, hi, hn, hl, hst]

theorem wpList_copy_run {P : Program} (w : World) {ops : Array Oper} {rest : List Oper} {o : Oper} {a : Act} {Q : Exit → Act → World → Prop} (hgd : o.guard = none) (d s : Operand) (t t' : TypeId)
    (ho : o.op = .call { callee := .builtin .copy, args := #[d, s], argTypes := #[t, t'] }) (v u : Value) (hd : a.eval d = v) (hs : a.eval s = u) {v' : Value} {w' : World}
    (hr : (Builtin.copy_ #[t, t'] o.type #[v, u]).run P w = .ok v' w') (h : wpList P ops Q rest (a.put o.dst v') w') : wpList P ops Q (o :: rest) a w :=
  wpList_plain hgd fun K hK => by
    unfold Oper.wp execOp
    simp only [ho, resolve, invoke, builtin, Sem.run_bind, Sem.run_pure, Result.andThen_ok, List.map_toArray, List.map_cons, List.map_nil, hd, hs, hr]
    exact hK _ _ h

theorem step_copy_run {P : Program} {ops : Array Oper} {o : Oper} {a : Act} {w : World} {K : Act → World → Prop} {Q : Exit → Act → World → Prop} {E : Prop}
    (hg : o.guard = none) (d x : Operand) (dT sT : TypeId) (hop : o.op = Op.call { callee := Callee.builtin Builtin.copy, args := #[d, x], argTypes := #[dT, sT] })
    (v u : Value) (hd : a.eval d = v) (hx : a.eval x = u) {v' : Value} {w' : World} (hr : (Builtin.copy_ #[dT, sT] o.type #[v, u]).run P w = .ok v' w') (hK : K (a.put o.dst v') w') :
    if Region.wanted o (yielded ops a.tmps) = true then Oper.wp P o a w K Q else E := by
  have hw : Region.wanted o (yielded ops a.tmps) = true := by simp [Region.wanted, hg]
  rw [if_pos hw]
  unfold Oper.wp
  simp [execOp, hop, resolve, invoke, builtin, hd, hx, hr, Result.andThen]
  exact hK

/-- A row of the call's own, by its block. -/
theorem own_block {C : Nat} {e : TypeId} {s n c g : Nat} {xs : List Value} {w : World} (h : w.ownsRow C e s (.slice (some ⟨g, 0, none⟩) n c) n xs) :
    ∃ cur, w.heap[g]? = some (.cells cur e (0, 0)) ∧ cur.size = c * s ∧ cur.toList.take (n * s) = xs ∧ C ≤ g ∧ g < w.heap.size ∧ n ≤ c ∧ c ≤ maxLen := by
  rcases h.2 with ⟨h1, _⟩ | ⟨g', cap, cur, h1, hb, hh, hn, hm, hs, ht⟩
  · simp at h1
  · simp only [Value.slice.injEq, Option.some.injEq, Addr.mk.injEq, and_true, true_and] at h1
    obtain ⟨rfl, rfl⟩ := h1
    exact ⟨cur, hh, hs, ht, hb, (Array.getElem?_eq_some_iff.1 hh).1, hn, hm⟩

theorem block_cell {w : World} {g : Nat} {cur : Array Value} {e : TypeId} (h : w.heap[g]? = some (.cells cur e (0, 0))) (j : Nat) : w.cell? ⟨g, j, none⟩ = cur[j]? := cell_of_row w g j cur e (0, 0) h

theorem block_free {w : World} {g : Nat} {cur : Array Value} {e : TypeId} (h : w.heap[g]? = some (.cells cur e (0, 0))) (j : Nat) : w.frozen? ⟨g, j, none⟩ = false := frozen_of_row w g j cur e h

theorem block_shape {w : World} {g : Nat} {cur : Array Value} {e : TypeId} (h : w.heap[g]? = some (.cells cur e (0, 0))) : w.shape? g = some (e, cur.size) := by simp [World.shape?, h]

theorem run_clear_k {P : Program} (w : World) (t e ty : TypeId) (z : Value) (ht : P.underlying t = some (.slice e)) (hv : ∀ w, (zeroValue e).run P w = .ok z w) (b o n c : Nat) (hn : 0 < n) (h1 : ∀ v ∈ (Builtin.zeroCells z.cells n).toList, v.oneCell' = true)
    (hc : ∀ j, j < (Builtin.zeroCells z.cells n).toList.length → (w.cell? ⟨b, o + j, none⟩).isSome = true) (hf : ∀ j, j < (Builtin.zeroCells z.cells n).toList.length → w.frozen? ⟨b, o + j, none⟩ = false) :
    (Builtin.clear_ #[t] ty #[.slice (some ⟨b, o, none⟩) n c]).run P w = .ok (.tuple #[]) (w.setCells b o (Builtin.zeroCells z.cells n).toList) := by
  have hst := run_storeCells_cells (P := P) b o (Builtin.zeroCells z.cells n).toList 0 w (by simpa using hc) (by simpa using hf) h1
  simp only [Nat.add_zero] at hst
  obtain ⟨m, rfl⟩ : ∃ m, n = m + 1 := ⟨n - 1, by omega⟩
  simp [Builtin.clear_, run_underlying ht, hv, hst]

/-- A list stays while a cell of a block that is younger is set. -/
theorem fown_young {B C k o : Nat} {w1 w5 : World} {ao : Option Addr} {xs : List Value} (F1 : FOwn C w1 ao xs) (hk : w1.heap.size ≤ k) (F5 : FOwn B w5 ao xs) (v : Value) : FOwn B (w5.setCell ⟨k, o, none⟩ v) ao xs := fun h0 => by
  obtain ⟨b1, e1, _, l1, _⟩ := F1 h0
  obtain ⟨b, h1, h4, h2, h3⟩ := F5 h0
  rw [e1] at h1
  simp only [Option.some.injEq, Addr.mk.injEq, and_true] at h1
  subst h1
  refine ⟨b1, e1, h4, by simpa using h2, fun i u hu => ⟨?_, by rw [World.frozen?_setCell]; exact (h3 i u hu).2⟩⟩
  rw [World.cell?_setCell_other _ _ _ _ (fun e => by injection e with e _ _; omega)]
  exact (h3 i u hu).1

/-- .. if its block is another one. -/
theorem fown_apart {B k o : Nat} {w5 : World} {ao : Option Addr} {xs : List Value} (F5 : FOwn B w5 ao xs) (hk : ∀ b, ao = some ⟨b, 0, none⟩ → b ≠ k) (v : Value) : FOwn B (w5.setCell ⟨k, o, none⟩ v) ao xs := fun h0 => by
  obtain ⟨b, h1, h4, h2, h3⟩ := F5 h0
  have hb := hk b h1
  refine ⟨b, h1, h4, by simpa using h2, fun i u hu => ⟨?_, by rw [World.frozen?_setCell]; exact (h3 i u hu).2⟩⟩
  rw [World.cell?_setCell_other _ _ _ _ (fun e => by injection e with e _ _; first | exact hb e | exact hb e.symm)]
  exact (h3 i u hu).1

theorem own_same {B g n c s : Nat} {e : TypeId} {w : World} {xs : List Value} {j : Nat} {u : Value} (h : w.ownsRow B e s (.slice (some ⟨g, 0, none⟩) n c) n xs) (hu : xs[j]? = some u) : (w.setCell ⟨g, j, none⟩ u).ownsRow B e s (.slice (some ⟨g, 0, none⟩) n c) n xs := by
  have h1 := (h.stored j u).1
  have : xs.set j u = xs := by
    apply List.ext_getElem?
    intro i
    by_cases e : j = i
    · subst e
      have hj := (List.getElem?_eq_some_iff.1 hu).1
      rw [List.getElem?_set_self hj, hu]
    · rw [List.getElem?_set_ne e]
  rwa [this] at h1

theorem own_put10 {B : Nat} {e : TypeId} {s n : Nat} {v : Value} {w : World} {xs : List Value} (h : w.ownsRow B e s v n xs) {g : Nat} (hg : g < B) (u0 u1 u2 u3 u4 u5 u6 u7 u8 u9 : Value) : (put10 w g u0 u1 u2 u3 u4 u5 u6 u7 u8 u9).ownsRow B e s v n xs := by
  repeat refine ownsRow_setCell_below ?_ (a := ⟨g, _, none⟩) hg _
  exact h

/-- The other lists stay while the entries' row is written. -/
theorem gb_fown {w w' : World} {row : Option Nat} {mid : Nat} {ao : Option Addr} {xs : List Value} (h : w.grownBy w' row) (hr : ∀ k, row = some k → k < mid) (F : FOwn mid w ao xs) : FOwn mid w' ao xs := fun h0 => by
  obtain ⟨b, h1, h4, h2, h3⟩ := F h0
  have hne : some b ≠ row := fun e => by have := hr b e.symm; omega
  exact ⟨b, h1, h4, Nat.lt_of_lt_of_le h2 h.size, fun i u hu => ⟨(World.cell?_of_block (a := ⟨b, i, none⟩) (h.block b h2 hne)).trans (h3 i u hu).1, (World.frozen?_of_block (a := ⟨b, i, none⟩) (h.block b h2 hne)).trans (h3 i u hu).2⟩⟩

end Go.Proofs.YtgkddimijmnpcaaGreatDoor

/-
  slices.Insert at a row of entries of the call's own: one entry put in, whatever the room.
-/
namespace Go.Proofs.YtgkddimijmnpcaaGreatDoor
open Go.RowKit Go.Shelf
set_option linter.unusedVariables false
set_option linter.unusedSimpArgs false

theorem flatE_append (l m : List E3) : flatE (l ++ m) = flatE l ++ flatE m := by simp [flatE]
theorem flatE_take (l : List E3) (i : Nat) : flatE (l.take i) = (flatE l).take (i * 3) := by
  induction l generalizing i with
  | nil => simp [flatE]
  | cons a l ih =>
    cases i with
    | zero => simp [flatE]
    | succ i =>
      have := ih i
      have e : (i + 1) * 3 = i * 3 + 1 + 1 + 1 := by omega
      simp only [flatE, e3, List.flatMap_cons, List.take_succ_cons, e, List.cons_append, List.nil_append] at this ⊢
      rw [this]
theorem flatE_drop (l : List E3) (i : Nat) : flatE (l.drop i) = (flatE l).drop (i * 3) := by
  induction l generalizing i with
  | nil => simp [flatE]
  | cons a l ih =>
    cases i with
    | zero => simp [flatE]
    | succ i =>
      have := ih i
      have e : (i + 1) * 3 = i * 3 + 1 + 1 + 1 := by omega
      simp only [flatE, e3, List.flatMap_cons, List.drop_succ_cons, e, List.cons_append, List.nil_append] at this ⊢
      rw [this]

/-- An entry put in at place i. -/
def insE (l : List E3) (i : Nat) (x : E3) : List E3 := l.take i ++ x :: l.drop i

theorem insE_len (l : List E3) (i : Nat) (x : E3) (hi : i ≤ l.length) : (insE l i x).length = l.length + 1 := by simp [insE]; omega

theorem insE_flat (l : List E3) (i : Nat) (x : E3) : flatE (insE l i x) = (flatE l).take (i * 3) ++ (e3 x ++ (flatE l).drop (i * 3)) := by
  have : insE l i x = l.take i ++ ([x] ++ l.drop i) := rfl
  rw [this, flatE_append, flatE_append, flatE_take, flatE_drop]
  simp [flatE]

theorem Tryz.sizeEntry : (Tryz.prog.info? 62).map (·.size) = some 3 := by
  obtain ⟨i0, hi, _, hz1, _⟩ := info_parts Tryz.infoEntry
  rw [hi]; simp [hz1]

end Go.Proofs.YtgkddimijmnpcaaGreatDoor

/-
  slices.DeleteFunc at a row of entries of the call's own, by contract.
-/
namespace Go.Proofs.YtgkddimijmnpcaaGreatDoor
open Go.RowKit Go.Shelf
set_option linter.unusedVariables false
set_option linter.unusedSimpArgs false

theorem flatE_set (l : List E3) (i : Nat) (x : E3) : flatE (l.set i x) = (((flatE l).set (i * 3) (.int .i64 x.node)).set (i * 3 + 1) (.int .i64 x.seq)).set (i * 3 + 2) (.string x.val) := by
  induction l generalizing i with
  | nil => simp [flatE]
  | cons a l ih =>
    cases i with
    | zero => simp [flatE]
    | succ i =>
      have := ih i
      have e : (i + 1) * 3 = i * 3 + 1 + 1 + 1 := by omega
      simp only [flatE, e3, List.flatMap_cons, List.set_cons_succ, e, List.cons_append, List.nil_append] at this ⊢
      rw [this]

/-- Three cells stored. -/
abbrev put3 (w : World) (g o : Nat) (x : E3) : World := ((w.setCell ⟨g, o, none⟩ (.int .i64 x.node)).setCell ⟨g, o + 1, none⟩ (.int .i64 x.seq)).setCell ⟨g, o + 2, none⟩ (.string x.val)

theorem own_put3 {C g n c : Nat} {e : TypeId} {w : World} {l : List E3} (h : w.ownsRow C e 3 (.slice (some ⟨g, 0, none⟩) n c) n (flatE l)) (i : Nat) (x : E3) : (put3 w g (i * 3) x).ownsRow C e 3 (.slice (some ⟨g, 0, none⟩) n c) n (flatE (l.set i x)) := by
  rw [flatE_set]
  exact ((((h.stored (i * 3) _).1).stored (i * 3 + 1) _).1.stored (i * 3 + 2) _).1

/-- What the row holds while it is gone through: what is kept of the first j, anything, the rest. -/
def Kept3 (p : E3 → Bool) (l m : List E3) (i j : Nat) : Prop := m.length = l.length ∧ i < j ∧ j ≤ l.length ∧ m.take i = (l.take j).filter (fun x => !p x) ∧ m.drop j = l.drop j

theorem kept3_skip {p : E3 → Bool} {l m : List E3} {i j : Nat} (h : Kept3 p l m i j) {x : E3} (hx : l[j]? = some x) (hp : p x = true) : Kept3 p l m i (j + 1) := by
  obtain ⟨h1, h2, h3, h4, h5⟩ := h
  have hj := (List.getElem?_eq_some_iff.1 hx).1
  refine ⟨h1, by omega, by omega, ?_, ?_⟩
  · rw [h4, List.take_add_one, hx]
    simp [List.filter_append, hp]
  · have := congrArg (List.drop 1) h5
    simpa [List.drop_drop, Nat.add_comm] using this

theorem kept3_keep {p : E3 → Bool} {l m : List E3} {i j : Nat} (h : Kept3 p l m i j) {x : E3} (hx : l[j]? = some x) (hp : p x = false) : Kept3 p l (m.set i x) (i + 1) (j + 1) := by
  obtain ⟨h1, h2, h3, h4, h5⟩ := h
  have hj := (List.getElem?_eq_some_iff.1 hx).1
  refine ⟨by simpa using h1, by omega, by omega, ?_, ?_⟩
  · have e : (m.set i x).take (i + 1) = m.take i ++ [x] := by
      rw [List.take_add_one, List.getElem?_set_self (by omega), List.take_set, List.set_eq_of_length_le (by simp; omega)]
      rfl
    rw [e, h4, List.take_add_one, hx]
    simp [List.filter_append, hp]
  · have := congrArg (List.drop 1) h5
    rw [List.drop_set_of_lt (by omega)]
    simpa [List.drop_drop, Nat.add_comm] using this

theorem zero3_len (n : Nat) : (Builtin.zeroCells (.agg #[.int .i64 0, .int .i64 0, .string ByteArray.empty] : Value).cells n).toList.length = n * 3 := by
  simp [Builtin.zeroCells, Value.cells]

theorem zero3_one (n : Nat) : ∀ v ∈ (Builtin.zeroCells (.agg #[.int .i64 0, .int .i64 0, .string ByteArray.empty] : Value).cells n).toList, v.oneCell' = true := by
  intro v hv
  simp only [Builtin.zeroCells, Value.cells, Array.toList_map, List.mem_map] at hv
  obtain ⟨k, _, rfl⟩ := hv
  have : k % 3 < 3 := Nat.mod_lt _ (by decide)
  have h3 : (#[.int .i64 0, .int .i64 0, .string ByteArray.empty] : Array Value).size = 3 := rfl
  rw [h3]
  match k % 3, this with
  | 0, _ => rfl
  | 1, _ => rfl
  | 2, _ => rfl

set_option maxHeartbeats 1000000 in
set_option maxRecDepth 100000 in
theorem delete_any (p : E3 → Bool) (g : Nat) (lb : Array Value) (eg : ∀ args w, (callFunc g args).run Tryz.prog w = .ok (.enter g args) w) (B C : Nat) (ao : Option Addr) (ca : Nat) (l : List E3) (w : World) (hs : w.ownsRow C 62 3 (.slice ao l.length ca) l.length (flatE l)) (hBC : B ≤ C) (hC : C ≤ w.heap.size) (hp : Pred B w g lb p) :
    Calls Tryz.prog 109 #[.slice ao l.length ca, .func (.func g) #[] lb] w fun e w' => e = .returned (.slice ao (l.filter fun x => !p x).length ca) ∧ FOwn C w' ao (flatE (l.filter fun x => !p x)) ∧ w.grownBy w' (Value.slice ao l.length ca).ownBlock := by
  have CI := index_any p g lb eg B ao ca l w (own_row hs).row (Nat.le_trans (own_cap hs).1 (own_cap hs).2) (Nat.le_trans hBC hC) hp
  have HS : Hid (w.ownsRow C 62 3 (.slice ao l.length ca) l.length (flatE l) ∧ B ≤ C ∧ C ≤ w.heap.size ∧ Pred B w g lb p) := ⟨hs, hBC, hC, hp⟩
  have hcap := (own_cap hs).1
  have hcap2 := (own_cap hs).2
  unfold maxLen at hcap2
  obtain ⟨F, hF⟩ : ∃ F, F = l.filter (fun x => !p x) := ⟨_, rfl⟩
  rw [← hF]
  have HF : Hid (F = l.filter (fun x => !p x)) := hF
  clear hs hBC hC hp hF
  go_enter Tryz.func109, Tryz.ntmps109
  go_wp2_with fail
  refine CI.mono ?_
  rintro e w1 ⟨r, rfl, hpl, b1⟩
  clear CI
  rcases hpl with ⟨rfl, hall⟩ | ⟨k0, rfl, hk0, ⟨x0, hx0, hpx0⟩, hall⟩
  · have HA : Hid (F = l) := by
      show F = l
      rw [HF.out, List.filter_eq_self]
      intro x hx
      obtain ⟨j, hj⟩ := List.getElem?_of_mem hx
      simp [hall j x hj]
    clear hall
    go_wp2
    go_ret
    refine ⟨?_, ?_, gb_below b1 _⟩
    · rw [HA.out]; rfl
    · rw [HA.out]; exact own_row (own_later HS.out.1 b1)
  · obtain ⟨gq, hgq⟩ : ∃ gq, ao = some ⟨gq, 0, none⟩ := by
      obtain ⟨b, e, _⟩ := own_row HS.out.1 (by rw [flatE_len]; omega)
      exact ⟨b, e⟩
    subst hgq
    have H0 : Hid (w1.ownsRow C 62 3 (.slice (some ⟨gq, 0, none⟩) l.length ca) l.length (flatE l) ∧ Kept3 p l l k0 (k0 + 1) ∧ w.grownBy w1 (some gq)) := by
      refine ⟨own_later HS.out.1 b1, ⟨rfl, by omega, by omega, ?_, rfl⟩, gb_below b1 _⟩
      rw [List.take_add_one, hx0, List.filter_append]
      have e1 : (l.take k0).filter (fun x => !p x) = l.take k0 := by
        rw [List.filter_eq_self]
        intro x hx
        obtain ⟨j, hj⟩ := List.getElem?_of_mem hx
        rw [List.getElem?_take] at hj
        split at hj
        · simp [hall j x (by omega) hj]
        · simp at hj
      rw [e1]
      simp [hpx0]
    have hkn : ((k0 : Int) == -1) = false := beq_eq_false_iff_ne.2 (by omega)
    clear hx0 hpx0 hall b1
    go_wp2_with fail
    go_loopg [5, 6, 7] l.length (fun n s5 s6 _ wr => ∃ (i j : Nat) (m : List E3), s5 = .int .i64 i ∧ s6 = .int .i64 j ∧ l.length - j ≤ n ∧ i < j ∧ j ≤ l.length ∧ Hid (wr.ownsRow C 62 3 (.slice (some ⟨gq, 0, none⟩) l.length ca) l.length (flatE m) ∧ Kept3 p l m i j ∧ w.grownBy wr (some gq)))
    case atStart => exact ⟨k0, k0 + 1, l, rfl, by go_num, by omega, by omega, by omega, H0.out⟩
    case round =>
      clear H0
      obtain ⟨i, j, m, rfl, rfl, hg, hij, hjl, HK⟩ := hrel
      by_cases hj : j < l.length
      · have hdj : decide ((j : Int) < (l.length : Int)) = true := by simpa using hj
        obtain ⟨x, hx⟩ : ∃ x, l[j]? = some x := ⟨_, List.getElem?_eq_getElem hj⟩
        have hmx : m[j]? = some x := by
          have := congrArg (fun t => t[0]?) HK.out.2.1.2.2.2.2
          simpa [hx] using this
        obtain ⟨y, hy⟩ : ∃ y, m[i]? = some y := ⟨_, List.getElem?_eq_getElem (by have := HK.out.2.1.1; omega)⟩
        have hfl : (flatE m).length = l.length * 3 := by rw [flatE_len, HK.out.2.1.1]
        obtain ⟨g0, g1, g2⟩ := flatE_at m j hmx
        obtain ⟨y0, y1, y2⟩ := flatE_at m i hy
        have k0 := (HK.out.1.cellAt (j * 3) (by omega)).trans g0
        have k1 := (HK.out.1.cellAt (j * 3 + 1) (by omega)).trans g1
        have k2 := (HK.out.1.cellAt (j * 3 + 2) (by omega)).trans g2
        obtain ⟨n1, hn1⟩ : ∃ n, wr.heap.size = n := ⟨_, rfl⟩
        have hgl : gq < n1 := by have := (HK.out.1.lt gq rfl).2; omega
        have HX : Hid (l[j]? = some x ∧ wr.heap.size = n1) := ⟨hx, hn1⟩
        have hal : Below wr.heap.size wr (wr.alloc (.cells #[.int .i64 x.node, .int .i64 x.seq, .string x.val] 62)) := (Below.refl _ _).alloc (Nat.le_refl _) _
        have HV : Hid (Has (wr.alloc (.cells #[.int .i64 x.node, .int .i64 x.seq, .string x.val] 62)) n1 (e3 x)) := hn1 ▸ has_new wr (e3 x) _
        have HB : Hid (Below C w wr) := gb_to HK.out.2.2 HS.out.2.2.1 (fun k hk => by simp only [Option.some.injEq] at hk; subst hk; exact (HK.out.1.lt gq rfl).1)
        have hCn : C ≤ n1 := by have := HS.out.2.2.1; have := HK.out.2.2.size; omega
        have CP := HS.out.2.2.2 (wr.alloc (.cells #[.int .i64 x.node, .int .i64 x.seq, .string x.val] 62)) x ((HB.out.mono HS.out.2.1).trans (hal.mono (by have := HS.out.2.1; omega))) (by have := HS.out.2.1; simp; omega)
        have HY : Hid ((flatE m)[i * 3]? = some (.int .i64 y.node) ∧ (flatE m)[i * 3 + 1]? = some (.int .i64 y.seq) ∧ (flatE m)[i * 3 + 2]? = some (.string y.val)) := ⟨y0, y1, y2⟩
        have HL : Hid (Below wr.heap.size wr (wr.alloc (.cells #[.int .i64 x.node, .int .i64 x.seq, .string x.val] 62))) := hal
        clear hx hmx g0 g1 g2 y0 y1 y2 hal hfl hy
        cases hq : p x with
        | true =>
          rw [hq] at CP
          have HQ : Hid (p x = true) := hq
          clear hq
          go_wp2_with (go_at_fn g; refine CP.mono ?_; rintro e w2 ⟨rfl, b2⟩)
          go_roundg (gk - 1)
          case measure => omega
          case rel =>
            have B2 := thenB HL.out b2
            exact ⟨i, j + 1, m, rfl, by go_num, by omega, by omega, by omega, own_later HK.out.1 B2, kept3_skip HK.out.2.1 HX.out.1 HQ.out, gb_trans HK.out.2.2 (gb_below B2 _)⟩
        | false =>
          rw [hq] at CP
          have HQ : Hid (p x = false) := hq
          clear hq
          go_upto_region 9 with (go_at_fn g; refine CP.mono ?_; rintro e w2 ⟨rfl, b2⟩)
          have B2 := thenB HL.out b2
          have H2 : Hid (w2.ownsRow C 62 3 (.slice (some ⟨gq, 0, none⟩) l.length ca) l.length (flatE m) ∧ w.grownBy w2 (some gq)) := ⟨own_later HK.out.1 B2, gb_trans HK.out.2.2 (gb_below B2 _)⟩
          have HV2 : Hid (Has w2 n1 (e3 x)) := HV.out.later b2
          have v0 := HV2.out.at 0 rfl
          have v1 := HV2.out.at 1 rfl
          have v2 := HV2.out.at 2 rfl
          have s0 := (H2.out.1.cellAt (i * 3) (by omega)).trans HY.out.1
          have s1 := (H2.out.1.cellAt (i * 3 + 1) (by omega)).trans HY.out.2.1
          have s2 := (H2.out.1.cellAt (i * 3 + 2) (by omega)).trans HY.out.2.2
          have z0 := H2.out.1.frozenAt (i * 3)
          have z1 := H2.out.1.frozenAt (i * 3 + 1)
          have z2 := H2.out.1.frozenAt (i * 3 + 2)
          have hil : (i : Int) < (l.length : Int) := by omega
          have HCg : Hid (C ≤ gq) := (H2.out.1.lt gq rfl).1
          clear b2 B2 CP k0 k1 k2 HV hn1
          go_wp2
          go_roundg (gk - 1)
          case measure => omega
          case rel =>
            exact ⟨i + 1, j + 1, m.set i x, by go_num, by go_num, by omega, by omega, by omega, own_put3 H2.out.1 i x, kept3_keep HK.out.2.1 HX.out.1 HQ.out, gb_set (gb_set (gb_set H2.out.2 _ _) _ _) _ _⟩
      · obtain rfl : j = l.length := by omega
        have hdj : decide ((l.length : Int) < (l.length : Int)) = false := by simp
        have hci : ¬ (ca = i) := by omega
        have HCg : Hid (C ≤ gq) := (HK.out.1.lt gq rfl).1
        have hfm : (flatE m).length = l.length * 3 := by rw [flatE_len, HK.out.2.1.1]
        obtain ⟨W', hW'⟩ : ∃ W', W' = wr.setCells gq (i * 3) (Builtin.zeroCells (.agg #[.int .i64 0, .int .i64 0, .string ByteArray.empty] : Value).cells (l.length - i)).toList := ⟨_, rfl⟩
        have hcl : ∀ ty, (Builtin.clear_ #[26] ty #[.slice (some ⟨gq, i * 3, none⟩) (l.length - i) (ca - i)]).run Tryz.prog wr = .ok (.tuple #[]) W' := fun ty => by
          rw [hW']
          refine run_clear_k wr 26 62 ty _ Tryz.underlying26 Tryz.zeroValue62 gq (i * 3) _ _ (by omega) (zero3_one _) (fun t ht => ?_) (fun t ht => HK.out.1.frozenAt _)
          have ht := Nat.lt_of_lt_of_eq ht (zero3_len _)
          rw [HK.out.1.cellAt _ (by omega), List.getElem?_eq_getElem (by omega)]; rfl
        have HE : Hid (FOwn C W' (some ⟨gq, 0, none⟩) (flatE F) ∧ w.grownBy W' (some gq) ∧ F.length = i) := by
          have eF : F = m.take i := by
            rw [HF.out, HK.out.2.1.2.2.2.1, List.take_length]
          refine ⟨fun _ => ⟨gq, rfl, HCg.out, ?_, fun k u hu => ⟨?_, ?_⟩⟩, ?_, ?_⟩
          · rw [hW', size_setCells]; exact (HK.out.1.lt gq rfl).2
          · have hk := (List.getElem?_eq_some_iff.1 hu).1
            rw [eF, flatE_take, List.getElem?_take] at hu
            split at hu
            · rw [hW', World.cell?_setCells_out gq _ _ _ _ (fun _ _ => Or.inl (by assumption)), HK.out.1.cellAt _ (by omega)]
              exact hu
            · simp at hu
          · rw [hW', World.frozen?_setCells]; exact HK.out.1.frozenAt _
          · rw [hW']; exact gb_setCells _ _ HK.out.2.2
          · rw [eF, List.length_take, HK.out.2.1.1]; omega
        clear hW' hfm
        go_wp2
        go_ret
        exact ⟨by rw [HE.out.2.2]; rfl, HE.out.1, HE.out.2.1⟩

end Go.Proofs.YtgkddimijmnpcaaGreatDoor

/-
  Package fresh's Cell, with the room of its entries.
-/
namespace Go.Proofs.YtgkddimijmnpcaaGreatDoor
open Go.RowKit
set_option linter.unusedVariables false
set_option linter.unusedSimpArgs false

/-- A cell's lists in memory of their own, the entries' row below all the others. -/
def Parts (B mid : Nat) (w : World) (c : Ce) (q : Pl) : Prop :=
  w.ownsRow B 62 3 (.slice q.eo c.ents.length q.ec) c.ents.length (flatE c.ents) ∧ (∀ g, (Value.slice q.eo c.ents.length q.ec).ownBlock = some g → g < mid) ∧ B ≤ mid ∧ FOwn mid w q.lo (flatL c.elems) ∧ FOwn mid w q.so (flatI c.seen)

theorem Parts.own {B mid : Nat} {w : World} {c : Ce} {q : Pl} (h : Parts B mid w c q) : COwn B w c q := ⟨own_row h.1, h.2.2.2.1.mono h.2.2.1, h.2.2.2.2.mono h.2.2.1⟩

theorem Parts.mono {B C mid : Nat} {w : World} {c : Ce} {q : Pl} (h : Parts B mid w c q) (hC : C ≤ B) : Parts C mid w c q := ⟨own_mono h.1 hC, h.2.1, Nat.le_trans hC h.2.2.1, h.2.2.2⟩

theorem Parts.later {B mid : Nat} {w w' : World} {c : Ce} {q : Pl} (h : Parts B mid w c q) (hb : Below w.heap.size w w') : Parts B mid w' c q := ⟨own_later h.1 hb, h.2.1, h.2.2.1, h.2.2.2.1.later hb, h.2.2.2.2.later hb⟩

theorem Parts.put10 {B mid : Nat} {w : World} {c : Ce} {q : Pl} (h : Parts B mid w c q) {g : Nat} (hg : g < B) (u0 u1 u2 u3 u4 u5 u6 u7 u8 u9 : Value) : Parts B mid (put10 w g u0 u1 u2 u3 u4 u5 u6 u7 u8 u9) c q :=
  ⟨own_put10 h.1 hg _ _ _ _ _ _ _ _ _ _, h.2.1, h.2.2.1, h.2.2.2.1.put10 (Nat.lt_of_lt_of_le hg h.2.2.1) _ _ _ _ _ _ _ _ _ _, h.2.2.2.2.put10 (Nat.lt_of_lt_of_le hg h.2.2.1) _ _ _ _ _ _ _ _ _ _⟩

/-- The end of a copy, whatever placement q. -/
theorem freshO_end {fn : Func} {act : Act} {w w3 : World} {h : Nat} {c : Ce} {q : Pl} (H : Copy0 w h c q w3) {mid : Nat} (HO : Parts (h + 2) mid w3 c q) (hr : fn.results = #[.cell 2 30]) (h2 : act.tmps[2]? = some (.pointer (some ⟨h + 1, 0, none⟩))) (hd : act.defers = []) :
    bodyPost Tryz.prog fn (fun e w' => ∃ q mid, e = .returned (ceV c q) ∧ Parts h mid w' c q ∧ Below h w w') Exit.ret act (put10 w3 (h + 1) (.int .i64 c.kind) (.bool c.set) (.int .i64 c.time) (.int .i64 c.node) (.string c.val) (.int .i64 c.re) (.int .i64 c.im) (.slice q.eo c.ents.length q.ec) (.slice q.lo c.elems.length q.lc) (.slice q.so c.seen.length q.sc)) :=
  bodyPost_ret (ret_cell hr h2 (H.2.2.put10 _ _ _ _ _ _ _ _ _ _)) hd ⟨q, mid, rfl, (HO.put10 (by omega) _ _ _ _ _ _ _ _ _ _).mono (by omega), below_put10 H.1 (by omega) _ _ _ _ _ _ _ _ _ _⟩

set_option maxHeartbeats 1000000 in
set_option maxRecDepth 100000 in
theorem fentsO_any (ao : Option Addr) (ca : Nat) (l : List E3) (w : World) (hr : FRow w ao (flatE l)) (hn : l.length * 32 ≤ 140737488351232) (hs : ∀ (i : Nat) x, l[i]? = some x → x.val.size ≤ 140737488351232) :
    Calls Tryz.prog 132 #[.slice ao l.length ca] w fun e w' => ∃ bo cb, e = .returned (.slice bo l.length cb) ∧ w'.ownsRow w.heap.size 62 3 (.slice bo l.length cb) l.length (flatE l) ∧ Below w.heap.size w w' := by
  have HS : Hid (∀ (i : Nat) x, l[i]? = some x → x.val.size ≤ 140737488351232) := hs
  clear hs
  obtain ⟨h, hh⟩ : ∃ h, w.heap.size = h := ⟨_, rfl⟩
  rw [hh]
  go_enter Tryz.func132, Tryz.ntmps132
  go_wp2_with (at_builtin; refine wpList_onto rfl _ _ 26 rfl Tryz.underlying26 Tryz.infoEntry rfl (by decide) (by decide) (B := h) rfl rfl (own_nil w h _ _) hr (flatE_len _) (fun u hu => oneE hu) (by omega) (by omega) ?_; intro bo cb w1 o1 n1 b1; simp only [Nat.zero_add, List.nil_append] at o1 ⊢; have O1 : Hid (w1.ownsRow h 62 3 (.slice bo l.length cb) l.length (flatE l) ∧ Below h w w1) := ⟨o1, b1⟩; clear o1 n1 b1 hr)
  by_cases h0 : 0 < l.length
  · obtain ⟨g, rfl, hg, hg1, _⟩ := own_row O1.out.1 (by rw [flatE_len]; omega)
    go_loopg [8] l.length (fun n iv wr => ∃ i : Nat, i + n = l.length ∧ iv = .int .i64 i ∧ wr.ownsRow h 62 3 (.slice (some ⟨g, 0, none⟩) l.length cb) l.length (flatE l) ∧ Below h w wr)
    case atStart => exact ⟨0, by omega, rfl, O1.out.1, O1.out.2⟩
    case round =>
      obtain ⟨i, hin, rfl, hrel⟩ := hrel
      have HW : Hid (wr.ownsRow h 62 3 (.slice (some ⟨g, 0, none⟩) l.length cb) l.length (flatE l) ∧ Below h w wr) := hrel
      clear hrel
      by_cases hi : i < l.length
      · obtain ⟨x, hx⟩ : ∃ x, l[i]? = some x := ⟨_, List.getElem?_eq_getElem hi⟩
        obtain ⟨_, _, g2⟩ := flatE_at l i hx
        obtain ⟨b, eb, hb1, hb2, hc⟩ := own_row HW.out.1 (by rw [flatE_len]; omega)
        simp only [Option.some.injEq, Addr.mk.injEq, and_true] at eb
        subst eb
        have k2 := (hc _ _ g2).1
        have C := clone_any x.val wr (by have := HS.out i x hx; omega)
        have G2 : Hid ((flatE l)[i * 3 + 2]? = some (.string x.val)) := g2
        clear hc g2 hx
        go_wp2_with fail
        refine C.mono ?_
        rintro e w2 ⟨rfl, b2⟩
        have O2 : Hid (w2.ownsRow h 62 3 (.slice (some ⟨g, 0, none⟩) l.length cb) l.length (flatE l) ∧ Below h w w2) := ⟨own_later HW.out.1 b2, HW.out.2.trans (b2.mono (by omega))⟩
        obtain ⟨b, eb, _, hb3, hc⟩ := own_row O2.out.1 (by rw [flatE_len]; omega)
        simp only [Option.some.injEq, Addr.mk.injEq, and_true] at eb
        subst eb
        have q2 := (hc _ _ G2.out).1
        have q3 := (hc _ _ G2.out).2
        clear C b2 k2 hc
        go_wp2
        go_roundg (gk - 1)
        case measure => omega
        case rel => exact ⟨i + 1, by omega, by go_num, own_same O2.out.1 G2.out, O2.out.2.setCell (p := ⟨g, i * 3 + 2, none⟩) hg _⟩
      · have hd : decide ((i : Int) < (l.length : Int)) = false := by simp; omega
        go_wp2
        go_ret
        exact ⟨_, _, rfl, HW.out.1, HW.out.2⟩
  · obtain rfl : l = [] := List.eq_nil_of_length_eq_zero (by omega)
    refine wp_loop_rounds 1 ?_
    rw [rounds_succ]
    go_wp2
    go_ret
    exact ⟨_, _, rfl, O1.out.1, O1.out.2⟩

set_option maxHeartbeats 1000000 in
set_option maxRecDepth 100000 in
theorem fcellO_any (c : Ce) (p : Pl) (w : World) (hr : CRow w c p) (hf : Fit c) :
    Calls Tryz.prog 100 #[ceV c p] w fun e w' => ∃ q mid, e = .returned (ceV c q) ∧ Parts w.heap.size mid w' c q ∧ Below w.heap.size w w' := by
  have H0 : Hid (Copy0 w w.heap.size c p (((w.alloc (.cells (ceL c p).toArray 30)).alloc (.cells (ceL ce0 pl0).toArray 30)))) := copy0_new w c p 30
  obtain ⟨h, hh⟩ : ∃ h, w.heap.size = h := ⟨_, rfl⟩
  rw [hh] at H0 ⊢
  have HR : Hid (CRow w c p ∧ Fit c) := ⟨hr, hf⟩
  have hv := hf.2.2.2.1
  clear hr hf
  go_enter Tryz.func100, Tryz.ntmps100
  go_wp2_with fail
  refine (clone_any c.val _ (by omega)).mono ?_
  rintro e w1 ⟨rfl, b1⟩
  have H1 : Hid (Copy0 w h c p w1) := H0.out.later b1
  have S1 : Hid (Copy0 w h c p (w1.setCell ⟨h, 4, none⟩ (.string c.val))) := H1.out.set4
  have t7 := H1.out.2.1.at 7 rfl
  have t4 := H1.out.2.1.at 4 rfl
  have y4 := H1.out.2.1.free 4 rfl
  clear b1 H0
  go_wp2_with fail
  refine (fentsO_any p.eo p.ec c.ents _ (S1.out.row hh HR.out.1).1 HR.out.2.1 HR.out.2.2.2.2.2.1).mono ?_
  rintro e w2 ⟨eo, ec, rfl, o2, b2⟩
  obtain ⟨mid, hmid⟩ : ∃ mid, w2.heap.size = mid := ⟨_, rfl⟩
  have K2 : Hid (w2.ownsRow (h + 2) 62 3 (.slice eo c.ents.length ec) c.ents.length (flatE c.ents) ∧ (∀ g, (Value.slice eo c.ents.length ec).ownBlock = some g → g < mid) ∧ h + 2 ≤ mid) := ⟨own_mono o2 S1.out.size, fun g hg => hmid ▸ (o2.lt g hg).2, by have := S1.out.size; have := b2.size; omega⟩
  have HM : Hid (w2.heap.size = mid) := hmid
  clear hmid
  have H2 : Hid (Copy0 w h c p w2) := S1.out.later b2
  have S2 : Hid (Copy0 w h c { p with eo := eo, ec := ec } (w2.setCell ⟨h, 7, none⟩ (.slice eo c.ents.length ec))) := H2.out.set7 eo ec
  clear t7 t4 y4 b2 o2 H1 S1
  have t7 := H2.out.2.1.at 7 rfl
  have y7 := H2.out.2.1.free 7 rfl
  have t8 := H2.out.2.1.at 8 rfl
  go_wp2_with fail
  refine (felems_any p.lo p.lc c.elems _ (S2.out.row hh HR.out.1).2.1 HR.out.2.2.1 HR.out.2.2.2.2.2.2).mono ?_
  rintro e w3 ⟨lo, lc, rfl, o3, n3, b3⟩
  have K3 : Hid (w3.ownsRow (h + 2) 62 3 (.slice eo c.ents.length ec) c.ents.length (flatE c.ents) ∧ FOwn mid w3 lo (flatL c.elems) ∧ mid ≤ w3.heap.size) := ⟨own_later (ownsRow_setCell_below K2.out.1 (a := ⟨h, 7, none⟩) (by show h < h + 2; omega) _) b3, o3.mono (by rw [← HM.out]; simp), by have := b3.size; rw [← HM.out]; simpa using this⟩
  have H3 : Hid (Copy0 w h c { p with eo := eo, ec := ec } w3) := S2.out.later b3
  have S3 : Hid (Copy0 w h c { p with eo := eo, ec := ec, lo := lo, lc := lc } (w3.setCell ⟨h, 8, none⟩ (.slice lo c.elems.length lc))) := H3.out.set8 lo lc
  clear t7 y7 t8 b3 n3 o3 H2 S2
  have t8 := H3.out.2.1.at 8 rfl
  have y8 := H3.out.2.1.free 8 rfl
  have t9 := H3.out.2.1.at 9 rfl
  go_wp2_with fail
  refine (fints_any p.so p.sc c.seen _ (S3.out.row hh HR.out.1).2.2 HR.out.2.2.2.1).mono ?_
  rintro e w4 ⟨so, sc, rfl, o4, n4, b4⟩
  have H4 : Hid (Copy0 w h c { p with eo := eo, ec := ec, lo := lo, lc := lc } w4) := S3.out.later b4
  have E0 : Hid ((w4.setCell ⟨h, 9, none⟩ (.slice so c.seen.length sc)).ownsRow (h + 2) 62 3 (.slice eo c.ents.length ec) c.ents.length (flatE c.ents)) :=
    ownsRow_setCell_below (own_later (ownsRow_setCell_below K3.out.1 (a := ⟨h, 8, none⟩) (by show h < h + 2; omega) _) b4) (a := ⟨h, 9, none⟩) (by show h < h + 2; omega) _
  have hm2 := K2.out.2.2
  have E4 : Hid (Parts (h + 2) mid (w4.setCell ⟨h, 9, none⟩ (.slice so c.seen.length sc)) c ⟨eo, ec, lo, lc, so, sc⟩) :=
    ⟨E0.out, K2.out.2.1, hm2, ((K3.out.2.1.off (g := h) (by omega) 8 _).later b4).off (by omega) 9 _, (o4.mono (by have := K3.out.2.2; simpa using this)).off (by omega) 9 _⟩
  have H5 : Hid (Copy0 w h c ⟨eo, ec, lo, lc, so, sc⟩ (w4.setCell ⟨h, 9, none⟩ (.slice so c.seen.length sc))) := H4.out.set9 so sc
  clear t8 y8 t9 b4 n4 o4 H3 S3
  obtain ⟨t0, t1, t2, t3, t4, t5, t6, t7, t8, t9⟩ := H4.out.2.1.ten
  have y9 := H4.out.2.1.free 9 rfl
  obtain ⟨s0, s1, s2, s3, s4, s5, s6, s7, s8, s9⟩ := H4.out.2.2.ten
  obtain ⟨z0, z1, z2, z3, z4, z5, z6, z7, z8, z9⟩ := H4.out.2.2.tenf
  go_wp2_with fail
  exact freshO_end (q := ⟨eo, ec, lo, lc, so, sc⟩) H5.out E4.out rfl rfl rfl

end Go.Proofs.YtgkddimijmnpcaaGreatDoor

/-
  Package orset's Drop, by contract.
-/
namespace Go.Proofs.YtgkddimijmnpcaaGreatDoor
open Go.RowKit Go.Shelf
set_option linter.unusedVariables false
set_option linter.unusedSimpArgs false

set_option maxHeartbeats 400000 in
set_option maxRecDepth 100000 in
/-- The closure of Drop: is the entry's dot among the sorted ones? -/
theorem dropIs_any (m : List D2) (so : Option Addr) (cs k : Nat) (W : World) (x : E3) (h0 : W.cell? ⟨k, 0, none⟩ = some (.slice so m.length cs)) (hk : k < W.heap.size) (hr : FRow W so (flatD m)) (hl : m.length * 16 ≤ 140737488355328) (hu : Up m) :
    Calls Tryz.prog 110 #[ev x, .pointer (some ⟨k, 0, none⟩)] W fun e w' => e = .returned (.bool (decide (dotE x ∈ m))) ∧ Below W.heap.size W w' := by
  have hal : Below W.heap.size W (W.alloc (.cells #[.int .i64 x.node, .int .i64 x.seq, .string x.val] 62)) := (Below.refl _ _).alloc (Nat.le_refl _) _
  have C := bsearch_any (dotE x) so cs m (W.alloc (.cells #[.int .i64 x.node, .int .i64 x.seq, .string x.val] 62)) (hr.later hal) hl hu
  have hne : k ≠ W.heap.size := by omega
  generalize decide (dotE x ∈ m) = q at C ⊢
  clear hr hu
  go_enter Tryz.func110, Tryz.ntmps110
  go_wp2_with fail
  refine C.mono ?_
  rintro e w1 ⟨r, rfl, b1⟩
  go_wp2
  go_ret
  exact ⟨rfl, thenB hal b1⟩

theorem enters_drop : ∀ args w, (callFunc 110 args).run Tryz.prog w = .ok (.enter 110 args) w := enters_of Tryz.func110 (by kernel_rfl) rfl

/-- A cell with other entries. -/
abbrev cE (c : Ce) (l : List E3) : Ce := ⟨c.kind, c.set, c.time, c.node, c.val, c.re, c.im, l, c.elems, c.seen⟩
/-- Without the entries of those dots. -/
def dropL (l : List E3) (ds : List D2) : List E3 := l.filter fun x => !decide (dotE x ∈ ds)

theorem drop_same {ds m : List D2} (h : ∀ t, t ∈ m ↔ t ∈ ds) (l : List E3) : (l.filter fun x => !decide (dotE x ∈ m)) = dropL l ds := by
  unfold dropL
  congr 1
  funext x
  simp [h]

set_option maxHeartbeats 400000 in
set_option maxRecDepth 100000 in
/-- Drop refuses. -/
theorem drop_no (c : Ce) (p : Pl) (v : Value) (w : World) (hk : (c.kind != 2) = true) :
    Calls Tryz.prog 61 #[ceV c p, v] w fun e w' => e = .returned (.tuple #[ceV ce0 pl0, .int .i64 900]) ∧ Below w.heap.size w w' := by
  have H0 : Hid (Copy0 w w.heap.size c p (((w.alloc (.cells (ceL c p).toArray 30)).alloc (.cells (ceL ce0 pl0).toArray 30)))) := copy0_new w c p 30
  obtain ⟨h, hh⟩ : ∃ h, w.heap.size = h := ⟨_, rfl⟩
  rw [hh] at H0 ⊢
  go_enter Tryz.func61, Tryz.ntmps61
  go_wp2_with fail
  exact bodyPost_ret (ret_cell2 rfl rfl rfl H0.out.2.2) rfl ⟨rfl, H0.out.1⟩

/-- The end of a call that is taken. -/
theorem drop_end {fn : Func} {act : Act} {w W : World} {h : Nat} {d : Ce} {q : Pl} {r4 : Nat} (hB : Below h w W) (HA : Has W (h + 1) (ceL ce0 pl0)) (HO : COwn (h + 2) W d q) (hr : fn.results = #[.cell r4 30, .tmp (r4 + 1)]) (h6 : act.tmps[r4]? = some (.pointer (some ⟨h + 1, 0, none⟩))) (h7 : act.tmps[r4 + 1]? = some (.int .i64 0)) (hd : act.defers = []) :
    bodyPost Tryz.prog fn (fun e w' => ∃ q, e = .returned (.tuple #[ceV d q, .int .i64 0]) ∧ COwn h w' d q ∧ Below h w w') Exit.ret act (put10 W (h + 1) (.int .i64 d.kind) (.bool d.set) (.int .i64 d.time) (.int .i64 d.node) (.string d.val) (.int .i64 d.re) (.int .i64 d.im) (.slice q.eo d.ents.length q.ec) (.slice q.lo d.elems.length q.lc) (.slice q.so d.seen.length q.sc)) :=
  bodyPost_ret (ret_cell2 hr h6 h7 (HA.put10 _ _ _ _ _ _ _ _ _ _)) hd ⟨q, rfl, (HO.put10 (by omega) _ _ _ _ _ _ _ _ _ _).mono (by omega), below_put10 hB (by omega) _ _ _ _ _ _ _ _ _ _⟩

set_option maxHeartbeats 1000000 in
set_option maxRecDepth 100000 in
/-- Drop takes it. -/
theorem drop_yes (c : Ce) (p : Pl) (ao : Option Addr) (ca : Nat) (ds : List D2) (w : World) (hr : CRow w c p) (hf : Fit c) (hds : FRow w ao (flatD ds)) (hl : ds.length * 16 ≤ 140737488355328) (hk : (c.kind != 2) = false) :
    Calls Tryz.prog 61 #[ceV c p, .slice ao ds.length ca] w fun e w' => ∃ q, e = .returned (.tuple #[ceV (cE c (dropL c.ents ds)) q, .int .i64 0]) ∧ COwn w.heap.size w' (cE c (dropL c.ents ds)) q ∧ Below w.heap.size w w' := by
  have H0 : Hid (Copy0 w w.heap.size c p (((w.alloc (.cells (ceL c p).toArray 30)).alloc (.cells (ceL ce0 pl0).toArray 30)))) := copy0_new w c p 30
  obtain ⟨h, hh⟩ : ∃ h, w.heap.size = h := ⟨_, rfl⟩
  rw [hh] at H0 ⊢
  have HR : Hid (CRow w c p ∧ Fit c ∧ FRow w ao (flatD ds) ∧ w.heap.size = h) := ⟨hr, hf, hds, hh⟩
  obtain ⟨L, hL⟩ : ∃ L, dropL c.ents ds = L := ⟨_, rfl⟩
  rw [hL]
  have HL : Hid (dropL c.ents ds = L) := hL
  clear hr hf hds hL
  go_enter Tryz.func61, Tryz.ntmps61
  go_wp2_with (first
    | (at_builtin
       refine wpList_onto rfl _ _ 33 rfl Tryz.underlying33 Tryz.infoDot rfl (by decide) (by decide) (B := h + 2) rfl rfl (own_nil _ (h + 2) _ _) (HR.out.2.2.1.later (HR.out.2.2.2.symm ▸ H0.out.1)) (flatD_len _) (fun u hu => oneD hu) (by omega) H0.out.size ?_
       intro so cs w1 o1 n1 b1
       clear n1
       simp only [Nat.zero_add, List.nil_append] at o1 ⊢
       have H1 : Hid (Copy0 w h c p w1 ∧ w1.ownsRow (h + 2) 32 2 (.slice so ds.length cs) ds.length (flatD ds)) := ⟨⟨H0.out.1.trans (b1.mono (by omega)), H0.out.2.1.under (by omega) b1, H0.out.2.2.under (by omega) b1⟩, o1⟩
       clear o1 b1 H0
       obtain ⟨k6, hk6⟩ : ∃ k, w1.heap.size = k := ⟨_, rfl⟩))
  have hal : Below w1.heap.size w1 (w1.alloc (.cells #[.slice so ds.length cs] 33)) := (Below.refl _ _).alloc (Nat.le_refl _) _
  have H2 : Hid (Copy0 w h c p (w1.alloc (.cells #[.slice so ds.length cs] 33)) ∧ (w1.alloc (.cells #[.slice so ds.length cs] 33)).ownsRow (h + 2) 32 2 (.slice so ds.length cs) ds.length (flatD ds) ∧ Has (w1.alloc (.cells #[.slice so ds.length cs] 33)) k6 [.slice so ds.length cs] ∧ h + 2 ≤ k6 ∧ (∀ g, (Value.slice so ds.length cs).ownBlock = some g → g < k6 ∧ h + 2 ≤ g)) :=
    ⟨H1.out.1.later hal, own_later H1.out.2 hal, hk6 ▸ has_new w1 [.slice so ds.length cs] _, by have := H1.out.1.size; omega, fun g hg => ⟨hk6 ▸ (H1.out.2.lt g hg).2, (H1.out.2.lt g hg).1⟩⟩
  clear H1 hal
  refine (sort_any (h + 2) so cs ds _ H2.out.2.1 hl H2.out.1.size).mono ?_
  rintro e w2 ⟨rfl, m, hml, hmem, hup, o2, g2⟩
  have H3 : Hid (Below h w w2 ∧ Has w2 h (ceL c p) ∧ Has w2 (h + 1) (ceL ce0 pl0) ∧ Has w2 k6 [.slice so ds.length cs] ∧ FRow w2 so (flatD m) ∧ Up m ∧ (∀ t, t ∈ m ↔ t ∈ ds) ∧ m.length = ds.length) := by
    have hn : ∀ g, g < h + 2 ∨ g = k6 → some g ≠ (Value.slice so ds.length cs).ownBlock := fun g hg e => by
      have := H2.out.2.2.2.2 g e.symm
      omega
    exact ⟨H2.out.1.1.trans (gb_to g2 (by have := H2.out.1.size; omega) fun k hk => by have := (H2.out.2.2.2.2 k hk).2; omega), gb_has g2 H2.out.1.2.1 (hn _ (Or.inl (by omega))), gb_has g2 H2.out.1.2.2 (hn _ (Or.inl (by omega))), gb_has g2 H2.out.2.2.1 (hn _ (Or.inr rfl)), o2.row, hup, hmem, hml⟩
  clear H2 hmem hup o2 g2 hml hk6
  obtain ⟨B, hB⟩ : ∃ B, w2.heap.size = B := ⟨_, rfl⟩
  have hB1 : h + 2 ≤ B := by have := H3.out.2.2.1.1; omega
  have hB6 : k6 < B := by have := H3.out.2.2.2.1.1; omega
  obtain ⟨t0, t1, t2, t3, t4, t5, t6, t7, t8, t9⟩ := H3.out.2.1.ten
  go_wp2_with fail
  refine (fcellO_any c p _ (HR.out.1.later (HR.out.2.2.2.symm ▸ H3.out.1)) HR.out.2.1).mono ?_
  rintro e w3 ⟨q, mid, rfl, P3, b3⟩
  rw [hB] at P3 b3
  obtain ⟨k7, hk7⟩ : ∃ k, w3.heap.size = k := ⟨_, rfl⟩
  have hal : Below w3.heap.size w3 (w3.alloc (.cells (ceL c q).toArray 30)) := (Below.refl _ _).alloc (Nat.le_refl _) _
  have H4 : Hid (Below B w2 (w3.alloc (.cells (ceL c q).toArray 30)) ∧ Has (w3.alloc (.cells (ceL c q).toArray 30)) k7 (ceL c q) ∧ Parts B mid (w3.alloc (.cells (ceL c q).toArray 30)) c q ∧ (∀ g, (Value.slice q.eo c.ents.length q.ec).ownBlock = some g → g < k7) ∧ B ≤ k7) :=
    ⟨b3.trans (hal.mono (by have := b3.size; omega)), hk7 ▸ has_new w3 (ceL c q) _, P3.later hal, fun g hg => hk7 ▸ (P3.1.lt g hg).2, by have := b3.size; omega⟩
  have hsz : (w3.alloc (.cells (ceL c q).toArray 30)).heap.size = k7 + 1 := by simp [hk7]
  have HP : Hid (Pred B (w3.alloc (.cells (ceL c q).toArray 30)) 110 #[.pointer (some ⟨k6, 0, none⟩)] (fun x => decide (dotE x ∈ m))) := fun W x hW hs => by
    have hb : Below B w2 W := H4.out.1.trans hW
    have hb2 : Below w2.heap.size w2 W := hB.symm ▸ hb
    have h6 := H3.out.2.2.2.1.under hB6 hb
    have e := H3.out.2.2.2.2.2.2.2
    exact dropIs_any m so cs k6 W x (by rw [e]; exact h6.at 0 rfl) (by omega) (H3.out.2.2.2.2.1.later hb2) (by rw [e]; exact hl) H3.out.2.2.2.2.2.1
  have HP3 : Hid (Parts B mid w3 c q ∧ w3.heap.size = k7) := ⟨P3, hk7⟩
  clear P3 b3 hal t0 t1 t2 t3 t4 t5 t6 t7 t8 t9
  go_wp2_with fail
  refine (delete_any (fun x => decide (dotE x ∈ m)) 110 #[.pointer (some ⟨k6, 0, none⟩)] enters_drop B B q.eo q.ec c.ents _ H4.out.2.2.1.1 (Nat.le_refl _) (by have := H4.out.2.2.2.2; omega) HP.out).mono ?_
  rintro e w5 ⟨rfl, o5, g5⟩
  rw [drop_same H3.out.2.2.2.2.2.2.1, HL.out] at o5 ⊢
  have hn7 : ∀ b, q.eo = some ⟨b, 0, none⟩ → b ≠ k7 := fun b hb e => by
    have := H4.out.2.2.2.1 b (by rw [hb]; rfl)
    omega
  have H5 : Hid (Has w5 k7 (ceL c q) ∧ Below h w w5 ∧ Has w5 (h + 1) (ceL ce0 pl0) ∧ FOwn B w5 q.eo (flatE L) ∧ FOwn B w5 q.lo (flatL c.elems) ∧ FOwn B w5 q.so (flatI c.seen)) := by
    have hn : some k7 ≠ (Value.slice q.eo c.ents.length q.ec).ownBlock := fun e => by
      have := H4.out.2.2.2.1 k7 e.symm
      omega
    have hb5 : Below B w2 w5 := H4.out.1.trans (gb_to g5 (by have := H4.out.2.2.2.2; omega) fun k hk => (H4.out.2.2.1.1.lt k hk).1)
    exact ⟨gb_has g5 H4.out.2.1 hn, H3.out.1.trans (hb5.mono (by omega)), H3.out.2.2.1.under (by omega) hb5, o5, (gb_fown g5 H4.out.2.2.1.2.1 H4.out.2.2.1.2.2.2.1).mono H4.out.2.2.1.2.2.1, (gb_fown g5 H4.out.2.2.1.2.1 H4.out.2.2.1.2.2.2.2).mono H4.out.2.2.1.2.2.1⟩
  have hk7B : B ≤ k7 := H4.out.2.2.2.2
  have E5 : Hid (Below h w (w5.setCell ⟨k7, 7, none⟩ (.slice q.eo L.length q.ec)) ∧ Has (w5.setCell ⟨k7, 7, none⟩ (.slice q.eo L.length q.ec)) (h + 1) (ceL ce0 pl0) ∧ COwn (h + 2) (w5.setCell ⟨k7, 7, none⟩ (.slice q.eo L.length q.ec)) (cE c L) q) :=
    ⟨H5.out.2.1.setCell (p := ⟨k7, 7, none⟩) (by show h ≤ k7; omega) _, H5.out.2.2.1.other (by omega) _ _, (fown_apart H5.out.2.2.2.1 hn7 _).mono hB1, (fown_young HP3.out.1.2.2.2.1 (by rw [HP3.out.2]; exact Nat.le_refl _) H5.out.2.2.2.2.1 _).mono hB1, (fown_young HP3.out.1.2.2.2.2 (by rw [HP3.out.2]; exact Nat.le_refl _) H5.out.2.2.2.2.2 _).mono hB1⟩
  clear H3 H4 HP HP3 o5 g5 hsz hB hk7 hn7
  obtain ⟨t0, t1, t2, t3, t4, t5, t6, t7, t8, t9⟩ := H5.out.1.ten
  have y7 := H5.out.1.free 7 rfl
  obtain ⟨s0, s1, s2, s3, s4, s5, s6, s7, s8, s9⟩ := H5.out.2.2.1.ten
  obtain ⟨z0, z1, z2, z3, z4, z5, z6, z7, z8, z9⟩ := H5.out.2.2.1.tenf
  have hne : h + 1 ≠ k7 := by omega
  go_wp2_with fail
  exact drop_end (d := cE c L) (q := q) (r4 := 4) E5.out.1 E5.out.2.1 E5.out.2.2 rfl rfl rfl rfl

end Go.Proofs.YtgkddimijmnpcaaGreatDoor

/-
  The laws' own Num: an error's number.
-/
namespace Go.Proofs.YtgkddimijmnpcaaGreatDoor
open Go.RowKit
set_option linter.unusedVariables false

theorem num_any (x : Int) (w : World) :
    Calls Tryz.prog 18 #[.int .i64 x] w fun e w' => e = .returned (.int .i64 x) ∧ w' = w := by
  go_enter Tryz.func18, Tryz.ntmps18
  go_wp2
  go_ret
  exact ⟨rfl, rfl⟩

end Go.Proofs.YtgkddimijmnpcaaGreatDoor

/-
  Package dot, and the document's own answers to it: whether a dot may be, which stamp is less.
-/
namespace Go.Proofs.YtgkddimijmnpcaaGreatDoor
open Go.RowKit
set_option linter.unusedVariables false

def mayB (k s n : Int) : Bool := decide (1 ≤ n ∧ n ≤ 16 ∧ 0 ≤ k ∧ k < n ∧ 1 ≤ s ∧ s ≤ 1048575)
def lessB (t n t' n' : Int) : Bool := decide (t < t' ∨ t = t' ∧ n < n')

set_option maxHeartbeats 400000 in
theorem may_any (k s n : Int) (w : World) :
    Calls Tryz.prog 94 #[.agg #[.int .i64 k, .int .i64 s], .int .i64 n] w fun e w' => e = .returned (.bool (mayB k s n)) ∧ Below w.heap.size w w' := by
  go_enter Tryz.func94, Tryz.ntmps94
  go_wp2
  all_goals (go_ret; exact ⟨ret_bool (by unfold mayB; rw [Bool.eq_iff_iff]; simp; omega), (Below.refl _ _).alloc (Nat.le_refl _) _⟩)

set_option maxHeartbeats 400000 in
theorem refMay_any (k s n : Int) (w : World) :
    Calls Tryz.prog 66 #[.agg #[.int .i64 k, .int .i64 s], .int .i64 n] w fun e w' => e = .returned (.bool (mayB k s n)) ∧ Below w.heap.size w w' := by
  go_enter Tryz.func66, Tryz.ntmps66
  go_wp2
  all_goals (go_ret; exact ⟨ret_bool (by unfold mayB; rw [Bool.eq_iff_iff]; simp; omega), (Below.refl _ _).alloc (Nat.le_refl _) _⟩)

set_option maxHeartbeats 400000 in
theorem less_any (t n t' n' : Int) (w : World) :
    Calls Tryz.prog 101 #[.agg #[.int .i64 t, .int .i64 n], .agg #[.int .i64 t', .int .i64 n']] w fun e w' => e = .returned (.bool (lessB t n t' n')) ∧ Below w.heap.size w w' := by
  by_cases ht : t = t'
  · subst ht
    have hd : (t == t) = true := by simp
    go_enter Tryz.func101, Tryz.ntmps101
    go_wp2
    all_goals (go_ret; exact ⟨ret_bool (by unfold lessB; rw [Bool.eq_iff_iff]; simp), ((Below.refl _ _).alloc (Nat.le_refl _) _).alloc (by simp) _⟩)
  · have hd : (t == t') = false := by simpa using ht
    go_enter Tryz.func101, Tryz.ntmps101
    go_wp2
    all_goals (go_ret; exact ⟨ret_bool (by unfold lessB; rw [Bool.eq_iff_iff]; simp [ht]), ((Below.refl _ _).alloc (Nat.le_refl _) _).alloc (by simp) _⟩)

set_option maxHeartbeats 400000 in
theorem refLess_any (t n t' n' : Int) (w : World) :
    Calls Tryz.prog 118 #[.agg #[.int .i64 t, .int .i64 n], .agg #[.int .i64 t', .int .i64 n']] w fun e w' => e = .returned (.bool (lessB t n t' n')) ∧ Below w.heap.size w w' := by
  go_enter Tryz.func118, Tryz.ntmps118
  go_wp2
  all_goals (go_ret; exact ⟨ret_bool (by unfold lessB; rw [Bool.eq_iff_iff]; simp; omega), ((Below.refl _ _).alloc (Nat.le_refl _) _).alloc (by simp) _⟩)

end Go.Proofs.YtgkddimijmnpcaaGreatDoor

/-
  Rows of texts; the laws' own SameTexts at two that are the same.
-/
namespace Go.Proofs.YtgkddimijmnpcaaGreatDoor
open Go.RowKit
set_option linter.unusedVariables false
set_option linter.unusedSimpArgs false

def flatT (l : List ByteArray) : List Value := l.map .string
theorem flatT_len (l : List ByteArray) : (flatT l).length = l.length * 1 := by simp [flatT]
theorem flatT_append (l m : List ByteArray) : flatT (l ++ m) = flatT l ++ flatT m := by simp [flatT]
theorem flatT_at {l : List ByteArray} {i : Nat} {x : ByteArray} (h : l[i]? = some x) : (flatT l)[i]? = some (.string x) := by simp [flatT, h]
theorem oneT {l : List ByteArray} {u : Value} (h : u ∈ flatT l) : u.oneCell' = true := by
  simp only [flatT, List.mem_map] at h
  obtain ⟨p, _, rfl⟩ := h; rfl
theorem Tryz.infoText : (Tryz.prog.info? 9).map (fun i => (i.zero, i.size, i.bytes)) = some (some (.string ByteArray.empty), 1, 16) := by kernel_rfl

end Go.Proofs.YtgkddimijmnpcaaGreatDoor

