/-
  Rows of structs of whatever width, by their cells: where they lie, how they stay, those that a call itself made; a row copied behind nothing. A block that is known whole.
-/
import Derived.Test.YtjfgccjdkflfoaaZPack1
import Derived.Deep.Slices
import Derived.SizedLaws
import Derived.WalkKit
import Derived.Laws.OwnMore
import Derived.WalkSpells
import Derived.WalkLawsBesides
import Derived.Deep.AppendLies
namespace Go.Proofs.Ytjfgccjdkflfoaa
open Go.ChangeShapes Go.WideShapes Go.ChangeAt Go.RowKit
set_option linter.unusedVariables false
set_option linter.unusedSimpArgs false

/-- The cells xs lie where ao points to. -/
def FRow (w : World) (ao : Option Addr) (xs : List Value) : Prop :=
  0 < xs.length → ∃ b off, ao = some ⟨b, off, none⟩ ∧ b < w.heap.size ∧ ∀ i u, xs[i]? = some u → w.cell? ⟨b, off + i, none⟩ = some u

/-- They lie in memory that was made since B, and may be written. -/
def FOwn (B : Nat) (w : World) (ao : Option Addr) (xs : List Value) : Prop :=
  0 < xs.length → ∃ b, ao = some ⟨b, 0, none⟩ ∧ B ≤ b ∧ b < w.heap.size ∧ ∀ i u, xs[i]? = some u → w.cell? ⟨b, i, none⟩ = some u ∧ w.frozen? ⟨b, i, none⟩ = false

theorem FRow.nil (w : World) (ao : Option Addr) : FRow w ao [] := fun h => by simp at h

theorem FOwn.nil (B : Nat) (w : World) (ao : Option Addr) : FOwn B w ao [] := fun h => by simp at h

theorem FOwn.row {B : Nat} {w : World} {ao : Option Addr} {xs : List Value} (h : FOwn B w ao xs) : FRow w ao xs := fun h0 => by
  obtain ⟨b, h1, _, h2, h3⟩ := h h0
  exact ⟨b, 0, h1, h2, fun i u hu => by rw [Nat.zero_add]; exact (h3 i u hu).1⟩

theorem FRow.later {w w' : World} {ao : Option Addr} {xs : List Value} (h : FRow w ao xs) (hb : Below w.heap.size w w') : FRow w' ao xs := fun h0 => by
  obtain ⟨b, off, h1, h2, h3⟩ := h h0
  exact ⟨b, off, h1, Nat.lt_of_lt_of_le h2 hb.size, fun i u hu => (hb.cell (by exact h2)).trans (h3 i u hu)⟩

theorem FOwn.later {B : Nat} {w w' : World} {ao : Option Addr} {xs : List Value} (h : FOwn B w ao xs) (hb : Below w.heap.size w w') : FOwn B w' ao xs := fun h0 => by
  obtain ⟨b, h1, h4, h2, h3⟩ := h h0
  exact ⟨b, h1, h4, Nat.lt_of_lt_of_le h2 hb.size, fun i u hu => ⟨(hb.cell (by exact h2)).trans (h3 i u hu).1, (hb.frozen (by exact h2)).trans (h3 i u hu).2⟩⟩

theorem FOwn.mono {B C : Nat} {w : World} {ao : Option Addr} {xs : List Value} (h : FOwn B w ao xs) (hC : C ≤ B) : FOwn C w ao xs := fun h0 => by
  obtain ⟨b, h1, h4, h2, h3⟩ := h h0
  exact ⟨b, h1, by omega, h2, h3⟩

/-- A row that lies below B stays while only what lies from B on turns. -/
theorem FOwn.kept {A B : Nat} {w v w' : World} {ao : Option Addr} {xs : List Value} (h : FOwn A w ao xs) (hB : w.heap.size ≤ B) (h1 : Below w.heap.size w v) (hb : Below B v w') : FOwn A w' ao xs := fun h0 => by
  obtain ⟨b, e, h4, h2, h3⟩ := h h0
  have hs := h1.size
  exact ⟨b, e, h4, by have := hb.size; omega, fun i u hu => ⟨((hb.cell (p := ⟨b, i, none⟩) (by exact Nat.lt_of_lt_of_le h2 hB)).trans (h1.cell (by exact h2))).trans (h3 i u hu).1, ((hb.frozen (p := ⟨b, i, none⟩) (by exact Nat.lt_of_lt_of_le h2 hB)).trans (h1.frozen (by exact h2))).trans (h3 i u hu).2⟩⟩

/-- The same put where it lies already. -/
theorem FOwn.same {B : Nat} {w : World} {g j : Nat} {xs : List Value} {u : Value} (h : FOwn B w (some ⟨g, 0, none⟩) xs) (hu : xs[j]? = some u) : FOwn B (w.setCell ⟨g, j, none⟩ u) (some ⟨g, 0, none⟩) xs := fun h0 => by
  obtain ⟨b, h1, h4, h2, h3⟩ := h h0
  simp only [Option.some.injEq, Addr.mk.injEq, and_true] at h1
  subst h1
  refine ⟨g, rfl, h4, by simpa using h2, fun i v hv => ⟨?_, by rw [World.frozen?_setCell]; exact (h3 i v hv).2⟩⟩
  by_cases e : j = i
  · subst e
    rw [hu] at hv
    simp only [Option.some.injEq] at hv
    subst hv
    exact World.cell?_setCell_same _ _ _ (h3 j u hu).1
  · rw [World.cell?_setCell_other _ _ _ _ (by simp [Ne.symm e, e])]
    exact (h3 i v hv).1

theorem flat_len {α : Type} (f : α → List Value) (s : Nat) (hf : ∀ a, (f a).length = s) (l : List α) : (l.flatMap f).length = l.length * s := by
  induction l with
  | nil => simp
  | cons a l ih => simp only [List.flatMap_cons, List.length_append, List.length_cons, hf, ih, Nat.add_mul]; omega

theorem flat_get {α : Type} (f : α → List Value) (s : Nat) (hf : ∀ a, (f a).length = s) (l : List α) (i k : Nat) (hk : k < s) {a : α} (ha : l[i]? = some a) : (l.flatMap f)[i * s + k]? = (f a)[k]? := by
  induction l generalizing i with
  | nil => simp at ha
  | cons b l ih =>
    cases i with
    | zero =>
      simp only [List.getElem?_cons_zero, Option.some.injEq] at ha
      subst ha
      rw [List.flatMap_cons, Nat.zero_mul, Nat.zero_add, List.getElem?_append_left (by rw [hf]; exact hk)]
    | succ i =>
      simp only [List.getElem?_cons_succ] at ha
      have e : (i + 1) * s + k = s + (i * s + k) := by rw [Nat.add_mul]; omega
      rw [List.flatMap_cons, e, List.getElem?_append_right (by rw [hf]; omega), hf, Nat.add_sub_cancel_left]
      exact ih i ha

theorem below_grownS {B : Nat} {w w' : World} {v : Value} {e : TypeId} {s n : Nat} {xs : List Value} (hown : w.ownsRow B e s v n xs) (hB : B ≤ w.heap.size) (hgrow : w.grownBy w' v.ownBlock) : Below B w w' := by
  refine (Below.refl _ _).grown hgrow hB ?_
  intro g hg
  rcases hown.2 with ⟨rfl, _⟩ | ⟨g', cap, cur, rfl, hb, _⟩
  · simp [Value.ownBlock] at hg
  · simp [Value.ownBlock] at hg; omega

theorem fown_at {B g cap n s : Nat} {w : World} {e : TypeId} {xs : List Value} (h : w.ownsRow B e s (.slice (some ⟨g, 0, none⟩) n cap) n xs) : FOwn B w (some ⟨g, 0, none⟩) xs := fun h0 => by
  refine ⟨g, rfl, (h.lt g rfl).1, (h.lt g rfl).2, fun i u hu => ?_⟩
  have hi := (List.getElem?_eq_some_iff.1 hu).1
  rw [h.1] at hi
  exact ⟨(h.cellAt i hi).trans hu, h.frozenAt i⟩

theorem add_off (b off j : Nat) : (⟨b, off, none⟩ : Addr).add j = ⟨b, off + j, none⟩ := by
  rcases j with _ | j
  · simp [Addr.add]
  · simp [Addr.add]

theorem run_append_empty {P : Program} (w : World) (t ty e : TypeId) (i : TypeInfo) (ht : P.underlying t = some (.slice e)) (hi : P.info? e = some i) (g : Option Nat) (cap : Nat) :
    (Builtin.append_ #[t, t] ty #[.slice (g.map fun g => ⟨g, 0, none⟩) 0 0, .slice none 0 cap]).run P w = .ok (.slice (g.map fun g => ⟨g, 0, none⟩) 0 0) w := by
  cases g <;> simp [Builtin.append_, run_underlying ht, sizeOf, typeInfo, hi, Builtin.lenOf, Builtin.firstCells, loadCells, storeCells]

/-- 'append(nothing, m...)': nothing is nil or an empty row of the call's own. -/
theorem wpList_copy {P : Program} {ops : Array Oper} {rest : List Oper} {o : Oper} {a : Act} {Q : Exit → Act → World → Prop} (hgd : o.guard = none) (s x : Operand) (t : TypeId)
    (ho : o.op = .call { callee := .builtin .append, args := #[s, x], argTypes := #[t, t] })
    {e : TypeId} {size bytes : Nat} {z : Value} (ht : P.underlying t = some (.slice e)) (hinfo : (P.info? e).map (fun i => (i.zero, i.size, i.bytes)) = some (some z, size, bytes)) (hzs : z.cells.size = size) (hsz : 0 < size) (hby : 0 < bytes)
    {B n : Nat} {g : Option Nat} {ao : Option Addr} {cap : Nat} {news : List Value} {wr : World}
    (hs : a.eval s = .slice (g.map fun g => ⟨g, 0, none⟩) 0 0) (hx : a.eval x = .slice ao n cap)
    (hown : wr.ownsRow B e size (.slice (g.map fun g => ⟨g, 0, none⟩) 0 0) 0 []) (hrow : FRow wr ao news) (hl : news.length = n * size) (hone : ∀ u ∈ news, u.oneCell' = true) (hlen : n * bytes ≤ 140737488355328) (hB : B ≤ wr.heap.size)
    (h : ∀ ao' cap' w', FOwn B w' ao' news → (g = none → n = 0 → ao' = none ∧ cap' = 0) → Below B wr w' → wpList P ops Q rest (a.put o.dst (.slice ao' n cap')) w') :
    wpList P ops Q (o :: rest) a wr := by
  obtain ⟨i0, hi, hz0, hz1, hz2⟩ := info_parts hinfo
  have hnn : n ≤ n * bytes := Nat.le_mul_of_pos_right n hby
  by_cases h0 : 0 < n
  · have hn0 : 0 < news.length := by rw [hl]; exact Nat.mul_pos h0 hsz
    obtain ⟨b, off, rfl, _, hc⟩ := hrow hn0
    refine wpList_append_lies _ hgd s x t ho B e i0 z size bytes ht hi hz0 hz1 hz2 hzs hsz _ 0 [] hs hown ⟨b, off, none⟩ n cap news hx hl (fun j u hj => by rw [add_off]; exact hc j u hj) hone h0 ?_ ?_ hB _ rfl ?_
    · unfold maxLen; omega
    · rw [Nat.zero_add]; exact hlen
    · intro g' c' w' hown' hgrow _ _
      rw [Nat.zero_add] at hown' ⊢
      rw [List.nil_append] at hown'
      exact h _ _ w' (fown_at hown') (fun _ h1 => by omega) (below_grownS hown hB hgrow)
  · have hn : n = 0 := by omega
    subst hn
    have hm : news = [] := List.eq_nil_of_length_eq_zero (by omega)
    subst hm
    have h' := h (g.map fun g => ⟨g, 0, none⟩) 0 wr (FOwn.nil _ _ _) (fun hg _ => by subst hg; exact ⟨rfl, rfl⟩) (Below.refl _ _)
    cases ao with
    | none =>
      refine wpList_plain hgd fun K hK => ?_
      unfold Oper.wp execOp
      have hr := run_append_empty wr t o.type e i0 ht hi g cap
      simp only [ho, resolve, invoke, builtin, Sem.run_bind, Sem.run_pure, Result.andThen_ok, List.map_toArray, List.map_cons, List.map_nil, hs, hx, hr]
      exact hK _ _ h'
    | some ad =>
      refine wpList_append_own _ hgd s x t ho B e i0 z size bytes ht hi hz0 hz1 hz2 hzs hsz _ 0 [] hs hown ad 0 cap [] hx (by simp) ?_ ?_ ?_ ?_ hB ?_
      · intro j u hj; simp at hj
      · intro u hu; simp at hu
      · unfold maxLen; omega
      · simp
      · intro v' w' hown' hgrow hni
        have hb := below_grownS hown hB hgrow
        rcases hown'.2 with ⟨rfl, h1⟩ | ⟨g', cap', cur, rfl, _⟩
        · exact h _ _ w' (FOwn.nil _ _ _) (fun _ _ => ⟨rfl, rfl⟩) hb
        · refine h _ _ w' (FOwn.nil _ _ _) (fun hg _ => ?_) hb
          subst hg
          exact absurd (hni.2 ⟨rfl, rfl⟩) (by simp)

theorem own_none (w : World) (B : Nat) (e : TypeId) (s : Nat) : w.ownsRow B e s (.slice ((none : Option Nat).map fun g => ⟨g, 0, none⟩) 0 0) 0 [] := ⟨by simp, Or.inl ⟨rfl, rfl⟩⟩

theorem own_empty {w : World} {k : Nat} (hk : w.heap.size = k) {e : TypeId} {s : Nat} : (w.alloc (.cells #[] e)).ownsRow k e s (.slice ((some k).map fun g => ⟨g, 0, none⟩) 0 0) 0 [] := by
  subst hk
  simpa using World.ownsRow_lit w #[] 0 (base := w.heap.size) (e := e) (size := s) (Nat.le_refl _) (by simp) (by simp)

/-- Block g holds the cells xs, and they may be written. -/
def Has (w : World) (g : Nat) (xs : List Value) : Prop :=
  g < w.heap.size ∧ ∀ i u, xs[i]? = some u → w.cell? ⟨g, i, none⟩ = some u ∧ w.frozen? ⟨g, i, none⟩ = false

theorem Has.later {w w' : World} {g : Nat} {xs : List Value} (h : Has w g xs) (hb : Below w.heap.size w w') : Has w' g xs :=
  ⟨Nat.lt_of_lt_of_le h.1 hb.size, fun i u hu => ⟨(hb.cell (by exact h.1)).trans (h.2 i u hu).1, (hb.frozen (by exact h.1)).trans (h.2 i u hu).2⟩⟩

theorem has_new (w : World) (xs : List Value) (t : TypeId) : Has (w.alloc (.cells xs.toArray t)) w.heap.size xs := by
  refine ⟨by simp, fun i u hu => ⟨?_, World.frozen?_alloc_at _ _ _ _ rfl⟩⟩
  rw [World.cell?_alloc_at _ _ _ _ rfl]
  simpa using hu

theorem Has.at {w : World} {g : Nat} {xs : List Value} (h : Has w g xs) (i : Nat) {u : Value} (hu : xs[i]? = some u) : w.cell? ⟨g, i, none⟩ = some u := (h.2 i u hu).1

theorem Has.free {w : World} {g : Nat} {xs : List Value} (h : Has w g xs) (i : Nat) {u : Value} (hu : xs[i]? = some u) : w.frozen? ⟨g, i, none⟩ = false := (h.2 i u hu).2

theorem Has.put {w : World} {g : Nat} {xs : List Value} (h : Has w g xs) (j : Nat) (v : Value) : Has (w.setCell ⟨g, j, none⟩ v) g (xs.set j v) := by
  refine ⟨by simpa using h.1, fun i u hu => ?_⟩
  by_cases e : j = i
  · subst e
    have hj : j < xs.length := by
      have := (List.getElem?_eq_some_iff.1 hu).1
      simpa using this
    rw [List.getElem?_set_self hj] at hu
    simp only [Option.some.injEq] at hu
    subst hu
    have h1 := h.2 j xs[j] (List.getElem?_eq_getElem hj)
    exact ⟨World.cell?_setCell_same _ _ _ h1.1, by rw [World.frozen?_setCell]; exact h1.2⟩
  · rw [List.getElem?_set_ne e] at hu
    have h1 := h.2 i u hu
    refine ⟨?_, by rw [World.frozen?_setCell]; exact h1.2⟩
    rw [World.cell?_setCell_other _ _ _ _ (by simp [Ne.symm e, e])]
    exact h1.1

theorem Has.other {w : World} {g k : Nat} {xs : List Value} (h : Has w g xs) (hk : k ≠ g) (o : Nat) (v : Value) : Has (w.setCell ⟨k, o, none⟩ v) g xs := by
  refine ⟨by simpa using h.1, fun i u hu => ⟨?_, by rw [World.frozen?_setCell]; exact (h.2 i u hu).2⟩⟩
  rw [World.cell?_setCell_other _ _ _ _ (fun e => by injection e with e _ _; first | exact hk e | exact hk e.symm)]
  exact (h.2 i u hu).1

end Go.Proofs.Ytjfgccjdkflfoaa

