/-
  slices.Insert at a row of entries of the call's own: one entry put in, whatever the room.
-/
import Derived.Test.YtedgobdeoheaoaaFind9
import Derived.Lib.Overlaps
import Derived.Lib.AppendZerosOnto
import Derived.Laws.IdiomCopy
import Derived.Deep.RegionLaw
namespace Go.Proofs.Ytedgobdeoheaoaa
open Go.RowKit Go.Shelf
set_option linter.unusedVariables false
set_option linter.unusedSimpArgs false

theorem flatE_append (l m : List E3) : flatE (l ++ m) = flatE l ++ flatE m := by simp [flatE]
theorem flatE_take (l : List E3) (i : Nat) : flatE (l.take i) = (flatE l).take (i * 3) := by
  induction l generalizing i with
  | nil => simp [flatE]
  | cons a l ih =>
    cases i with
    | zero => simp [flatE]
    | succ i =>
      have := ih i
      have e : (i + 1) * 3 = i * 3 + 1 + 1 + 1 := by omega
      simp only [flatE, e3, List.flatMap_cons, List.take_succ_cons, e, List.cons_append, List.nil_append] at this ⊢
      rw [this]
theorem flatE_drop (l : List E3) (i : Nat) : flatE (l.drop i) = (flatE l).drop (i * 3) := by
  induction l generalizing i with
  | nil => simp [flatE]
  | cons a l ih =>
    cases i with
    | zero => simp [flatE]
    | succ i =>
      have := ih i
      have e : (i + 1) * 3 = i * 3 + 1 + 1 + 1 := by omega
      simp only [flatE, e3, List.flatMap_cons, List.drop_succ_cons, e, List.cons_append, List.nil_append] at this ⊢
      rw [this]

/-- An entry put in at place i. -/
def insE (l : List E3) (i : Nat) (x : E3) : List E3 := l.take i ++ x :: l.drop i

theorem insE_len (l : List E3) (i : Nat) (x : E3) (hi : i ≤ l.length) : (insE l i x).length = l.length + 1 := by simp [insE]; omega

theorem insE_flat (l : List E3) (i : Nat) (x : E3) : flatE (insE l i x) = (flatE l).take (i * 3) ++ (e3 x ++ (flatE l).drop (i * 3)) := by
  have : insE l i x = l.take i ++ ([x] ++ l.drop i) := rfl
  rw [this, flatE_append, flatE_append, flatE_take, flatE_drop]
  simp [flatE]

theorem below_setCells {B : Nat} {a : World} {b : Nat} (hb : B ≤ b) : ∀ (vs : List Value) (o : Nat) {w : World}, Below B a w → Below B a (w.setCells b o vs)
  | [], _, _, h => h
  | v :: r, o, w, h => below_setCells hb r (o + 1) (h.setCell (p := ⟨b, o, none⟩) hb v)

theorem gb_setCells {a : World} {g : Nat} : ∀ (vs : List Value) (o : Nat) {w : World}, a.grownBy w (some g) → a.grownBy (w.setCells g o vs) (some g)
  | [], _, _, h => h
  | v :: r, o, w, h => gb_setCells r (o + 1) (gb_set h o v)

/-- A new block's cells set: nothing old turns. -/
theorem gb_newCells {a : World} {N : Nat} {row : Option Nat} (hN : a.heap.size ≤ N) : ∀ (vs : List Value) (o : Nat) {w : World}, a.grownBy w row → a.grownBy (w.setCells N o vs) row
  | [], _, _, h => h
  | v :: r, o, w, h => gb_newCells hN r (o + 1) ⟨h.os, h.tape, h.output, by simpa using h.size, fun i hi hne => (Below.heap_setCell _ _ _ _ (by show i ≠ N; omega)).trans (h.block i hi hne)⟩

theorem size_setCells (b : Nat) : ∀ (vs : List Value) (o : Nat) (w : World), (w.setCells b o vs).heap.size = w.heap.size
  | [], _, _ => rfl
  | v :: r, o, w => by rw [World.setCells, size_setCells b r]; simp

theorem some_setCells (b : Nat) : ∀ (vs : List Value) (o : Nat) (w : World) (x : Addr), (w.cell? x).isSome = true → ((w.setCells b o vs).cell? x).isSome = true
  | [], _, _, _, h => h
  | v :: r, o, w, x, h => by
    rw [World.setCells]
    refine some_setCells b r (o + 1) _ x ?_
    by_cases e : (⟨b, o, none⟩ : Addr) = x
    · subst e
      obtain ⟨u, hu⟩ := Option.isSome_iff_exists.1 h
      rw [World.cell?_setCell_same _ _ _ hu]; rfl
    · rw [World.cell?_setCell_other _ _ _ _ (by first | exact e | exact fun e' => e e'.symm)]; exact h

/-- The row behind both copies, the rest first. -/
theorem fown_shift {C g : Nat} {W : World} {F vs : List Value} {i3 : Nat} (hC : C ≤ g) (hg : g < W.heap.size) (hi : i3 ≤ F.length) (hF : ∀ k u, F[k]? = some u → W.cell? ⟨g, k, none⟩ = some u) (hs : ∀ k, k < F.length + vs.length → (W.cell? ⟨g, k, none⟩).isSome = true) (hfz : ∀ k, W.frozen? ⟨g, k, none⟩ = false) :
    FOwn C ((W.setCells g (i3 + vs.length) (F.drop i3)).setCells g i3 vs) (some ⟨g, 0, none⟩) (F.take i3 ++ (vs ++ F.drop i3)) := fun _ => by
  refine ⟨g, rfl, hC, by rw [size_setCells, size_setCells]; exact hg, fun k u hu => ⟨?_, by rw [World.frozen?_setCells, World.frozen?_setCells]; exact hfz k⟩⟩
  have hl : (F.take i3).length = i3 := by simp; omega
  have hk := (List.getElem?_eq_some_iff.1 hu).1
  simp only [List.length_append, List.length_drop, hl] at hk
  by_cases h1 : k < i3
  · rw [List.getElem?_append_left (by omega), List.getElem?_take, if_pos h1] at hu
    rw [World.cell?_setCells_out g _ _ _ _ (fun _ _ => Or.inl h1), World.cell?_setCells_out g _ _ _ _ (fun _ _ => Or.inl (by show k < _; omega))]
    exact hF k u hu
  · rw [List.getElem?_append_right (by omega), hl] at hu
    by_cases h2 : k < i3 + vs.length
    · rw [List.getElem?_append_left (by omega)] at hu
      have e : k = i3 + (k - i3) := by omega
      have hlt : k - i3 < vs.length := by omega
      have := World.cell?_setCells_in g vs i3 (W.setCells g (i3 + vs.length) (F.drop i3)) (fun j hj => some_setCells g _ _ _ _ (hs _ (by omega))) (k - i3) hlt
      rw [← e] at this
      rw [this, ← hu, List.getElem?_eq_getElem hlt]
    · rw [List.getElem?_append_right (by omega)] at hu
      rw [World.cell?_setCells_out g _ _ _ _ (fun _ _ => Or.inr (by show _ ≤ k; omega))]
      have e : k = i3 + vs.length + (k - (i3 + vs.length)) := by omega
      have hlt : k - (i3 + vs.length) < (F.drop i3).length := by simp; omega
      have := World.cell?_setCells_in g (F.drop i3) (i3 + vs.length) W (fun j hj => hs _ (by simp at hj; omega)) (k - (i3 + vs.length)) hlt
      rw [← e] at this
      have e2 : k - i3 - vs.length = k - (i3 + vs.length) := by omega
      rw [this, ← hu, e2, List.getElem?_eq_getElem hlt]

/-- The row behind both copies, the new ones first. -/
theorem fown_shift2 {C g : Nat} {W : World} {F vs : List Value} {i3 : Nat} (hC : C ≤ g) (hg : g < W.heap.size) (hi : i3 ≤ F.length) (hF : ∀ k u, k < i3 → F[k]? = some u → W.cell? ⟨g, k, none⟩ = some u) (hs : ∀ k, k < F.length + vs.length → (W.cell? ⟨g, k, none⟩).isSome = true) (hfz : ∀ k, W.frozen? ⟨g, k, none⟩ = false) :
    FOwn C (((W.setCells g i3 vs).drew).setCells g (i3 + vs.length) (F.drop i3)) (some ⟨g, 0, none⟩) (F.take i3 ++ (vs ++ F.drop i3)) := fun _ => by
  refine ⟨g, rfl, hC, by rw [size_setCells]; show g < (W.setCells g i3 vs).heap.size; rw [size_setCells]; exact hg, fun k u hu => ⟨?_, by rw [World.frozen?_setCells]; show (W.setCells g i3 vs).frozen? _ = false; rw [World.frozen?_setCells]; exact hfz k⟩⟩
  have hl : (F.take i3).length = i3 := by simp; omega
  have hk := (List.getElem?_eq_some_iff.1 hu).1
  simp only [List.length_append, List.length_drop, hl] at hk
  by_cases h1 : k < i3
  · rw [List.getElem?_append_left (by omega), List.getElem?_take, if_pos h1] at hu
    rw [World.cell?_setCells_out g _ _ _ _ (fun _ _ => Or.inl (by show k < _; omega))]
    show (W.setCells g i3 vs).cell? _ = _
    rw [World.cell?_setCells_out g _ _ _ _ (fun _ _ => Or.inl h1)]
    exact hF k u h1 hu
  · rw [List.getElem?_append_right (by omega), hl] at hu
    by_cases h2 : k < i3 + vs.length
    · rw [List.getElem?_append_left (by omega)] at hu
      rw [World.cell?_setCells_out g _ _ _ _ (fun _ _ => Or.inl h2)]
      show (W.setCells g i3 vs).cell? _ = _
      have e : k = i3 + (k - i3) := by omega
      have hlt : k - i3 < vs.length := by omega
      have := World.cell?_setCells_in g vs i3 W (fun j hj => hs _ (by omega)) (k - i3) hlt
      rw [← e] at this
      rw [this, ← hu, List.getElem?_eq_getElem hlt]
    · rw [List.getElem?_append_right (by omega)] at hu
      have e : k = i3 + vs.length + (k - (i3 + vs.length)) := by omega
      have hlt : k - (i3 + vs.length) < (F.drop i3).length := by simp; omega
      have := World.cell?_setCells_in g (F.drop i3) (i3 + vs.length) ((W.setCells g i3 vs).drew) (fun j hj => by show ((W.setCells g i3 vs).cell? _).isSome = true; exact some_setCells g _ _ _ _ (hs _ (by simp at hj; omega))) (k - (i3 + vs.length)) hlt
      rw [← e] at this
      have e2 : k - i3 - vs.length = k - (i3 + vs.length) := by omega
      rw [this, ← hu, e2, List.getElem?_eq_getElem hlt]

/-- 'copy(d, s)' at elements of k cells each; all is read ahead of what is written. -/
theorem run_copy_k {P : Program} (w : World) (dT sT ty elem : TypeId) (k b o dLen dCap : Nat) (a : Addr) (sLen sCap : Nat) (cs : List Value)
    (hu : P.underlying dT = some (.slice elem)) (hs : (P.info? elem).map (·.size) = some k) (hn : Nat.min sLen dLen * k = cs.length)
    (hsrc : ∀ j v, cs[j]? = some v → w.cell? (a.add j) = some v) (hc : ∀ j, j < cs.length → (w.cell? ⟨b, o + j, none⟩).isSome = true) (hf : ∀ j, j < cs.length → w.frozen? ⟨b, o + j, none⟩ = false) (h1 : ∀ v ∈ cs, v.oneCell' = true) :
    (Builtin.copy_ #[dT, sT] ty #[.slice (some ⟨b, o, none⟩) dLen dCap, .slice (some a) sLen sCap]).run P w = .ok (goInt (Nat.min sLen dLen)) (w.setCells b o cs) := by
  have hl := run_loadCells_list (P := P) w a cs hsrc
  have hst := run_storeCells_cells (P := P) b o cs 0 w (by simpa using hc) (by simpa using hf) h1
  cases hq : P.info? elem with
  | none => simp [hq] at hs
  | some i =>
    have hi : i.size = k := by simpa [hq] using hs
    simp [Builtin.copy_, run_underlying hu, Builtin.lenOf, Builtin.firstCells, sizeOf, typeInfo, hq, hi, hn, hl, hst]

theorem wpList_copy_run {P : Program} (w : World) {ops : Array Oper} {rest : List Oper} {o : Oper} {a : Act} {Q : Exit → Act → World → Prop} (hgd : o.guard = none) (d s : Operand) (t t' : TypeId)
    (ho : o.op = .call { callee := .builtin .copy, args := #[d, s], argTypes := #[t, t'] }) (v u : Value) (hd : a.eval d = v) (hs : a.eval s = u) {v' : Value} {w' : World}
    (hr : (Builtin.copy_ #[t, t'] o.type #[v, u]).run P w = .ok v' w') (h : wpList P ops Q rest (a.put o.dst v') w') : wpList P ops Q (o :: rest) a w :=
  wpList_plain hgd fun K hK => by
    unfold Oper.wp execOp
    simp only [ho, resolve, invoke, builtin, Sem.run_bind, Sem.run_pure, Result.andThen_ok, List.map_toArray, List.map_cons, List.map_nil, hd, hs, hr]
    exact hK _ _ h

theorem step_copy_run {P : Program} {ops : Array Oper} {o : Oper} {a : Act} {w : World} {K : Act → World → Prop} {Q : Exit → Act → World → Prop} {E : Prop}
    (hg : o.guard = none) (d x : Operand) (dT sT : TypeId) (hop : o.op = Op.call { callee := Callee.builtin Builtin.copy, args := #[d, x], argTypes := #[dT, sT] })
    (v u : Value) (hd : a.eval d = v) (hx : a.eval x = u) {v' : Value} {w' : World} (hr : (Builtin.copy_ #[dT, sT] o.type #[v, u]).run P w = .ok v' w') (hK : K (a.put o.dst v') w') :
    if Region.wanted o (yielded ops a.tmps) = true then Oper.wp P o a w K Q else E := by
  have hw : Region.wanted o (yielded ops a.tmps) = true := by simp [Region.wanted, hg]
  rw [if_pos hw]
  unfold Oper.wp
  simp [execOp, hop, resolve, invoke, builtin, hd, hx, hr, Result.andThen]
  exact hK

/-- A row of the call's own, by its block. -/
theorem own_block {C : Nat} {e : TypeId} {s n c g : Nat} {xs : List Value} {w : World} (h : w.ownsRow C e s (.slice (some ⟨g, 0, none⟩) n c) n xs) :
    ∃ cur, w.heap[g]? = some (.cells cur e (0, 0)) ∧ cur.size = c * s ∧ cur.toList.take (n * s) = xs ∧ C ≤ g ∧ g < w.heap.size ∧ n ≤ c ∧ c ≤ maxLen := by
  rcases h.2 with ⟨h1, _⟩ | ⟨g', cap, cur, h1, hb, hh, hn, hm, hs, ht⟩
  · simp at h1
  · simp only [Value.slice.injEq, Option.some.injEq, Addr.mk.injEq, and_true, true_and] at h1
    obtain ⟨rfl, rfl⟩ := h1
    exact ⟨cur, hh, hs, ht, hb, (Array.getElem?_eq_some_iff.1 hh).1, hn, hm⟩

theorem block_cell {w : World} {g : Nat} {cur : Array Value} {e : TypeId} (h : w.heap[g]? = some (.cells cur e (0, 0))) (j : Nat) : w.cell? ⟨g, j, none⟩ = cur[j]? := cell_of_row w g j cur e (0, 0) h
theorem block_free {w : World} {g : Nat} {cur : Array Value} {e : TypeId} (h : w.heap[g]? = some (.cells cur e (0, 0))) (j : Nat) : w.frozen? ⟨g, j, none⟩ = false := frozen_of_row w g j cur e h
theorem block_shape {w : World} {g : Nat} {cur : Array Value} {e : TypeId} (h : w.heap[g]? = some (.cells cur e (0, 0))) : w.shape? g = some (e, cur.size) := by simp [World.shape?, h]

theorem Try.sizeEntry : (Try.prog.info? 65).map (·.size) = some 3 := by
  obtain ⟨i0, hi, _, hz1, _⟩ := info_parts Try.infoEntry
  rw [hi]; simp [hz1]

end Go.Proofs.Ytedgobdeoheaoaa
