/-
  Rows of the call's own while they are written: what every layer of rows uses. Copies and clears of whatever width; rows that stay while others turn.
-/
import Derived.Test.YtghlegidapmpmaaOnTo
import Derived.Test.YtghlegidapmpmaaCe
import Derived.Shelf.Abstract
import Derived.Laws.IdiomCopy
import Derived.Deep.RegionLaw
namespace Go.Proofs.Ytghlegidapmpmaa
open Go.RowKit Go.Shelf
set_option linter.unusedVariables false
set_option linter.unusedSimpArgs false

theorem below_setCells {B : Nat} {a : World} {b : Nat} (hb : B ≤ b) : ∀ (vs : List Value) (o : Nat) {w : World}, Below B a w → Below B a (w.setCells b o vs)
  | [], _, _, h => h
  | v :: r, o, w, h => below_setCells hb r (o + 1) (h.setCell (p := ⟨b, o, none⟩) hb v)

theorem gb_setCells {a : World} {g : Nat} : ∀ (vs : List Value) (o : Nat) {w : World}, a.grownBy w (some g) → a.grownBy (w.setCells g o vs) (some g)
  | [], _, _, h => h
  | v :: r, o, w, h => gb_setCells r (o + 1) (gb_set h o v)

/-- A new block's cells set: nothing old turns. -/
theorem gb_newCells {a : World} {N : Nat} {row : Option Nat} (hN : a.heap.size ≤ N) : ∀ (vs : List Value) (o : Nat) {w : World}, a.grownBy w row → a.grownBy (w.setCells N o vs) row
  | [], _, _, h => h
  | v :: r, o, w, h => gb_newCells hN r (o + 1) ⟨h.os, h.tape, h.output, by simpa using h.size, fun i hi hne => (Below.heap_setCell _ _ _ _ (by show i ≠ N; omega)).trans (h.block i hi hne)⟩

theorem size_setCells (b : Nat) : ∀ (vs : List Value) (o : Nat) (w : World), (w.setCells b o vs).heap.size = w.heap.size
  | [], _, _ => rfl
  | v :: r, o, w => by rw [World.setCells, size_setCells b r]; simp

theorem some_setCells (b : Nat) : ∀ (vs : List Value) (o : Nat) (w : World) (x : Addr), (w.cell? x).isSome = true → ((w.setCells b o vs).cell? x).isSome = true
  | [], _, _, _, h => h
  | v :: r, o, w, x, h => by
    rw [World.setCells]
    refine some_setCells b r (o + 1) _ x ?_
    by_cases e : (⟨b, o, none⟩ : Addr) = x
    · subst e
      obtain ⟨u, hu⟩ := Option.isSome_iff_exists.1 h
      rw [World.cell?_setCell_same _ _ _ hu]; rfl
    · rw [World.cell?_setCell_other _ _ _ _ (by first | exact e | exact fun e' => e e'.symm)]; exact h

/-- The row behind both copies, the rest first. -/
theorem fown_shift {C g : Nat} {W : World} {F vs : List Value} {i3 : Nat} (hC : C ≤ g) (hg : g < W.heap.size) (hi : i3 ≤ F.length) (hF : ∀ k u, F[k]? = some u → W.cell? ⟨g, k, none⟩ = some u) (hs : ∀ k, k < F.length + vs.length → (W.cell? ⟨g, k, none⟩).isSome = true) (hfz : ∀ k, W.frozen? ⟨g, k, none⟩ = false) :
    FOwn C ((W.setCells g (i3 + vs.length) (F.drop i3)).setCells g i3 vs) (some ⟨g, 0, none⟩) (F.take i3 ++ (vs ++ F.drop i3)) := fun _ => by
  refine ⟨g, rfl, hC, by rw [size_setCells, size_setCells]; exact hg, fun k u hu => ⟨?_, by rw [World.frozen?_setCells, World.frozen?_setCells]; exact hfz k⟩⟩
  have hl : (F.take i3).length = i3 := by simp; omega
  have hk := (List.getElem?_eq_some_iff.1 hu).1
  simp only [List.length_append, List.length_drop, hl] at hk
  by_cases h1 : k < i3
  · rw [List.getElem?_append_left (by omega), List.getElem?_take, if_pos h1] at hu
    rw [World.cell?_setCells_out g _ _ _ _ (fun _ _ => Or.inl h1), World.cell?_setCells_out g _ _ _ _ (fun _ _ => Or.inl (by show k < _; omega))]
    exact hF k u hu
  · rw [List.getElem?_append_right (by omega), hl] at hu
    by_cases h2 : k < i3 + vs.length
    · rw [List.getElem?_append_left (by omega)] at hu
      have e : k = i3 + (k - i3) := by omega
      have hlt : k - i3 < vs.length := by omega
      have := World.cell?_setCells_in g vs i3 (W.setCells g (i3 + vs.length) (F.drop i3)) (fun j hj => some_setCells g _ _ _ _ (hs _ (by omega))) (k - i3) hlt
      rw [← e] at this
      rw [this, ← hu, List.getElem?_eq_getElem hlt]
    · rw [List.getElem?_append_right (by omega)] at hu
      rw [World.cell?_setCells_out g _ _ _ _ (fun _ _ => Or.inr (by show _ ≤ k; omega))]
      have e : k = i3 + vs.length + (k - (i3 + vs.length)) := by omega
      have hlt : k - (i3 + vs.length) < (F.drop i3).length := by simp; omega
      have := World.cell?_setCells_in g (F.drop i3) (i3 + vs.length) W (fun j hj => hs _ (by simp at hj; omega)) (k - (i3 + vs.length)) hlt
      rw [← e] at this
      have e2 : k - i3 - vs.length = k - (i3 + vs.length) := by omega
      rw [this, ← hu, e2, List.getElem?_eq_getElem hlt]

/-- The row behind both copies, the new ones first. -/
theorem fown_shift2 {C g : Nat} {W : World} {F vs : List Value} {i3 : Nat} (hC : C ≤ g) (hg : g < W.heap.size) (hi : i3 ≤ F.length) (hF : ∀ k u, k < i3 → F[k]? = some u → W.cell? ⟨g, k, none⟩ = some u) (hs : ∀ k, k < F.length + vs.length → (W.cell? ⟨g, k, none⟩).isSome = true) (hfz : ∀ k, W.frozen? ⟨g, k, none⟩ = false) :
    FOwn C (((W.setCells g i3 vs).drew).setCells g (i3 + vs.length) (F.drop i3)) (some ⟨g, 0, none⟩) (F.take i3 ++ (vs ++ F.drop i3)) := fun _ => by
  refine ⟨g, rfl, hC, by rw [size_setCells]; show g < (W.setCells g i3 vs).heap.size; rw [size_setCells]; exact hg, fun k u hu => ⟨?_, by rw [World.frozen?_setCells]; show (W.setCells g i3 vs).frozen? _ = false; rw [World.frozen?_setCells]; exact hfz k⟩⟩
  have hl : (F.take i3).length = i3 := by simp; omega
  have hk := (List.getElem?_eq_some_iff.1 hu).1
  simp only [List.length_append, List.length_drop, hl] at hk
  by_cases h1 : k < i3
  · rw [List.getElem?_append_left (by omega), List.getElem?_take, if_pos h1] at hu
    rw [World.cell?_setCells_out g _ _ _ _ (fun _ _ => Or.inl (by show k < _; omega))]
    show (W.setCells g i3 vs).cell? _ = _
    rw [World.cell?_setCells_out g _ _ _ _ (fun _ _ => Or.inl h1)]
    exact hF k u h1 hu
  · rw [List.getElem?_append_right (by omega), hl] at hu
    by_cases h2 : k < i3 + vs.length
    · rw [List.getElem?_append_left (by omega)] at hu
      rw [World.cell?_setCells_out g _ _ _ _ (fun _ _ => Or.inl h2)]
      show (W.setCells g i3 vs).cell? _ = _
      have e : k = i3 + (k - i3) := by omega
      have hlt : k - i3 < vs.length := by omega
      have := World.cell?_setCells_in g vs i3 W (fun j hj => hs _ (by omega)) (k - i3) hlt
      rw [← e] at this
      rw [this, ← hu, List.getElem?_eq_getElem hlt]
    · rw [List.getElem?_append_right (by omega)] at hu
      have e : k = i3 + vs.length + (k - (i3 + vs.length)) := by omega
      have hlt : k - (i3 + vs.length) < (F.drop i3).length := by simp; omega
      have := World.cell?_setCells_in g (F.drop i3) (i3 + vs.length) ((W.setCells g i3 vs).drew) (fun j hj => by show ((W.setCells g i3 vs).cell? _).isSome = true; exact some_setCells g _ _ _ _ (hs _ (by simp at hj; omega))) (k - (i3 + vs.length)) hlt
      rw [← e] at this
      have e2 : k - i3 - vs.length = k - (i3 + vs.length) := by omega
      rw [this, ← hu, e2, List.getElem?_eq_getElem hlt]

/-- 'copy(d, s)' at elements of k cells each; all is read ahead of what is written. -/
theorem run_copy_k {P : Program} (w : World) (dT sT ty elem : TypeId) (k b o dLen dCap : Nat) (a : Addr) (sLen sCap : Nat) (cs : List Value)
    (hu : P.underlying dT = some (.slice elem)) (hs : (P.info? elem).map (·.size) = some k) (hn : Nat.min sLen dLen * k = cs.length)
    (hsrc : ∀ j v, cs[j]? = some v → w.cell? (a.add j) = some v) (hc : ∀ j, j < cs.length → (w.cell? ⟨b, o + j, none⟩).isSome = true) (hf : ∀ j, j < cs.length → w.frozen? ⟨b, o + j, none⟩ = false) (h1 : ∀ v ∈ cs, v.oneCell' = true) :
    (Builtin.copy_ #[dT, sT] ty #[.slice (some ⟨b, o, none⟩) dLen dCap, .slice (some a) sLen sCap]).run P w = .ok (goInt (Nat.min sLen dLen)) (w.setCells b o cs) := by
  have hl := run_loadCells_list (P := P) w a cs hsrc
  have hst := run_storeCells_cells (P := P) b o cs 0 w (by simpa using hc) (by simpa using hf) h1
  cases hq : P.info? elem with
  | none => simp [hq] at hs
  | some i =>
    have hi : i.size = k := by simpa [hq] using hs
    simp [Builtin.copy_, run_underlying hu, Builtin.lenOf, Builtin.firstCells, sizeOf, typeInfo, hq, hi, hn, hl, hst]

theorem wpList_copy_run {P : Program} (w : World) {ops : Array Oper} {rest : List Oper} {o : Oper} {a : Act} {Q : Exit → Act → World → Prop} (hgd : o.guard = none) (d s : Operand) (t t' : TypeId)
    (ho : o.op = .call { callee := .builtin .copy, args := #[d, s], argTypes := #[t, t'] }) (v u : Value) (hd : a.eval d = v) (hs : a.eval s = u) {v' : Value} {w' : World}
    (hr : (Builtin.copy_ #[t, t'] o.type #[v, u]).run P w = .ok v' w') (h : wpList P ops Q rest (a.put o.dst v') w') : wpList P ops Q (o :: rest) a w :=
  wpList_plain hgd fun K hK => by
    unfold Oper.wp execOp
    simp only [ho, resolve, invoke, builtin, Sem.run_bind, Sem.run_pure, Result.andThen_ok, List.map_toArray, List.map_cons, List.map_nil, hd, hs, hr]
    exact hK _ _ h

theorem step_copy_run {P : Program} {ops : Array Oper} {o : Oper} {a : Act} {w : World} {K : Act → World → Prop} {Q : Exit → Act → World → Prop} {E : Prop}
    (hg : o.guard = none) (d x : Operand) (dT sT : TypeId) (hop : o.op = Op.call { callee := Callee.builtin Builtin.copy, args := #[d, x], argTypes := #[dT, sT] })
    (v u : Value) (hd : a.eval d = v) (hx : a.eval x = u) {v' : Value} {w' : World} (hr : (Builtin.copy_ #[dT, sT] o.type #[v, u]).run P w = .ok v' w') (hK : K (a.put o.dst v') w') :
    if Region.wanted o (yielded ops a.tmps) = true then Oper.wp P o a w K Q else E := by
  have hw : Region.wanted o (yielded ops a.tmps) = true := by simp [Region.wanted, hg]
  rw [if_pos hw]
  unfold Oper.wp
  simp [execOp, hop, resolve, invoke, builtin, hd, hx, hr, Result.andThen]
  exact hK

/-- A row of the call's own, by its block. -/
theorem own_block {C : Nat} {e : TypeId} {s n c g : Nat} {xs : List Value} {w : World} (h : w.ownsRow C e s (.slice (some ⟨g, 0, none⟩) n c) n xs) :
    ∃ cur, w.heap[g]? = some (.cells cur e (0, 0)) ∧ cur.size = c * s ∧ cur.toList.take (n * s) = xs ∧ C ≤ g ∧ g < w.heap.size ∧ n ≤ c ∧ c ≤ maxLen := by
  rcases h.2 with ⟨h1, _⟩ | ⟨g', cap, cur, h1, hb, hh, hn, hm, hs, ht⟩
  · simp at h1
  · simp only [Value.slice.injEq, Option.some.injEq, Addr.mk.injEq, and_true, true_and] at h1
    obtain ⟨rfl, rfl⟩ := h1
    exact ⟨cur, hh, hs, ht, hb, (Array.getElem?_eq_some_iff.1 hh).1, hn, hm⟩

theorem block_cell {w : World} {g : Nat} {cur : Array Value} {e : TypeId} (h : w.heap[g]? = some (.cells cur e (0, 0))) (j : Nat) : w.cell? ⟨g, j, none⟩ = cur[j]? := cell_of_row w g j cur e (0, 0) h

theorem block_free {w : World} {g : Nat} {cur : Array Value} {e : TypeId} (h : w.heap[g]? = some (.cells cur e (0, 0))) (j : Nat) : w.frozen? ⟨g, j, none⟩ = false := frozen_of_row w g j cur e h

theorem block_shape {w : World} {g : Nat} {cur : Array Value} {e : TypeId} (h : w.heap[g]? = some (.cells cur e (0, 0))) : w.shape? g = some (e, cur.size) := by simp [World.shape?, h]

theorem run_clear_k {P : Program} (w : World) (t e ty : TypeId) (z : Value) (ht : P.underlying t = some (.slice e)) (hv : ∀ w, (zeroValue e).run P w = .ok z w) (b o n c : Nat) (hn : 0 < n) (h1 : ∀ v ∈ (Builtin.zeroCells z.cells n).toList, v.oneCell' = true)
    (hc : ∀ j, j < (Builtin.zeroCells z.cells n).toList.length → (w.cell? ⟨b, o + j, none⟩).isSome = true) (hf : ∀ j, j < (Builtin.zeroCells z.cells n).toList.length → w.frozen? ⟨b, o + j, none⟩ = false) :
    (Builtin.clear_ #[t] ty #[.slice (some ⟨b, o, none⟩) n c]).run P w = .ok (.tuple #[]) (w.setCells b o (Builtin.zeroCells z.cells n).toList) := by
  have hst := run_storeCells_cells (P := P) b o (Builtin.zeroCells z.cells n).toList 0 w (by simpa using hc) (by simpa using hf) h1
  simp only [Nat.add_zero] at hst
  obtain ⟨m, rfl⟩ : ∃ m, n = m + 1 := ⟨n - 1, by omega⟩
  simp [Builtin.clear_, run_underlying ht, hv, hst]

/-- A list stays while a cell of a block that is younger is set. -/
theorem fown_young {B C k o : Nat} {w1 w5 : World} {ao : Option Addr} {xs : List Value} (F1 : FOwn C w1 ao xs) (hk : w1.heap.size ≤ k) (F5 : FOwn B w5 ao xs) (v : Value) : FOwn B (w5.setCell ⟨k, o, none⟩ v) ao xs := fun h0 => by
  obtain ⟨b1, e1, _, l1, _⟩ := F1 h0
  obtain ⟨b, h1, h4, h2, h3⟩ := F5 h0
  rw [e1] at h1
  simp only [Option.some.injEq, Addr.mk.injEq, and_true] at h1
  subst h1
  refine ⟨b1, e1, h4, by simpa using h2, fun i u hu => ⟨?_, by rw [World.frozen?_setCell]; exact (h3 i u hu).2⟩⟩
  rw [World.cell?_setCell_other _ _ _ _ (fun e => by injection e with e _ _; omega)]
  exact (h3 i u hu).1

/-- .. if its block is another one. -/
theorem fown_apart {B k o : Nat} {w5 : World} {ao : Option Addr} {xs : List Value} (F5 : FOwn B w5 ao xs) (hk : ∀ b, ao = some ⟨b, 0, none⟩ → b ≠ k) (v : Value) : FOwn B (w5.setCell ⟨k, o, none⟩ v) ao xs := fun h0 => by
  obtain ⟨b, h1, h4, h2, h3⟩ := F5 h0
  have hb := hk b h1
  refine ⟨b, h1, h4, by simpa using h2, fun i u hu => ⟨?_, by rw [World.frozen?_setCell]; exact (h3 i u hu).2⟩⟩
  rw [World.cell?_setCell_other _ _ _ _ (fun e => by injection e with e _ _; first | exact hb e | exact hb e.symm)]
  exact (h3 i u hu).1

theorem own_same {B g n c s : Nat} {e : TypeId} {w : World} {xs : List Value} {j : Nat} {u : Value} (h : w.ownsRow B e s (.slice (some ⟨g, 0, none⟩) n c) n xs) (hu : xs[j]? = some u) : (w.setCell ⟨g, j, none⟩ u).ownsRow B e s (.slice (some ⟨g, 0, none⟩) n c) n xs := by
  have h1 := (h.stored j u).1
  have : xs.set j u = xs := by
    apply List.ext_getElem?
    intro i
    by_cases e : j = i
    · subst e
      have hj := (List.getElem?_eq_some_iff.1 hu).1
      rw [List.getElem?_set_self hj, hu]
    · rw [List.getElem?_set_ne e]
  rwa [this] at h1

theorem own_put10 {B : Nat} {e : TypeId} {s n : Nat} {v : Value} {w : World} {xs : List Value} (h : w.ownsRow B e s v n xs) {g : Nat} (hg : g < B) (u0 u1 u2 u3 u4 u5 u6 u7 u8 u9 : Value) : (put10 w g u0 u1 u2 u3 u4 u5 u6 u7 u8 u9).ownsRow B e s v n xs := by
  repeat refine ownsRow_setCell_below ?_ (a := ⟨g, _, none⟩) hg _
  exact h

/-- The other lists stay while the entries' row is written. -/
theorem gb_fown {w w' : World} {row : Option Nat} {mid : Nat} {ao : Option Addr} {xs : List Value} (h : w.grownBy w' row) (hr : ∀ k, row = some k → k < mid) (F : FOwn mid w ao xs) : FOwn mid w' ao xs := fun h0 => by
  obtain ⟨b, h1, h4, h2, h3⟩ := F h0
  have hne : some b ≠ row := fun e => by have := hr b e.symm; omega
  exact ⟨b, h1, h4, Nat.lt_of_lt_of_le h2 h.size, fun i u hu => ⟨(World.cell?_of_block (a := ⟨b, i, none⟩) (h.block b h2 hne)).trans (h3 i u hu).1, (World.frozen?_of_block (a := ⟨b, i, none⟩) (h.block b h2 hne)).trans (h3 i u hu).2⟩⟩

end Go.Proofs.Ytghlegidapmpmaa
