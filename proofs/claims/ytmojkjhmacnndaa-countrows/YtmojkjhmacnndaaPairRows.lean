/-
  Rows of pairs of numbers: where they lie, how they stay, those that a call itself made; a row that comes as an argument; one pair, or a row of pairs, appended.
-/
import Derived.Test.YtmojkjhmacnndaaBase
import Derived.Deep.Slices
import Derived.Deep.SlicePairs
import Derived.SizedLaws
import Derived.WalkKit
import Derived.Laws.OwnMore
import Derived.WalkSpells
import Derived.WalkLawsBesides
import Derived.Deep.AppendLies
namespace Go.Proofs.Ytmojkjhmacnndaa
open Go.ChangeShapes Go.WideShapes Go.ChangeAt Go.RowKit
set_option linter.unusedVariables false

theorem Try.infoPair : (Try.prog.info? 25).map (fun i => (i.zero, i.size, i.bytes)) = some (some (.agg #[.int .i64 0, .int .i64 0]), 2, 16) := by kernel_rfl

abbrev P2 := Int × Int

/-- The pair at place i. -/
def at2 (l : List P2) (i : Nat) : P2 := l.getD i (0, 0)

/-- The pairs' cells. -/
def flat (l : List P2) : List Value := l.flatMap fun p => [.int .i64 p.1, .int .i64 p.2]

theorem flat_length (l : List P2) : (flat l).length = l.length * 2 := by
  induction l with
  | nil => rfl
  | cons p l ih => simp only [flat, List.flatMap_cons, List.length_append, List.length_cons, List.length_nil] at ih ⊢; omega

theorem flat_append (l m : List P2) : flat (l ++ m) = flat l ++ flat m := by simp [flat]

theorem flat_at (l : List P2) (i : Nat) (h : i < l.length) : (flat l)[i * 2]? = some (.int .i64 (at2 l i).1) ∧ (flat l)[i * 2 + 1]? = some (.int .i64 (at2 l i).2) := by
  induction l generalizing i with
  | nil => simp at h
  | cons p l ih =>
    cases i with
    | zero => simp [flat, at2]
    | succ i =>
      have := ih i (by simpa using h)
      have e : (i + 1) * 2 = i * 2 + 1 + 1 := by omega
      rw [e]
      simpa [flat, at2] using this

/-- The pairs l lie where ao points to. -/
def PRow (w : World) (ao : Option Addr) (l : List P2) : Prop :=
  0 < l.length → ∃ b off, ao = some ⟨b, off, none⟩ ∧ b < w.heap.size ∧ ∀ i, i < l.length → w.cell? ⟨b, off + i * 2, none⟩ = some (.int .i64 (at2 l i).1) ∧ w.cell? ⟨b, off + i * 2 + 1, none⟩ = some (.int .i64 (at2 l i).2)

/-- They lie in memory that was made since B. -/
def POwn (B : Nat) (w : World) (ao : Option Addr) (l : List P2) : Prop :=
  0 < l.length → ∃ b, ao = some ⟨b, 0, none⟩ ∧ B ≤ b ∧ b < w.heap.size ∧ ∀ i, i < l.length → w.cell? ⟨b, i * 2, none⟩ = some (.int .i64 (at2 l i).1) ∧ w.cell? ⟨b, i * 2 + 1, none⟩ = some (.int .i64 (at2 l i).2)

theorem POwn.row {B : Nat} {w : World} {ao : Option Addr} {l : List P2} (h : POwn B w ao l) : PRow w ao l := fun h0 => by
  obtain ⟨b, h1, _, h2, h3⟩ := h h0
  exact ⟨b, 0, h1, h2, fun i hi => by simpa using h3 i hi⟩

theorem PRow.later {w w' : World} {ao : Option Addr} {l : List P2} (h : PRow w ao l) (hb : Below w.heap.size w w') : PRow w' ao l := fun h0 => by
  obtain ⟨b, off, h1, h2, h3⟩ := h h0
  exact ⟨b, off, h1, Nat.lt_of_lt_of_le h2 hb.size, fun i hi => ⟨(hb.cell (by exact h2)).trans (h3 i hi).1, (hb.cell (by exact h2)).trans (h3 i hi).2⟩⟩

theorem POwn.later {B : Nat} {w w' : World} {ao : Option Addr} {l : List P2} (h : POwn B w ao l) (hb : Below w.heap.size w w') : POwn B w' ao l := fun h0 => by
  obtain ⟨b, h1, h4, h2, h3⟩ := h h0
  exact ⟨b, h1, h4, Nat.lt_of_lt_of_le h2 hb.size, fun i hi => ⟨(hb.cell (by exact h2)).trans (h3 i hi).1, (hb.cell (by exact h2)).trans (h3 i hi).2⟩⟩

theorem PRow.nil (w : World) (ao : Option Addr) : PRow w ao [] := fun h => by simp at h

theorem prow_head {w : World} {ao : Option Addr} {l m : List P2} (h : PRow w ao (l ++ m)) : PRow w ao l := fun h0 => by
  obtain ⟨b, off, h1, h2, h3⟩ := h (by simp; omega)
  refine ⟨b, off, h1, h2, fun i hi => ?_⟩
  have := h3 i (by simp; omega)
  have e : at2 (l ++ m) i = at2 l i := by simp [at2, List.getD, List.getElem?_append_left hi]
  rwa [e] at this

/-- A row of the call's own, as its value. -/
theorem pown_at {B : Nat} {w : World} {v : Value} {l : List P2} (h : w.ownsRow B 25 2 v l.length (flat l)) : ∃ ao cap, v = .slice ao l.length cap ∧ POwn B w ao l := by
  rcases h.2 with ⟨rfl, h0⟩ | ⟨g, cap, cur, rfl, hb, hh, hn, hm, hcs, htake⟩
  · refine ⟨none, 0, by rw [h0], fun h => by omega⟩
  · refine ⟨_, _, rfl, fun h0 => ⟨g, rfl, hb, ?_, fun i hi => ?_⟩⟩
    · exact (Array.getElem?_eq_some_iff.1 hh).1
    · have hf := flat_at l i hi
      exact ⟨(h.cellAt (i * 2) (by omega)).trans hf.1, (h.cellAt (i * 2 + 1) (by omega)).trans hf.2⟩

/-- Pairs that come as an argument. -/
theorem isPairs_of {H : Type} {enc : TypeId × Value → H} {w : World} {base : Nat} {v : Value} {d : DataW H} {p : List MemPlace}
    (ok : Value.okWide Try.prog w .any base 42 v) (h : DataW.Trod enc Try.prog w 0 (fun _ => true) true 42 v d p) :
    ∃ (l : List P2) (ao : Option Addr) (cap : Nat), v = .slice ao l.length cap ∧ l.length ≤ maxLen ∧ PRow w ao l ∧ (∀ i, i < l.length → (Lit.int .i64 (at2 l i).1).wf = true ∧ (Lit.int .i64 (at2 l i).2).wf = true) ∧ ∀ K, (∀ es sp, d = .slice es sp → (es.length + sp.length) * 16 ≤ K) → l.length * 16 ≤ K := by
  obtain ⟨a0, len, cap, rfl⟩ := okWide_slice Try.underlying42 ok
  obtain ⟨fuel, hf⟩ := h
  rcases Go.Deep.open_slice_pairs Try.underlying42 Try.underlying25 (by kernel_rfl) rfl rfl (by kernel_rfl) (by kernel_rfl) hf with ⟨hcs, _⟩ | ⟨x, ln, c, m, n, V0, V1, D0, D1, P0, P1, hcs, _, hl, hm, hmm, hdp, hcell⟩
  · simp [Value.cells] at hcs
    obtain ⟨rfl, rfl, rfl⟩ := hcs
    exact ⟨[], none, 0, rfl, by simp, PRow.nil _ _, fun i hi => by simp at hi, fun K _ => by simp⟩
  · simp [Value.cells] at hcs
    obtain ⟨rfl, rfl, rfl⟩ := hcs
    have hmc : m = cap := by simpa using hmm
    let Z : Value → Int := fun v => match v with | .int _ z => z | _ => 0
    have hV : ∀ i, i < m → (V0 i = .int .i64 (Z (V0 i)) ∧ (Lit.int .i64 (Z (V0 i))).wf = true) ∧ (V1 i = .int .i64 (Z (V1 i)) ∧ (Lit.int .i64 (Z (V1 i))).wf = true) := fun i hi => by
      obtain ⟨q0, q1, t0, t1⟩ := hcell i hi
      obtain ⟨z, hz, _, wz⟩ := DataW.trod_int Try.underlying3 t0
      obtain ⟨y, hy, _, wy⟩ := DataW.trod_int Try.underlying3 t1
      simp only [List.cons.injEq, and_true] at hz hy
      rw [hz, hy]
      exact ⟨⟨rfl, wz⟩, rfl, wy⟩
    have e2 : ∀ i, i < len → at2 ((List.range len).map fun i => (Z (V0 i), Z (V1 i))) i = (Z (V0 i), Z (V1 i)) := fun i hi => by simp [at2, List.getD, hi]
    refine ⟨(List.range len).map fun i => (Z (V0 i), Z (V1 i)), some x, cap, by simp, by simp; omega, fun h0 => ?_, fun i hi => ?_, fun K hK => ?_⟩
    · simp only [List.length_map, List.length_range] at h0 ⊢
      obtain ⟨b, off, spot⟩ := x
      have hc := (hcell 0 (by omega)).1
      have hspot : spot = none := by simpa [Addr.add] using World.cell?_spot hc
      subst hspot
      have hb := World.block_lt_of_cell? w _ hc
      refine ⟨b, off, rfl, by simpa [Addr.add] using hb, fun i hi => ?_⟩
      obtain ⟨q0, q1, _, _⟩ := hcell i (by omega)
      rw [e2 i hi, ← (hV i (by omega)).1.1, ← (hV i (by omega)).2.1, ← q0, ← q1]
      constructor
      · rcases i with _ | i
        · simp [Addr.add]
        · simp [Addr.add]
      · simp [Addr.add, Nat.add_assoc]
    · simp only [List.length_map, List.length_range] at hi
      rw [e2 i hi]
      exact ⟨(hV i (by omega)).1.2, (hV i (by omega)).2.2⟩
    · simp only [Prod.mk.injEq] at hdp
      have := hK _ _ hdp.1
      simp only [List.length_map, List.length_range] at this ⊢
      omega

theorem below_grown2 {B : Nat} {w w' : World} {v : Value} {e : TypeId} {n : Nat} {xs : List Value} (hown : w.ownsRow B e 2 v n xs) (hB : B ≤ w.heap.size) (hgrow : w.grownBy w' v.ownBlock) : Below B w w' := by
  refine (Below.refl _ _).grown hgrow hB ?_
  intro g hg
  rcases hown.2 with ⟨rfl, _⟩ | ⟨g', cap, cur, rfl, hb, _⟩
  · simp [Value.ownBlock] at hg
  · simp [Value.ownBlock] at hg; omega

theorem flat_one (x y : Int) : flat [(x, y)] = [.int .i64 x, .int .i64 y] := rfl

theorem oneCell_flat {l : List P2} {u : Value} (h : u ∈ flat l) : u.oneCell' = true := by
  simp only [flat, List.mem_flatMap, List.mem_cons, List.not_mem_nil, or_false] at h
  obtain ⟨p, _, rfl | rfl⟩ := h <;> rfl

theorem news_at {w : World} {b off : Nat} {m : List P2} (hc : ∀ i, i < m.length → w.cell? ⟨b, off + i * 2, none⟩ = some (.int .i64 (at2 m i).1) ∧ w.cell? ⟨b, off + i * 2 + 1, none⟩ = some (.int .i64 (at2 m i).2)) : ∀ j u, (flat m)[j]? = some u → w.cell? ((⟨b, off, none⟩ : Addr).add j) = some u := by
  intro j u hj
  have hjl : j < m.length * 2 := by
    have := (List.getElem?_eq_some_iff.1 hj).1
    rwa [flat_length] at this
  have hi : j / 2 < m.length := by omega
  have h1 := hc (j / 2) hi
  have h2 := flat_at m (j / 2) hi
  have hadd : (⟨b, off, none⟩ : Addr).add j = ⟨b, off + j, none⟩ := by
    rcases j with _ | j
    · simp [Addr.add]
    · simp [Addr.add]
  rw [hadd]
  rcases Nat.mod_two_eq_zero_or_one j with hm | hm
  · have e : j / 2 * 2 = j := by omega
    rw [e] at h1 h2
    rw [h1.1, ← hj, h2.1]
  · have e : j / 2 * 2 + 1 = j := by omega
    rw [Nat.add_assoc, e] at h1
    rw [e] at h2
    rw [h1.2, ← hj, h2.2]

/-- 'append(out, p)', out the call's own pairs. -/
theorem wpList_append_pair {ops : Array Oper} {rest : List Oper} {o : Oper} {a : Act} {Q : Exit → Act → World → Prop} (hgd : o.guard = none) (s x : Operand)
    (ho : o.op = .call { callee := .builtin .append, args := #[s, x], argTypes := #[42, 42] })
    {B : Nat} {v : Value} {l : List P2} {wr : World} (c d : Int)
    (hs : a.eval s = v) (hx : a.eval x = .slice (some ⟨wr.heap.size, 0, none⟩) 1 1)
    (hown : wr.ownsRow B 25 2 v l.length (flat l)) (hlen : l.length < 8796093022208) (hB : B ≤ wr.heap.size)
    (h : ∀ g cap w', w'.ownsRow B 25 2 (.slice (some ⟨g, 0, none⟩) (l.length + 1) cap) (l ++ [(c, d)]).length (flat (l ++ [(c, d)])) → Below B wr w' → wpList Try.prog ops Q rest (a.put o.dst (.slice (some ⟨g, 0, none⟩) (l.length + 1) cap)) w') :
    wpList Try.prog ops Q (o :: rest) a (wr.alloc (.cells #[.int .i64 c, .int .i64 d] 25)) := by
  obtain ⟨i0, hi, hz0, hz1, hz2⟩ := info_parts Try.infoPair
  refine wpList_append_lies _ hgd s x 42 ho B 25 i0 (.agg #[.int .i64 0, .int .i64 0]) 2 16 Try.underlying42 hi hz0 hz1 hz2 rfl (by decide) v l.length (flat l) hs (hown.alloc _) ⟨wr.heap.size, 0, none⟩ 1 1 (flat [(c, d)]) hx rfl ?_ ?_ (by omega) ?_ ?_ ?_ _ rfl ?_
  · exact news_at (m := [(c, d)]) fun i hi => by
      have : i = 0 := by simpa using hi
      subst this
      simp [at2, World.cell?_alloc_at]
  · intro u hu; exact oneCell_flat hu
  · unfold maxLen; omega
  · omega
  · simp; omega
  · intro g cap w' hown' hgrow _ _
    have e : (l ++ [(c, d)]).length = l.length + 1 := by simp
    refine h g cap w' ?_ ?_
    · rw [e, flat_append]; exact hown'
    · exact ((Below.refl _ _).alloc hB _).trans (below_grown2 (hown.alloc _) (by simp; omega) hgrow)

theorem run_append_pnone (w : World) (ty : TypeId) (g n c cap : Nat) (hc : n ≤ c) : (Builtin.append_ #[42, 42] ty #[.slice (some ⟨g, 0, none⟩) n c, .slice none 0 cap]).run Try.prog w = .ok (.slice (some ⟨g, 0, none⟩) n c) w := by
  obtain ⟨i0, hi, hz0, hz1, hz2⟩ := info_parts Try.infoPair
  simp [Builtin.append_, run_underlying Try.underlying42, sizeOf, typeInfo, hi, Builtin.lenOf, Builtin.firstCells, loadCells, hc, storeCells]

/-- 'append(out, m...)', out the call's own pairs (a block, maybe empty). -/
theorem wpList_append_prow {ops : Array Oper} {rest : List Oper} {o : Oper} {a : Act} {Q : Exit → Act → World → Prop} (hgd : o.guard = none) (s x : Operand)
    (ho : o.op = .call { callee := .builtin .append, args := #[s, x], argTypes := #[42, 42] })
    {B g n c : Nat} {l m : List P2} {ao : Option Addr} {cap : Nat} {wr : World} (hn : n = l.length)
    (hs : a.eval s = .slice (some ⟨g, 0, none⟩) n c) (hx : a.eval x = .slice ao m.length cap)
    (hown : wr.ownsRow B 25 2 (.slice (some ⟨g, 0, none⟩) n c) l.length (flat l)) (hrow : PRow wr ao m) (hlen : l.length + m.length ≤ 8796093022208) (hB : B ≤ wr.heap.size)
    (h : ∀ g' c' w', w'.ownsRow B 25 2 (.slice (some ⟨g', 0, none⟩) (l ++ m).length c') (l ++ m).length (flat (l ++ m)) → Below B wr w' → wpList Try.prog ops Q rest (a.put o.dst (.slice (some ⟨g', 0, none⟩) (l ++ m).length c')) w') :
    wpList Try.prog ops Q (o :: rest) a wr := by
  subst hn
  obtain ⟨i0, hi, hz0, hz1, hz2⟩ := info_parts Try.infoPair
  by_cases h0 : 0 < m.length
  · obtain ⟨b, off, rfl, _, hc⟩ := hrow h0
    refine wpList_append_lies _ hgd s x 42 ho B 25 i0 (.agg #[.int .i64 0, .int .i64 0]) 2 16 Try.underlying42 hi hz0 hz1 hz2 rfl (by decide) _ l.length (flat l) hs hown ⟨b, off, none⟩ m.length cap (flat m) hx (flat_length m) (news_at hc) (fun u hu => oneCell_flat hu) h0 ?_ ?_ hB _ rfl ?_
    · unfold maxLen; omega
    · omega
    · intro g' c' w' hown' hgrow _ _
      have h2 := h g' c' w' (by rw [flat_append, List.length_append]; exact hown') (below_grown2 hown hB hgrow)
      rw [List.length_append] at h2
      exact h2
  · have hm : m = [] := List.eq_nil_of_length_eq_zero (by omega)
    subst hm
    have h' := h g c wr (by simpa using hown) (Below.refl _ _)
    simp only [List.append_nil] at h'
    cases ao with
    | none =>
      refine wpList_plain hgd fun K hK => ?_
      unfold Oper.wp execOp
      have hlc : l.length ≤ c := by
        rcases hown.2 with ⟨e, _⟩ | ⟨g1, c1, cur, e, _, _, hn, _⟩
        · simp at e
        · simp only [Value.slice.injEq] at e; omega
      have hr := run_append_pnone wr o.type g l.length c cap hlc
      simp only [List.length_nil] at hx
      simp only [ho, resolve, invoke, builtin, Sem.run_bind, Sem.run_pure, Result.andThen_ok, List.map_toArray, List.map_cons, List.map_nil, hs, hx, hr]
      exact hK _ _ h'
    | some ad =>
      refine wpList_append_own _ hgd s x 42 ho B 25 i0 (.agg #[.int .i64 0, .int .i64 0]) 2 16 Try.underlying42 hi hz0 hz1 hz2 rfl (by decide) _ l.length (flat l) hs hown ad 0 cap [] hx (by simp) ?_ ?_ ?_ ?_ hB ?_
      · intro j u hj; simp at hj
      · intro u hu; simp at hu
      · unfold maxLen; simp at hlen; omega
      · simp at hlen; omega
      · intro v' w' hown' hgrow hni
        simp only [Nat.add_zero, List.append_nil] at hown'
        have hb := below_grown2 hown hB hgrow
        rcases hown'.2 with ⟨rfl, h0⟩ | ⟨g', cap', cur, rfl, _⟩
        · simp at hni
        · have h2 := h g' cap' w' (by simpa using hown') hb
          simpa using h2

/-- The row of no pairs, of the call's own. -/
theorem pown_none (w : World) (B : Nat) : w.ownsRow B 25 2 (.slice none 0 0) ([] : List P2).length (flat []) := ⟨rfl, Or.inl ⟨rfl, rfl⟩⟩

/-- A row of two pairs, just built. -/
theorem prow_two (w : World) (a b c d : Int) (t : TypeId) : PRow (w.alloc (.cells #[.int .i64 a, .int .i64 b, .int .i64 c, .int .i64 d] t)) (some ⟨w.heap.size, 0, none⟩) [(a, b), (c, d)] := fun _ =>
  ⟨w.heap.size, 0, rfl, by simp, fun i hi => by
    match i, hi with
    | 0, _ => simp [at2, World.cell?_alloc_at]
    | 1, _ => simp [at2, World.cell?_alloc_at]⟩

end Go.Proofs.Ytmojkjhmacnndaa
