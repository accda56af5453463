/-
  A cell that comes as an argument: what its ten cells hold, where its lists lie, what memory bears of it.
-/
import Derived.Test.YtghlegidapmpmaaCe
namespace Go.Proofs.Ytghlegidapmpmaa
open Go.ChangeShapes Go.WideShapes Go.ChangeAt Go.RowKit
set_option linter.unusedVariables false
set_option linter.unusedSimpArgs false

theorem weights_all {H : Type} {P : Program} {e : TypeId} : ∀ {l : List (DataW H)} {d : DataW H}, d ∈ l → ∀ n ∈ d.weights P e, n ∈ DataW.weightsAll P e l
  | [], d, h, n, hn => by simp at h
  | x :: r, d, h, n, hn => by
    simp only [DataW.weightsAll, List.mem_append]
    rcases List.mem_cons.1 h with rfl | h
    · exact Or.inl hn
    · exact Or.inr (weights_all h n hn)

/-- A row of structs, one cell of what came in. -/
theorem rows_trodC {α : Type} (z : α) (f : α → List Value) (s bytes : Nat) (hfl : ∀ a, (f a).length = s) (sizes : α → List Nat) {H : Type} {enc : TypeId × Value → H} {P : Program} {w : World} {t e : TypeId} (ht : P.underlying t = some (.slice e)) (ce : P.cellsOf e = s) (hs : 0 < s) (be : P.bytesOf e = bytes)
    (hdec : ∀ fuel cs' x, DataW.trod enc P w 0 (fun _ => true) true fuel e cs' = some x → cs'.length = s → ∃ a, cs' = f a ∧ ∀ k ∈ sizes a, k ∈ x.1.weights P e)
    {fuel : Nat} {v : Value} {d : DataW H} {p : List MemPlace} (h : DataW.trod enc P w 0 (fun _ => true) true fuel t [v] = some (d, p)) :
    ∃ (l : List α) (ao : Option Addr) (cap : Nat), v = .slice ao l.length cap ∧ l.length ≤ cap ∧ FRow w ao (l.flatMap f) ∧ ∀ K, (∀ n, n ∈ d.weights P t → n ≤ K) → l.length * bytes ≤ K ∧ ∀ (i : Nat) x, l[i]? = some x → ∀ k ∈ sizes x, k ≤ K := by
  rcases Go.Deep.open_slice ht h with ⟨hcs, _⟩ | ⟨a, len, cap, m, n, D, Pl, hcs, _, hl, hm, hmm, hx, hcell⟩
  · simp only [List.cons.injEq, and_true] at hcs
    subst hcs
    exact ⟨[], none, 0, rfl, by simp, FRow.nil _ _, fun K _ => ⟨by simp, fun i x hx => by simp at hx⟩⟩
  · simp only [List.cons.injEq, and_true] at hcs
    subst hcs
    have hmc : m = cap := by simpa using hmm
    have each : ∀ i, i < m → ∃ y : α, (∀ k u, (f y)[k]? = some u → w.cell? (a.add (i * s + k)) = some u) ∧ ∀ k ∈ sizes y, k ∈ (D i).weights P e := fun i hi => by
      obtain ⟨cs', h1, h2⟩ := hcell i hi
      rw [ce] at h1
      obtain ⟨_, hlen, hc⟩ := World.cells?_some h1
      obtain ⟨y, rfl, hy⟩ := hdec _ _ _ h2 hlen
      refine ⟨y, fun k u hu => ?_, hy⟩
      have hk : k < s := by rw [← hlen]; exact (List.getElem?_eq_some_iff.1 hu).1
      rw [← Go.Deep.add_add, hc k hk, hu]
    obtain ⟨q, hq⟩ := @Go.Deep.choose_lt α ⟨z⟩ _ _ each
    have hat : ∀ i, i < len → ((List.range len).map q)[i]? = some (q i) := fun i hi => by simp [hi]
    refine ⟨(List.range len).map q, some a, cap, by simp, by simp; omega, fun h0 => ?_, fun K hK => ⟨?_, fun i x hix k hk => ?_⟩⟩
    · rw [flat_len f s hfl, List.length_map, List.length_range] at h0
      have h0' : 0 < len := by
        rcases Nat.eq_zero_or_pos len with e0 | e0
        · rw [e0, Nat.zero_mul] at h0; omega
        · exact e0
      obtain ⟨b, off, spot⟩ := a
      obtain ⟨u0, hu0⟩ : ∃ u, (f (q 0))[0]? = some u := ⟨_, List.getElem?_eq_getElem (by rw [hfl]; exact hs)⟩
      have hc0 := (hq 0 (by omega)).1 0 u0 hu0
      rw [Nat.zero_mul, Nat.zero_add] at hc0
      have hspot : spot = none := by simpa [Addr.add] using World.cell?_spot hc0
      subst hspot
      have hb := World.block_lt_of_cell? w _ hc0
      refine ⟨b, off, rfl, by simpa [Addr.add] using hb, fun j u hu => ?_⟩
      have hj : j < len * s := by
        have := (List.getElem?_eq_some_iff.1 hu).1
        rwa [flat_len f s hfl, List.length_map, List.length_range] at this
      have hi : j / s < len := Nat.div_lt_of_lt_mul (by rw [Nat.mul_comm]; exact hj)
      have ej : j / s * s + j % s = j := by rw [Nat.mul_comm]; exact Nat.div_add_mod j s
      have hg := flat_get f s hfl _ (j / s) (j % s) (Nat.mod_lt _ hs) (hat _ hi)
      rw [ej, hu] at hg
      have := (hq (j / s) (by omega)).1 (j % s) u hg.symm
      rw [ej, add_off] at this
      exact this
    · simp only [Prod.mk.injEq] at hx
      have h1 := hK _ (by rw [hx.1]; simp only [DataW.weights, ht]; exact List.mem_cons_self)
      rw [be] at h1
      simp only [List.length_map, List.length_range] at h1 ⊢
      exact Nat.le_trans (Nat.mul_le_mul_right _ (by omega)) h1
    · simp only [Prod.mk.injEq] at hx
      have hi : i < len := by
        have := (List.getElem?_eq_some_iff.1 hix).1
        simpa using this
      rw [hat i hi] at hix
      simp only [Option.some.injEq] at hix
      subst hix
      refine hK k ?_
      rw [hx.1]
      simp only [DataW.weights, ht, List.mem_cons, List.mem_append]
      exact Or.inr (Or.inl (weights_all (d := D i) (List.mem_map.2 ⟨i, List.mem_range.2 hi, rfl⟩) k ((hq i (by omega)).2 k hk)))

theorem rows_trod {α : Type} (z : α) (f : α → List Value) (s bytes : Nat) (hfl : ∀ a, (f a).length = s) (sizes : α → List Nat) {H : Type} {enc : TypeId × Value → H} {P : Program} {w : World} {t e : TypeId} (ht : P.underlying t = some (.slice e)) (ce : P.cellsOf e = s) (hs : 0 < s) (be : P.bytesOf e = bytes)
    (hdec : ∀ fuel cs' x, DataW.trod enc P w 0 (fun _ => true) true fuel e cs' = some x → cs'.length = s → ∃ a, cs' = f a ∧ ∀ k ∈ sizes a, k ∈ x.1.weights P e)
    {fuel : Nat} {v : Value} {d : DataW H} {p : List MemPlace} (h : DataW.trod enc P w 0 (fun _ => true) true fuel t [v] = some (d, p)) :
    ∃ (l : List α) (ao : Option Addr) (cap : Nat), v = .slice ao l.length cap ∧ FRow w ao (l.flatMap f) ∧ ∀ K, (∀ n, n ∈ d.weights P t → n ≤ K) → l.length * bytes ≤ K ∧ ∀ (i : Nat) x, l[i]? = some x → ∀ k ∈ sizes x, k ≤ K :=
  have ⟨l, ao, cap, h1, _, h2⟩ := rows_trodC z f s bytes hfl sizes ht ce hs be hdec h
  ⟨l, ao, cap, h1, h2⟩

theorem flatI_flat (l : List Int) : flatI l = l.flatMap (fun a => [.int .i64 a]) := by
  induction l with
  | nil => rfl
  | cons a l ih =>
    simp only [flatI, List.map_cons, List.flatMap_cons, List.cons_append, List.nil_append] at ih ⊢
    rw [ih]

section
variable {H : Type} {enc : TypeId × Value → H} {w : World}

theorem dec_int (fuel : Nat) (cs : List Value) (x : DataW H × List MemPlace) (h : DataW.trod enc Try.prog w 0 (fun _ => true) true fuel 3 cs = some x) (_ : cs.length = 1) : ∃ a : Int, cs = [.int .i64 a] ∧ ∀ k ∈ ([] : List Nat), k ∈ x.1.weights Try.prog 3 := by
  obtain ⟨z, hz, _, _⟩ := DataW.trod_int Try.underlying3 h
  exact ⟨z, hz, fun k hk => by simp at hk⟩

theorem dec_two {t : TypeId} {f0 f1 : Field} (ht : Try.prog.underlying t = some (.struct #[f0, f1])) (o0 : f0.offset = 0) (o1 : f1.offset = 1) (t0 : f0.type = 3) (t1 : f1.type = 3) {fuel : Nat} {a b : Value} {x : DataW H × List MemPlace} (h : DataW.trod enc Try.prog w 0 (fun _ => true) true fuel t [a, b] = some x) : ∃ y z : Int, a = .int .i64 y ∧ b = .int .i64 z ∧ (Lit.int .i64 y).wf = true ∧ (Lit.int .i64 z).wf = true := by
  have c1 : Try.prog.cellsOf 3 = 1 := by kernel_rfl
  obtain ⟨y0, y1, m, _, _, g0, g1⟩ := trod_struct2 ht h
  rw [t0, o0, c1] at g0
  rw [t1, o1, c1] at g1
  simp at g0 g1
  obtain ⟨y, hy, _, wy⟩ := DataW.trod_int Try.underlying3 g0
  obtain ⟨z, hz, _, wz⟩ := DataW.trod_int Try.underlying3 g1
  simp only [List.cons.injEq, and_true] at hy hz
  exact ⟨y, z, hy, hz, wy, wz⟩

theorem dec_entry (fuel : Nat) (cs : List Value) (x : DataW H × List MemPlace) (h : DataW.trod enc Try.prog w 0 (fun _ => true) true fuel 73 cs = some x) (hl : cs.length = 3) : ∃ a : E3, cs = e3 a ∧ ∀ k ∈ [a.val.size], k ∈ x.1.weights Try.prog 73 := by
  have c1 : Try.prog.cellsOf 33 = 2 := by kernel_rfl
  have c2 : Try.prog.cellsOf 9 = 1 := by kernel_rfl
  match cs, hl with
  | [a, b, d], _ =>
    obtain ⟨y0, y1, m, rfl, _, g0, g1⟩ := trod_struct2 Try.underlying73 h
    simp [c1, c2] at g0 g1
    obtain ⟨y, z, rfl, rfl, _, _⟩ := dec_two Try.underlying33 rfl rfl rfl rfl g0
    obtain ⟨s, hs, rfl, _⟩ := DataW.trod_string Try.underlying9 g1
    simp only [List.cons.injEq, and_true] at hs
    subst hs
    refine ⟨⟨y, z, s⟩, rfl, fun k hk => ?_⟩
    simp only [List.mem_singleton] at hk
    subst hk
    simp only [DataW.weights, Try.underlying73]
    exact DataW.weights_mem_each (j := 1) (t := 9) (d := .lit (.string s.data.toList)) rfl rfl _ (by simp [DataW.weights])

theorem dec_elem (fuel : Nat) (cs : List Value) (x : DataW H × List MemPlace) (h : DataW.trod enc Try.prog w 0 (fun _ => true) true fuel 38 cs = some x) (hl : cs.length = 5) : ∃ a : L5, cs = l5 a ∧ ∀ k ∈ [a.val.size], k ∈ x.1.weights Try.prog 38 := by
  have c1 : Try.prog.cellsOf 33 = 2 := by kernel_rfl
  have c2 : Try.prog.cellsOf 9 = 1 := by kernel_rfl
  have c3 : Try.prog.cellsOf 3 = 1 := by kernel_rfl
  have c4 : Try.prog.cellsOf 4 = 1 := by kernel_rfl
  match cs, hl with
  | [a0, a1, a2, a3, a4], _ =>
    obtain ⟨xs, n, _, rfl, _, hxl, hf⟩ := DataW.trod_struct Try.underlying38 h
    match xs, hxl with
    | [y0, y1, y2, y3], _ =>
      have g0 := hf 0 _ rfl
      have g1 := hf 1 _ rfl
      have g2 := hf 2 _ rfl
      have g3 := hf 3 _ rfl
      simp [c1, c2, c3, c4] at g0 g1 g2 g3
      obtain ⟨y, z, rfl, rfl, _, _⟩ := dec_two Try.underlying33 rfl rfl rfl rfl g0
      obtain ⟨u, hu, _, _⟩ := DataW.trod_int Try.underlying3 g1
      obtain ⟨s, hs, rfl, _⟩ := DataW.trod_string Try.underlying9 g2
      obtain ⟨b, hb, _⟩ := DataW.trod_bool Try.underlying4 g3
      simp only [List.cons.injEq, and_true] at hu hs hb
      subst hu hs hb
      refine ⟨⟨y, z, u, s, b⟩, rfl, fun k hk => ?_⟩
      simp only [List.mem_singleton] at hk
      subst hk
      simp only [DataW.weights, Try.underlying38]
      exact DataW.weights_mem_each (j := 2) (t := 9) (d := .lit (.string s.data.toList)) rfl rfl _ (by simp [DataW.weights])

set_option maxRecDepth 100000 in
/-- A cell that comes as an argument. -/
theorem open_cellD {base : Nat} {v : Value} {d : DataW H} {p : List MemPlace} (ok : Value.okWide Try.prog w .any base 31 v) (h : DataW.Trod enc Try.prog w 0 (fun _ => true) true 31 v d p) (hw : ∀ n, n ∈ d.weights Try.prog 31 → n ≤ reachBytes) :
    ∃ (c : Ce) (q : Pl), v = ceV c q ∧ c.ents.length ≤ q.ec ∧ c.elems.length ≤ q.lc ∧ CRow w c q ∧ Fit c := by
  have c0 : Try.prog.cellsOf 31 = 10 := by kernel_rfl
  have c1 : Try.prog.cellsOf 25 = 2 := by kernel_rfl
  have c2 : Try.prog.cellsOf 27 = 2 := by kernel_rfl
  have c3 : Try.prog.cellsOf 3 = 1 := by kernel_rfl
  have c4 : Try.prog.cellsOf 4 = 1 := by kernel_rfl
  have c5 : Try.prog.cellsOf 9 = 1 := by kernel_rfl
  have c6 : Try.prog.cellsOf 28 = 1 := by kernel_rfl
  have c7 : Try.prog.cellsOf 29 = 1 := by kernel_rfl
  have c8 : Try.prog.cellsOf 22 = 1 := by kernel_rfl
  obtain ⟨cs, rfl, hcs⟩ := okWide_struct Try.underlying31 ok
  rw [c0] at hcs
  obtain ⟨fuel, hf⟩ := h
  obtain ⟨xs, n, _, hx, _, hxl, hg⟩ := DataW.trod_struct Try.underlying31 hf
  obtain ⟨l⟩ := cs
  match l, hcs, xs, hxl with
  | [a0, a1, a2, a3, a4, a5, a6, a7, a8, a9], _, [y0, y1, y2, y3, y4, y5, y6, y7], _ =>
    have g0 := hg 0 _ rfl
    have g1 := hg 1 _ rfl
    have g2 := hg 2 _ rfl
    have g3 := hg 3 _ rfl
    have g4 := hg 4 _ rfl
    have g5 := hg 5 _ rfl
    have g6 := hg 6 _ rfl
    have g7 := hg 7 _ rfl
    simp [Value.cells, c1, c2, c3, c4, c5, c6, c7, c8] at g0 g1 g2 g3 g4 g5 g6 g7
    obtain ⟨kind, hk, _, _⟩ := DataW.trod_int Try.underlying3 g0
    obtain ⟨b, hb, _⟩ := DataW.trod_bool Try.underlying4 g1
    obtain ⟨t, nd, rfl, rfl, _, _⟩ := dec_two Try.underlying25 rfl rfl rfl rfl g2
    obtain ⟨s, hs, hys, _⟩ := DataW.trod_string Try.underlying9 g3
    obtain ⟨re, im, rfl, rfl, _, _⟩ := dec_two Try.underlying27 rfl rfl rfl rfl g4
    obtain ⟨d5, p5⟩ := y5
    obtain ⟨d6, p6⟩ := y6
    obtain ⟨d7, p7⟩ := y7
    obtain ⟨es, eo, ec, rfl, le5, re5, k5⟩ := rows_trodC ⟨0, 0, ByteArray.empty⟩ e3 3 32 (fun _ => rfl) (fun a => [a.val.size]) Try.underlying28 (by kernel_rfl) (by decide) (by kernel_rfl) dec_entry g5
    obtain ⟨ls, lo, lc, rfl, le6, re6, k6⟩ := rows_trodC ⟨0, 0, 0, ByteArray.empty, false⟩ l5 5 48 (fun _ => rfl) (fun a => [a.val.size]) Try.underlying29 (by kernel_rfl) (by decide) (by kernel_rfl) dec_elem g6
    obtain ⟨is, so, sc, rfl, re7, k7⟩ := rows_trod (0 : Int) (fun a => [.int .i64 a]) 1 8 (fun _ => rfl) (fun _ => []) Try.underlying22 (by kernel_rfl) (by decide) (by kernel_rfl) dec_int g7
    simp only [List.cons.injEq, and_true] at hk hb hs
    subst hk hb hs
    simp only [Prod.mk.injEq] at hx
    have hall : ∀ (j : Nat) (tt : TypeId) (dd : DataW H), ([3, 4, 25, 9, 27, 28, 29, 22] : List TypeId)[j]? = some tt → ([y0.1, y1.1, y2.1, y3.1, y4.1, d5, d6, d7] : List (DataW H))[j]? = some dd → ∀ k ∈ dd.weights Try.prog tt, k ≤ 140737488351232 := fun j tt dd hj hd k hk => by
      have h1 := hw k (by
        rw [hx.1]
        simp only [DataW.weights, Try.underlying31]
        exact DataW.weights_mem_each hj hd k hk)
      unfold reachBytes at h1
      omega
    have kk5 := k5 140737488351232 (hall 5 _ _ rfl rfl)
    have kk6 := k6 140737488351232 (hall 6 _ _ rfl rfl)
    have kk7 := k7 140737488351232 (hall 7 _ _ rfl rfl)
    refine ⟨⟨kind, b, t, nd, s, re, im, es, ls, is⟩, ⟨eo, ec, lo, lc, so, sc⟩, rfl, le5, le6, ⟨re5, re6, ?_⟩, kk5.1, kk6.1, kk7.1, ?_, fun i x hx => kk5.2 i x hx _ (List.mem_singleton.2 rfl), fun i x hx => kk6.2 i x hx _ (List.mem_singleton.2 rfl)⟩
    · show FRow w so (flatI is)
      rw [flatI_flat]; exact re7
    · exact hall 3 _ _ rfl rfl s.size (by rw [hys]; simp [DataW.weights])

theorem open_cellC {base : Nat} {v : Value} {d : DataW H} {p : List MemPlace} (ok : Value.okWide Try.prog w .any base 31 v) (h : DataW.Trod enc Try.prog w 0 (fun _ => true) true 31 v d p) (hw : ∀ n, n ∈ d.weights Try.prog 31 → n ≤ reachBytes) :
    ∃ (c : Ce) (q : Pl), v = ceV c q ∧ c.ents.length ≤ q.ec ∧ CRow w c q ∧ Fit c := by
  obtain ⟨c, q, h1, h3, _, h2⟩ := open_cellD ok h hw
  exact ⟨c, q, h1, h3, h2⟩

set_option maxRecDepth 100000 in
theorem open_cell {base : Nat} {v : Value} {d : DataW H} {p : List MemPlace} (ok : Value.okWide Try.prog w .any base 31 v) (h : DataW.Trod enc Try.prog w 0 (fun _ => true) true 31 v d p) (hw : ∀ n, n ∈ d.weights Try.prog 31 → n ≤ reachBytes) :
    ∃ (c : Ce) (q : Pl), v = ceV c q ∧ CRow w c q ∧ Fit c := by
  obtain ⟨c, q, h1, _, h2⟩ := open_cellC ok h hw
  exact ⟨c, q, h1, h2⟩

end

end Go.Proofs.Ytghlegidapmpmaa
