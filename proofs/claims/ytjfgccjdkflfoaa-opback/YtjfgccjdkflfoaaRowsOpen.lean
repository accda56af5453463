/-
  Rows of structs that come as arguments.
-/
import Derived.Test.YtjfgccjdkflfoaaCe
namespace Go.Proofs.Ytjfgccjdkflfoaa
open Go.ChangeShapes Go.WideShapes Go.ChangeAt Go.RowKit
set_option linter.unusedVariables false
set_option linter.unusedSimpArgs false

theorem weights_all {H : Type} {P : Program} {e : TypeId} : ∀ {l : List (DataW H)} {d : DataW H}, d ∈ l → ∀ n ∈ d.weights P e, n ∈ DataW.weightsAll P e l
  | [], d, h, n, hn => by simp at h
  | x :: r, d, h, n, hn => by
    simp only [DataW.weightsAll, List.mem_append]
    rcases List.mem_cons.1 h with rfl | h
    · exact Or.inl hn
    · exact Or.inr (weights_all h n hn)

/-- A row of structs, one cell of what came in. -/
theorem rows_trodC {α : Type} (z : α) (f : α → List Value) (s bytes : Nat) (hfl : ∀ a, (f a).length = s) (sizes : α → List Nat) {H : Type} {enc : TypeId × Value → H} {P : Program} {w : World} {t e : TypeId} (ht : P.underlying t = some (.slice e)) (ce : P.cellsOf e = s) (hs : 0 < s) (be : P.bytesOf e = bytes)
    (hdec : ∀ fuel cs' x, DataW.trod enc P w 0 (fun _ => true) true fuel e cs' = some x → cs'.length = s → ∃ a, cs' = f a ∧ ∀ k ∈ sizes a, k ∈ x.1.weights P e)
    {fuel : Nat} {v : Value} {d : DataW H} {p : List MemPlace} (h : DataW.trod enc P w 0 (fun _ => true) true fuel t [v] = some (d, p)) :
    ∃ (l : List α) (ao : Option Addr) (cap : Nat), v = .slice ao l.length cap ∧ l.length ≤ cap ∧ FRow w ao (l.flatMap f) ∧ ∀ K, (∀ n, n ∈ d.weights P t → n ≤ K) → l.length * bytes ≤ K ∧ ∀ (i : Nat) x, l[i]? = some x → ∀ k ∈ sizes x, k ≤ K := by
  rcases Go.Deep.open_slice ht h with ⟨hcs, _⟩ | ⟨a, len, cap, m, n, D, Pl, hcs, _, hl, hm, hmm, hx, hcell⟩
  · simp only [List.cons.injEq, and_true] at hcs
    subst hcs
    exact ⟨[], none, 0, rfl, by simp, FRow.nil _ _, fun K _ => ⟨by simp, fun i x hx => by simp at hx⟩⟩
  · simp only [List.cons.injEq, and_true] at hcs
    subst hcs
    have hmc : m = cap := by simpa using hmm
    have each : ∀ i, i < m → ∃ y : α, (∀ k u, (f y)[k]? = some u → w.cell? (a.add (i * s + k)) = some u) ∧ ∀ k ∈ sizes y, k ∈ (D i).weights P e := fun i hi => by
      obtain ⟨cs', h1, h2⟩ := hcell i hi
      rw [ce] at h1
      obtain ⟨_, hlen, hc⟩ := World.cells?_some h1
      obtain ⟨y, rfl, hy⟩ := hdec _ _ _ h2 hlen
      refine ⟨y, fun k u hu => ?_, hy⟩
      have hk : k < s := by rw [← hlen]; exact (List.getElem?_eq_some_iff.1 hu).1
      rw [← Go.Deep.add_add, hc k hk, hu]
    obtain ⟨q, hq⟩ := @Go.Deep.choose_lt α ⟨z⟩ _ _ each
    have hat : ∀ i, i < len → ((List.range len).map q)[i]? = some (q i) := fun i hi => by simp [hi]
    refine ⟨(List.range len).map q, some a, cap, by simp, by simp; omega, fun h0 => ?_, fun K hK => ⟨?_, fun i x hix k hk => ?_⟩⟩
    · rw [flat_len f s hfl, List.length_map, List.length_range] at h0
      have h0' : 0 < len := by
        rcases Nat.eq_zero_or_pos len with e0 | e0
        · rw [e0, Nat.zero_mul] at h0; omega
        · exact e0
      obtain ⟨b, off, spot⟩ := a
      obtain ⟨u0, hu0⟩ : ∃ u, (f (q 0))[0]? = some u := ⟨_, List.getElem?_eq_getElem (by rw [hfl]; exact hs)⟩
      have hc0 := (hq 0 (by omega)).1 0 u0 hu0
      rw [Nat.zero_mul, Nat.zero_add] at hc0
      have hspot : spot = none := by simpa [Addr.add] using World.cell?_spot hc0
      subst hspot
      have hb := World.block_lt_of_cell? w _ hc0
      refine ⟨b, off, rfl, by simpa [Addr.add] using hb, fun j u hu => ?_⟩
      have hj : j < len * s := by
        have := (List.getElem?_eq_some_iff.1 hu).1
        rwa [flat_len f s hfl, List.length_map, List.length_range] at this
      have hi : j / s < len := Nat.div_lt_of_lt_mul (by rw [Nat.mul_comm]; exact hj)
      have ej : j / s * s + j % s = j := by rw [Nat.mul_comm]; exact Nat.div_add_mod j s
      have hg := flat_get f s hfl _ (j / s) (j % s) (Nat.mod_lt _ hs) (hat _ hi)
      rw [ej, hu] at hg
      have := (hq (j / s) (by omega)).1 (j % s) u hg.symm
      rw [ej, add_off] at this
      exact this
    · simp only [Prod.mk.injEq] at hx
      have h1 := hK _ (by rw [hx.1]; simp only [DataW.weights, ht]; exact List.mem_cons_self)
      rw [be] at h1
      simp only [List.length_map, List.length_range] at h1 ⊢
      exact Nat.le_trans (Nat.mul_le_mul_right _ (by omega)) h1
    · simp only [Prod.mk.injEq] at hx
      have hi : i < len := by
        have := (List.getElem?_eq_some_iff.1 hix).1
        simpa using this
      rw [hat i hi] at hix
      simp only [Option.some.injEq] at hix
      subst hix
      refine hK k ?_
      rw [hx.1]
      simp only [DataW.weights, ht, List.mem_cons, List.mem_append]
      exact Or.inr (Or.inl (weights_all (d := D i) (List.mem_map.2 ⟨i, List.mem_range.2 hi, rfl⟩) k ((hq i (by omega)).2 k hk)))

theorem rows_trod {α : Type} (z : α) (f : α → List Value) (s bytes : Nat) (hfl : ∀ a, (f a).length = s) (sizes : α → List Nat) {H : Type} {enc : TypeId × Value → H} {P : Program} {w : World} {t e : TypeId} (ht : P.underlying t = some (.slice e)) (ce : P.cellsOf e = s) (hs : 0 < s) (be : P.bytesOf e = bytes)
    (hdec : ∀ fuel cs' x, DataW.trod enc P w 0 (fun _ => true) true fuel e cs' = some x → cs'.length = s → ∃ a, cs' = f a ∧ ∀ k ∈ sizes a, k ∈ x.1.weights P e)
    {fuel : Nat} {v : Value} {d : DataW H} {p : List MemPlace} (h : DataW.trod enc P w 0 (fun _ => true) true fuel t [v] = some (d, p)) :
    ∃ (l : List α) (ao : Option Addr) (cap : Nat), v = .slice ao l.length cap ∧ FRow w ao (l.flatMap f) ∧ ∀ K, (∀ n, n ∈ d.weights P t → n ≤ K) → l.length * bytes ≤ K ∧ ∀ (i : Nat) x, l[i]? = some x → ∀ k ∈ sizes x, k ≤ K :=
  have ⟨l, ao, cap, h1, _, h2⟩ := rows_trodC z f s bytes hfl sizes ht ce hs be hdec h
  ⟨l, ao, cap, h1, h2⟩

theorem flatI_flat (l : List Int) : flatI l = l.flatMap (fun a => [.int .i64 a]) := by
  induction l with
  | nil => rfl
  | cons a l ih =>
    simp only [flatI, List.map_cons, List.flatMap_cons, List.cons_append, List.nil_append] at ih ⊢
    rw [ih]

section
variable {H : Type} {enc : TypeId × Value → H} {w : World}

theorem dec_int (fuel : Nat) (cs : List Value) (x : DataW H × List MemPlace) (h : DataW.trod enc Try.prog w 0 (fun _ => true) true fuel 3 cs = some x) (_ : cs.length = 1) : ∃ a : Int, cs = [.int .i64 a] ∧ ∀ k ∈ ([] : List Nat), k ∈ x.1.weights Try.prog 3 := by
  obtain ⟨z, hz, _, _⟩ := DataW.trod_int Try.underlying3 h
  exact ⟨z, hz, fun k hk => by simp at hk⟩

theorem dec_two {t : TypeId} {f0 f1 : Field} (ht : Try.prog.underlying t = some (.struct #[f0, f1])) (o0 : f0.offset = 0) (o1 : f1.offset = 1) (t0 : f0.type = 3) (t1 : f1.type = 3) {fuel : Nat} {a b : Value} {x : DataW H × List MemPlace} (h : DataW.trod enc Try.prog w 0 (fun _ => true) true fuel t [a, b] = some x) : ∃ y z : Int, a = .int .i64 y ∧ b = .int .i64 z ∧ (Lit.int .i64 y).wf = true ∧ (Lit.int .i64 z).wf = true := by
  have c1 : Try.prog.cellsOf 3 = 1 := by kernel_rfl
  obtain ⟨y0, y1, m, _, _, g0, g1⟩ := trod_struct2 ht h
  rw [t0, o0, c1] at g0
  rw [t1, o1, c1] at g1
  simp at g0 g1
  obtain ⟨y, hy, _, wy⟩ := DataW.trod_int Try.underlying3 g0
  obtain ⟨z, hz, _, wz⟩ := DataW.trod_int Try.underlying3 g1
  simp only [List.cons.injEq, and_true] at hy hz
  exact ⟨y, z, hy, hz, wy, wz⟩

end

end Go.Proofs.Ytjfgccjdkflfoaa
