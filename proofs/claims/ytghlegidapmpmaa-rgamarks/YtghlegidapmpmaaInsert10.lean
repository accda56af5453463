/-
  slices.Insert at a row of elements of the call's own, by contract.
-/
import Derived.Test.YtghlegidapmpmaaIns10
import Derived.Deep.Cut
import Derived.Deep.CutRange
namespace Go.Proofs.Ytghlegidapmpmaa
open Go.RowKit Go.Shelf
set_option linter.unusedVariables false
set_option linter.unusedSimpArgs false

set_option maxHeartbeats 1000000 in
set_option maxRecDepth 100000 in
/-- Behind all. -/
theorem insertL_end (C : Nat) (ao : Option Addr) (ca : Nat) (l : List L5) (x : L5) (vb : Nat) (w : World) (hs : w.ownsRow C 38 5 (.slice ao l.length ca) l.length (flatL l)) (hv : w.ownsRow C 38 5 (.slice (some ⟨vb, 0, none⟩) 1 1) 1 (l5 x)) (hC : C ≤ w.heap.size) (hl : (l.length + 1) * 48 ≤ 140737488355328) :
    Calls Try.prog 19 #[.slice ao l.length ca, .int .i64 (l.length : Nat), .slice (some ⟨vb, 0, none⟩) 1 1] w fun e w' => ∃ bo cb, e = .returned (.slice bo (l.length + 1) cb) ∧ FOwn C w' bo (flatL (l ++ [x])) ∧ w.grownBy w' (Value.slice ao l.length ca).ownBlock ∧ (∀ b, bo = some ⟨b, 0, none⟩ → (Value.slice ao l.length ca).ownBlock = some b ∨ w.heap.size ≤ b) := by
  have HS : Hid (w.ownsRow C 38 5 (.slice ao l.length ca) l.length (flatL l) ∧ FRow w (some ⟨vb, 0, none⟩) (l5 x)) := ⟨hs, (own_row hv).row⟩
  have hcap := (own_cap hs).1
  have hcap2 := (own_cap hs).2
  unfold maxLen at hcap2
  clear hs hv
  go_enter Try.func19, Try.ntmps19
  cases ao with
  | none =>
    go_wp2_with (at_builtin; refine wpList_ontoG rfl _ _ 29 rfl Try.underlying29 Try.infoElem rfl (by decide) (by decide) (B := C) rfl rfl HS.out.1 HS.out.2 rfl (fun u hu => oneL (l := [x]) (by simpa [flatL] using hu)) (by omega) hC ?_; intro bo cb w1 o1 _ _ b1 f1)
    all_goals go_ret
    all_goals exact ⟨bo, ⟨cb, rfl⟩, by rw [flatL_append]; simpa [flatL] using own_row o1, b1, f1⟩
  | some ad =>
    obtain ⟨ab, aoff, asp⟩ := ad
    go_wp2_with (at_builtin; refine wpList_ontoG rfl _ _ 29 rfl Try.underlying29 Try.infoElem rfl (by decide) (by decide) (B := C) rfl rfl HS.out.1 HS.out.2 rfl (fun u hu => oneL (l := [x]) (by simpa [flatL] using hu)) (by omega) hC ?_; intro bo cb w1 o1 _ _ b1 f1)
    all_goals go_ret
    all_goals exact ⟨bo, ⟨cb, rfl⟩, by rw [flatL_append]; simpa [flatL] using own_row o1, b1, f1⟩

set_option maxHeartbeats 400000 in
set_option maxRecDepth 100000 in
/-- There is room. -/
theorem insertL_room (C g i ca : Nat) (l : List L5) (x : L5) (vb : Nat) (w : World) (hs : w.ownsRow C 38 5 (.slice (some ⟨g, 0, none⟩) l.length ca) l.length (flatL l)) (hv : w.ownsRow C 38 5 (.slice (some ⟨vb, 0, none⟩) 1 1) 1 (l5 x)) (hne : vb ≠ g) (hC : C ≤ w.heap.size) (hl : (l.length + 1) * 48 ≤ 140737488355328) (hi : i < l.length) (hr : l.length + 1 ≤ ca) :
    Calls Try.prog 19 #[.slice (some ⟨g, 0, none⟩) l.length ca, .int .i64 (i : Nat), .slice (some ⟨vb, 0, none⟩) 1 1] w fun e w' => ∃ bo cb, e = .returned (.slice bo (l.length + 1) cb) ∧ FOwn C w' bo (flatL (putX l i x)) ∧ w.grownBy w' (some g) ∧ (∀ b, bo = some ⟨b, 0, none⟩ → some g = some b ∨ w.heap.size ≤ b) := by
  obtain ⟨cur, hh, hcs, htk, hCg, hgw, q1, hcm⟩ := own_block hs
  obtain ⟨cv, hvh, hvs, hvt, q2, hvw, q3, q4⟩ := own_block hv
  unfold maxLen at hcm
  obtain ⟨n, hn⟩ : ∃ n, l.length = n := ⟨_, rfl⟩
  have hF : ∀ k u, (flatL l)[k]? = some u → w.cell? ⟨g, k, none⟩ = some u := fun k u hu => by
    rw [block_cell hh, ← htk, List.getElem?_take] at *
    split at hu
    · simpa using hu
    · simp at hu
  have hV : ∀ k u, (l5 x)[k]? = some u → w.cell? ⟨vb, k, none⟩ = some u := fun k u hu => by
    rw [block_cell hvh, ← hvt, List.getElem?_take] at *
    split at hu
    · simpa using hu
    · simp at hu
  have hS : ∀ k, k < (flatL l).length + (l5 x).length → (w.cell? ⟨g, k, none⟩).isSome = true := fun k hk => by
    rw [flatL_len] at hk
    simp only [List.length_cons, List.length_nil] at hk
    rw [block_cell hh, Array.getElem?_eq_getElem (by omega)]; rfl
  have hz : ∀ k, w.frozen? ⟨g, k, none⟩ = false := block_free hh
  have H : Hid (FOwn C ((w.drew.setCells g (i * 5 + (l5 x).length) ((flatL l).drop (i * 5))).setCells g (i * 5) (l5 x)) (some ⟨g, 0, none⟩) (flatL (putX l i x))) := by
    rw [putX_flat]
    exact fown_shift (W := w.drew) hCg hgw (by rw [flatL_len]; omega) hF hS hz
  have hov : ∀ lb cb, (callFunc 30 #[.slice (some ⟨vb, 0, none⟩) 1 1, .slice (some ⟨g, (i + 1) * 5, none⟩) lb cb]).run Try.prog w = .ok (.value (.bool false)) w := fun lb cb => by
    rw [run_callFunc_extern Try.func30 (by kernel_rfl) (by kernel_rfl) (by kernel_rfl) (e := Extern.SlicesOverlaps.overlaps #[29, 29] #[4]) (by kernel_rfl),
      Lib.run_overlaps_apart w 29 4 38 Try.underlying29 5 Try.sizeOf38 ⟨vb, 0, none⟩ ⟨g, (i + 1) * 5, none⟩ 1 1 lb cb hne _ _ _ _ (block_shape hvh) (block_shape hh) (by omega) (block_free hvh 0) (block_free hvh _)]
    rfl
  have HW : Hid ((∀ k u, (flatL l)[k]? = some u → w.cell? ⟨g, k, none⟩ = some u) ∧ (∀ k u, (l5 x)[k]? = some u → w.cell? ⟨vb, k, none⟩ = some u) ∧ (∀ k, k < (flatL l).length + (l5 x).length → (w.cell? ⟨g, k, none⟩).isSome = true) ∧ (∀ k, w.frozen? ⟨g, k, none⟩ = false)) := ⟨hF, hV, hS, hz⟩
  have HC : Hid (C ≤ g) := hCg
  have HN : Hid (l.length = n) := hn
  rw [hn] at hr hi hl ⊢
  clear hF hV hS hz hh hcs htk hCg hgw hvh hvs hvt hvw hs hv hC hn q1 q2 q3 q4
  have hz2 : ((i : Int) == (n : Int)) = false := by simp; omega
  have hgt : decide ((ca : Int) < (n : Int) + 1) = false := by simp; omega
  go_enter Try.func19, Try.ntmps19
  have hb2 : ¬ (ca = i + 1) := by omega
  have hb4 : ¬ (ca = i) := by omega
  have htn : ((i : Int) + 1).toNat = i + 1 := by omega
  have hin : i ≤ n := by omega
  have hb3 : (i : Int) ≤ (n : Int) + 1 := by omega
  have hw1 : IntKind.i64.wrap ((i : Int) + 1) = (i : Int) + 1 := by rw [IntKind.wrap_i64]; omega
  have hb1 : (0 : Int) ≤ (i : Int) + 1 := by omega
  have hmn : Nat.min (n + 1 - i) (n - i) * 5 = ((flatL l).drop (i * 5)).length := by
    rw [List.length_drop, flatL_len, HN.out]
    simp only [Nat.min_def]; split <;> omega
  have hmn2 : Nat.min 1 (n + 1 - i) * 5 = (l5 x).length := by
    simp only [Nat.min_def, List.length_cons, List.length_nil]; split <;> omega
  obtain ⟨W1, hW1⟩ : ∃ W1, W1 = w.drew.setCells g (i * 5 + (l5 x).length) ((flatL l).drop (i * 5)) := ⟨_, rfl⟩
  have ei : (i + 1) * 5 = i * 5 + (l5 x).length := by simp only [List.length_cons, List.length_nil]; omega
  have hdl : ((flatL l).drop (i * 5)).length = (n - i) * 5 := by rw [List.length_drop, flatL_len, HN.out]; omega
  have hfl : (flatL l).length = n * 5 := by rw [flatL_len, HN.out]
  have hcp1 : ∀ ty dc sc, (Builtin.copy_ #[29, 29] ty #[.slice (some ⟨g, (i + 1) * 5, none⟩) (n - i) dc, .slice (some ⟨g, i * 5, none⟩) (n + 1 - i) sc]).run Try.prog w.drew = .ok (goInt (Nat.min (n + 1 - i) (n - i))) W1 := fun ty dc sc => by
    rw [hW1, ← ei]
    refine run_copy_k w.drew _ _ ty 38 5 g ((i + 1) * 5) _ dc ⟨g, i * 5, none⟩ _ sc _ Try.underlying29 Try.sizeElem hmn (fun j v hj => ?_) (fun j hj => ?_) (fun j hj => HW.out.2.2.2 _) (fun v hv => oneL (List.mem_of_mem_drop hv))
    · rw [add_off]
      exact HW.out.1 _ v (by rwa [List.getElem?_drop] at hj)
    · exact HW.out.2.2.1 _ (by rw [hfl]; simp only [List.length_cons, List.length_nil]; omega)
  have hcp2 : ∀ ty dc, (Builtin.copy_ #[29, 29] ty #[.slice (some ⟨g, i * 5, none⟩) (n + 1 - i) dc, .slice (some ⟨vb, 0, none⟩) 1 1]).run Try.prog W1 = .ok (goInt (Nat.min 1 (n + 1 - i))) (W1.setCells g (i * 5) (l5 x)) := fun ty dc => by
    refine run_copy_k W1 _ _ ty 38 5 g (i * 5) _ dc ⟨vb, 0, none⟩ 1 1 _ Try.underlying29 Try.sizeElem hmn2 (fun j v hj => ?_) (fun j hj => ?_) (fun j hj => ?_) (fun v hv => oneL (l := [x]) (by simpa [flatL] using hv))
    · rw [add_off, Nat.zero_add, hW1, World.cell?_setCells_out g _ _ _ _ (fun h _ => absurd h hne)]
      exact HW.out.2.1 j v hj
    · rw [hW1]
      exact some_setCells g _ _ _ _ (HW.out.2.2.1 _ (by rw [hfl]; simp only [List.length_cons, List.length_nil] at hj ⊢; omega))
    · rw [hW1, World.frozen?_setCells]
      exact HW.out.2.2.2 _
  have HE : Hid (FOwn C (W1.setCells g (i * 5) (l5 x)) (some ⟨g, 0, none⟩) (flatL (putX l i x)) ∧ w.grownBy (W1.setCells g (i * 5) (l5 x)) (some g)) := by
    refine ⟨?_, ?_⟩
    · rw [hW1]; exact H.out
    · rw [hW1]; exact gb_setCells _ _ (gb_setCells _ _ (gb_drew (gb_refl _ _)))
  clear hmn hmn2 hW1 ei hdl hfl H HW
  go_upto_region 15 with (simp only [hov])
  go_region_law (refine step_copy_run rfl _ _ 29 29 rfl _ _ (by simp [Act.eval, Act.put]) (by simp [Act.eval, Act.put]) (hcp1 _ _ _) ?_)
  go_wp2_with (at_builtin; refine wpList_copy_run _ rfl _ _ 29 29 rfl _ _ rfl rfl (hcp2 _ _) ?_)
  go_ret
  exact ⟨_, ca, rfl, HE.out.1, HE.out.2, fun b hb => Or.inl (by simpa using hb)⟩

set_option maxHeartbeats 400000 in
set_option maxRecDepth 100000 in
/-- There is no room. -/
theorem insertL_grow (C g i ca : Nat) (l : List L5) (x : L5) (vb : Nat) (w : World) (hs : w.ownsRow C 38 5 (.slice (some ⟨g, 0, none⟩) l.length ca) l.length (flatL l)) (hv : w.ownsRow C 38 5 (.slice (some ⟨vb, 0, none⟩) 1 1) 1 (l5 x)) (hC : C ≤ w.heap.size) (hl : (l.length + 1) * 48 ≤ 140737488355328) (hi : i < l.length) (hr : ca < l.length + 1) :
    Calls Try.prog 19 #[.slice (some ⟨g, 0, none⟩) l.length ca, .int .i64 (i : Nat), .slice (some ⟨vb, 0, none⟩) 1 1] w fun e w' => ∃ bo cb, e = .returned (.slice bo (l.length + 1) cb) ∧ FOwn C w' bo (flatL (putX l i x)) ∧ w.grownBy w' (some g) ∧ (∀ b, bo = some ⟨b, 0, none⟩ → some g = some b ∨ w.heap.size ≤ b) := by
  obtain ⟨cur, hh, hcs, htk, hCg, hgw, q1, hcm⟩ := own_block hs
  obtain ⟨cv, hvh, hvs, hvt, q2, hvw, q3, q4⟩ := own_block hv
  unfold maxLen at hcm
  obtain ⟨n, hn⟩ : ∃ n, l.length = n := ⟨_, rfl⟩
  have hF : ∀ k u, (flatL l)[k]? = some u → w.cell? ⟨g, k, none⟩ = some u := fun k u hu => by
    rw [block_cell hh, ← htk, List.getElem?_take] at *
    split at hu
    · simpa using hu
    · simp at hu
  have hV : ∀ k u, (l5 x)[k]? = some u → w.cell? ⟨vb, k, none⟩ = some u := fun k u hu => by
    rw [block_cell hvh, ← hvt, List.getElem?_take] at *
    split at hu
    · simpa using hu
    · simp at hu
  have HN : Hid (l.length = n) := hn
  have hfl : (flatL l).length = n * 5 := by rw [flatL_len, hn]
  rw [hn] at hr hi hl q1 ⊢
  obtain ⟨i0, hi0, hz0, hz1, hz2⟩ := info_parts Try.infoElem
  obtain ⟨N, hN⟩ : ∃ N, w.heap.size = N := ⟨_, rfl⟩
  have HZ : Hid (w.heap.size = N) := hN
  obtain ⟨G, hG⟩ : ∃ G, grownCap w (n + 1) ca 38 = G := ⟨_, rfl⟩
  obtain ⟨z, hz⟩ : ∃ z, z = (.agg #[.int .i64 0, .int .i64 0, .int .i64 0, .string ByteArray.empty, .bool false] : Value) := ⟨_, rfl⟩
  have hzc : z.cells.size = 5 := by rw [hz]; rfl
  obtain ⟨ROW, hROW⟩ : ∃ ROW : Array Value, ROW = ((flatL l).take (i * 5)).toArray ++ Builtin.zeroCells z.cells (n + 1 - i) ++ Builtin.zeroCells z.cells (G - (n + 1)) := ⟨_, rfl⟩
  have hold : (Builtin.firstCells i0.size i (.slice (some ⟨g, 0, none⟩) i ca)).run Try.prog w.drew = .ok ((flatL l).take (i * 5)).toArray w.drew := by
    rw [hz1]
    refine run_firstCells_some w.drew 5 i ⟨g, 0, none⟩ i ca ((flatL l).take (i * 5)) (by rw [List.length_take, hfl]; omega) (fun j v hj => ?_)
    rw [add_off, Nat.zero_add]
    rw [List.getElem?_take] at hj
    split at hj
    · exact hF j v hj
    · cases hj
  have hik : i + (n + 1 - i) = n + 1 := by omega
  have hkk : (n : Int) + 1 - (i : Int) = ((n + 1 - i : Nat) : Int) := by omega
  obtain ⟨W1, hW1⟩ : ∃ W1, W1 = w.drew.alloc (.cells ROW 38) := ⟨_, rfl⟩
  have hrz : ∀ ty, (Builtin.append_ #[29, 3] ty #[.slice (some ⟨g, 0, none⟩) i ca, .int .i64 ((n : Int) + 1 - (i : Int))]).run Try.prog w = .ok (.slice (some ⟨N, 0, none⟩) (n + 1) G) W1 := fun ty => by
    have h := Lib.run_append_grow_zeros w 29 3 ty 38 i0 _ .i64 .i64 Try.underlying29 Try.underlying3 hi0 hz0 (some ⟨g, 0, none⟩) i ca ((flatL l).take (i * 5)) hold (n + 1 - i) (by omega) (by omega) (by omega) (by omega) (by rw [hz2]; omega) (by rw [hz2, hik]; exact growslice_fits hr hl)
    rw [hik, hG, hN, ← hz, ← hROW, ← hW1] at h
    rw [hkk]
    exact h
  have hRl : (n + 1) * 5 ≤ ROW.size := by
    rw [hROW]
    simp only [Array.size_append, List.size_toArray, List.length_take, Builtin.zeroCells, Array.size_map, Array.size_range, hzc, hfl]
    omega
  have hR1 : ∀ k u, k < i * 5 → (flatL l)[k]? = some u → W1.cell? ⟨N, k, none⟩ = some u := fun k u hk hu => by
    rw [hW1, World.cell?_alloc_at (w := w.drew) _ _ _ _ hN.symm, hROW, Array.append_assoc, Array.getElem?_append_left (by simp [hfl]; omega)]
    simp [List.getElem?_take, hk, hu]
  have hR2 : ∀ k, k < (n + 1) * 5 → (W1.cell? ⟨N, k, none⟩).isSome = true := fun k hk => by
    rw [hW1, World.cell?_alloc_at (w := w.drew) _ _ _ _ hN.symm, Array.getElem?_eq_getElem (by omega)]; rfl
  have hR3 : ∀ k, W1.frozen? ⟨N, k, none⟩ = false := fun k => by
    rw [hW1]
    exact World.frozen?_alloc_at (w := w.drew) _ _ _ _ hN.symm
  have hOld : ∀ b k u, b < N → w.cell? ⟨b, k, none⟩ = some u → W1.cell? ⟨b, k, none⟩ = some u := fun b k u hb hu => by
    rw [hW1, World.cell?_alloc_past (w := w.drew) _ _ _ (by show b < w.heap.size; omega)]; exact hu
  have hBW : w.grownBy W1 (some g) := by rw [hW1]; exact gb_trans (gb_drew (gb_refl _ _)) (World.grownBy_alloc _ _ _)
  have hSW : W1.heap.size = N + 1 := by rw [hW1]; show (w.heap.push _).size = _; simp [hN]
  have hGn : n + 1 ≤ G := by rw [← hG]; exact grownCap_ge w _ _ _
  have hG63 : G ≤ 9223372036854775807 := by
    have := grownCap_le_maxLen w (n + 1) ca 38 (by unfold maxLen; omega)
    rw [hG] at this
    unfold maxLen at this
    omega
  have hmn2 : Nat.min 1 (n + 1 - i) * 5 = (l5 x).length := by
    simp only [Nat.min_def, List.length_cons, List.length_nil]; split <;> omega
  have hmn : Nat.min (n - i) (n - i) * 5 = ((flatL l).drop (i * 5)).length := by
    rw [List.length_drop, hfl]
    simp only [Nat.min_def]; split <;> omega
  have hdl : ((flatL l).drop (i * 5)).length = (n - i) * 5 := by rw [List.length_drop, hfl]; omega
  have ei : (i + 1) * 5 = i * 5 + (l5 x).length := by simp only [List.length_cons, List.length_nil]; omega
  have hgN : g < N := by omega
  have hvN : vb < N := by omega
  have hC2 : C ≤ N := by omega
  obtain ⟨W2, hW2⟩ : ∃ W2, W2 = W1.setCells N (i * 5) (l5 x) := ⟨_, rfl⟩
  have hcp1 : ∀ ty dc, (Builtin.copy_ #[29, 29] ty #[.slice (some ⟨N, i * 5, none⟩) (n + 1 - i) dc, .slice (some ⟨vb, 0, none⟩) 1 1]).run Try.prog W1 = .ok (goInt (Nat.min 1 (n + 1 - i))) W2 := fun ty dc => by
    rw [hW2]
    refine run_copy_k W1 _ _ ty 38 5 N (i * 5) _ dc ⟨vb, 0, none⟩ 1 1 _ Try.underlying29 Try.sizeElem hmn2 (fun j v hj => ?_) (fun j hj => ?_) (fun j hj => hR3 _) (fun v hv => oneL (l := [x]) (by simpa [flatL] using hv))
    · rw [add_off, Nat.zero_add]
      exact hOld vb j v hvN (hV j v hj)
    · exact hR2 _ (by simp only [List.length_cons, List.length_nil] at hj; omega)
  obtain ⟨W3, hW3⟩ : ∃ W3, W3 = W2.drew.setCells N (i * 5 + (l5 x).length) ((flatL l).drop (i * 5)) := ⟨_, rfl⟩
  have hcp2 : ∀ ty dc sc, (Builtin.copy_ #[29, 29] ty #[.slice (some ⟨N, (i + 1) * 5, none⟩) (n - i) dc, .slice (some ⟨g, i * 5, none⟩) (n - i) sc]).run Try.prog W2.drew = .ok (goInt (Nat.min (n - i) (n - i))) W3 := fun ty dc sc => by
    rw [hW3, ← ei]
    refine run_copy_k W2.drew _ _ ty 38 5 N ((i + 1) * 5) _ dc ⟨g, i * 5, none⟩ _ sc _ Try.underlying29 Try.sizeElem hmn (fun j v hj => ?_) (fun j hj => ?_) (fun j hj => ?_) (fun v hv => oneL (List.mem_of_mem_drop hv))
    · rw [add_off]
      show W2.cell? _ = _
      rw [hW2, World.cell?_setCells_out N _ _ _ _ (fun h _ => absurd h (by show g ≠ N; omega))]
      exact hOld g _ v hgN (hF _ v (by rwa [List.getElem?_drop] at hj))
    · show (W2.cell? _).isSome = true
      rw [hW2]
      exact some_setCells N _ _ _ _ (hR2 _ (by omega))
    · show W2.frozen? _ = false
      rw [hW2, World.frozen?_setCells]
      exact hR3 _
  have HE : Hid (FOwn C W3 (some ⟨N, 0, none⟩) (flatL (putX l i x)) ∧ w.grownBy W3 (some g)) := by
    refine ⟨?_, ?_⟩
    · rw [hW3, hW2, putX_flat]
      exact fown_shift2 hC2 (by omega) (by rw [hfl]; omega) hR1 (fun k hk => hR2 k (by rw [hfl] at hk; simp only [List.length_cons, List.length_nil] at hk; omega)) hR3
    · rw [hW3, hW2]
      exact gb_newCells (by omega) _ _ (gb_drew (gb_newCells (by omega) _ _ hBW))
  have hzz2 : ((i : Int) == (n : Int)) = false := by simp; omega
  have hgt : decide ((ca : Int) < (n : Int) + 1) = true := by simp; omega
  have hb2 : ¬ (G = i + 1) := by omega
  have hb3 : ¬ (G = i) := by omega
  have hb4 : ¬ (ca = i) := by omega
  have htn : ((i : Int) + 1).toNat = i + 1 := by omega
  have hin : i ≤ n := by omega
  have hw1 : IntKind.i64.wrap ((i : Int) + 1) = (i : Int) + 1 := by rw [IntKind.wrap_i64]; omega
  have hb1 : (0 : Int) ≤ (i : Int) + 1 := by omega
  have hb5 : (i : Int) ≤ (n : Int) + 1 := by omega
  clear hmn hmn2 hW1 hW2 hW3 ei hdl hfl hF hV hR1 hR2 hR3 hOld hBW hSW hROW hRl hz hzc hold hG hN hi0 hz0 hz1 hz2 hkk hik hh hvh hs hv hcs htk hvs hvt hn hgw hvw q2 q3 q4 hCg hC hC2 hgN hvN
  go_enter Try.func19, Try.ntmps19
  go_upto_region 11 with (first
    | (at_builtin; refine Lib.wpList_append_run _ rfl _ _ _ _ rfl _ _ rfl rfl _ _ (hrz _) ?_)
    | (at_builtin; refine wpList_copy_run _ rfl _ _ 29 29 rfl _ _ rfl rfl (hcp1 _ _) ?_))
  go_region_law (refine step_copy_run rfl _ _ 29 29 rfl _ _ (by simp [Act.eval, Act.put]) (by simp [Act.eval, Act.put]) (hcp2 _ _ _) ?_)
  go_wp2
  go_ret
  exact ⟨_, G, rfl, HE.out.1, HE.out.2, fun b hb => Or.inr (by simp only [Option.some.injEq, Addr.mk.injEq, and_true] at hb; rw [HZ.out, hb]; exact Nat.le_refl _)⟩

/-- slices.Insert, whatever the room. -/
theorem insertL_any (C i : Nat) (ao : Option Addr) (ca : Nat) (l : List L5) (x : L5) (vb : Nat) (w : World) (hs : w.ownsRow C 38 5 (.slice ao l.length ca) l.length (flatL l)) (hv : w.ownsRow C 38 5 (.slice (some ⟨vb, 0, none⟩) 1 1) 1 (l5 x)) (hne : ao ≠ some ⟨vb, 0, none⟩) (hC : C ≤ w.heap.size) (hl : (l.length + 1) * 48 ≤ 140737488355328) (hi : i ≤ l.length) :
    Calls Try.prog 19 #[.slice ao l.length ca, .int .i64 (i : Nat), .slice (some ⟨vb, 0, none⟩) 1 1] w fun e w' => ∃ bo cb, e = .returned (.slice bo (l.length + 1) cb) ∧ FOwn C w' bo (flatL (putX l i x)) ∧ w.grownBy w' (Value.slice ao l.length ca).ownBlock ∧ (∀ b, bo = some ⟨b, 0, none⟩ → (Value.slice ao l.length ca).ownBlock = some b ∨ w.heap.size ≤ b) := by
  by_cases h1 : i = l.length
  · subst h1
    have e : putX l l.length x = l ++ [x] := by simp [putX]
    rw [e]
    exact insertL_end C ao ca l x vb w hs hv hC hl
  · have hi2 : i < l.length := by omega
    rcases hs.2 with ⟨_, h2⟩ | ⟨g, cap, cur, h2, _⟩
    · omega
    · simp only [Value.slice.injEq] at h2
      obtain ⟨rfl, _, rfl⟩ := h2
      by_cases h3 : l.length + 1 ≤ ca
      · exact insertL_room C g i ca l x vb w hs hv (fun e => hne (by rw [e])) hC hl hi2 h3
      · exact insertL_grow C g i ca l x vb w hs hv hC hl hi2 (by omega)

end Go.Proofs.Ytghlegidapmpmaa
