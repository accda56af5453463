/-
  Two sets put on in two rows, a row of dots that grows, eight marks: what the law OrsetRows keeps from round to round.
-/
import Derived.Test.YtedgobdeoheaoaaStep9
import Derived.Test.YtedgobdeoheaoaaFreshOwn
namespace Go.Proofs.Ytedgobdeoheaoaa
open Go.ChangeShapes Go.WideShapes Go.ChangeAt Go.RowKit Go.Shelf
set_option linter.unusedVariables false
set_option linter.unusedSimpArgs false

/-- The row from behind. -/
def dn (K i : Nat) : Nat := K - 1 - i
/-- The values put. -/
abbrev vf (p : Nat → Nat) : Nat → ByteArray := fun j => ⟨(valN (p j)).toArray⟩

theorem valN_up : ∀ i j, i < j → j < 8 → valN i < valN j := by
  have h : ∀ (a b : Fin 8), a.val < b.val → valN a.val < valN b.val := by decide +kernel
  intro i j h1 h2
  exact h ⟨i, by omega⟩ ⟨j, h2⟩ h1
theorem valN_small : ∀ m, m < 8 → (valN m).length ≤ 256 := by
  have h : ∀ a : Fin 8, (valN a.val).length ≤ 256 := by decide +kernel
  exact fun m hm => h ⟨m, hm⟩
theorem vf_small {p : Nat → Nat} {j : Nat} (h : p j < 8) : (vf p j).size ≤ 256 := valN_small _ h
theorem and7 : ∀ i : Nat, i < 8 → bits .and .i64 (i : Int) 7 = (i : Int) := by
  have h : ∀ a : Fin 8, bits .and .i64 ((a.val : Nat) : Int) 7 = ((a.val : Nat) : Int) := by decide +kernel
  exact fun m hm => h ⟨m, hm⟩

/-- The eight marks. -/
def lb (s : Nat → Bool) : List Value := (List.range 8).map fun m => .bool (s m)
theorem lb_at (s : Nat → Bool) {m : Nat} (hm : m < 8) : (lb s)[m]? = some (.bool (s m)) := by simp [lb, hm]
theorem lb_set {s s' : Nat → Bool} {m : Nat} (hm : m < 8) (h : s' m = true) (h2 : ∀ j, j ≠ m → s' j = s j) : (lb s).set m (.bool true) = lb s' := by
  apply List.ext_getElem?
  intro j
  by_cases e : m = j
  · subst e
    rw [List.getElem?_set_self (by simp [lb]; exact hm), lb_at _ hm, h]
  · rw [List.getElem?_set_ne e]
    by_cases hj : j < 8
    · rw [lb_at _ hj, lb_at _ hj, h2 j (Ne.symm e)]
    · simp [lb, hj]

theorem ac_small {p : Nat → Nat} (hp : ∀ j, p j < 8) (g : Nat → Nat) {i : Nat} (hi : i ≤ 64) : Small (accL (vf p) g i) := accL_small _ _ _ hi fun j _ => vf_small (hp _)
theorem ac_ok {p : Nat → Nat} (hp : ∀ j, p j < 8) {g : Nat → Nat} {i : Nat} {v : ByteArray} (hg : ∀ j, j < i → g j ≠ g i) (hi : g i < 64) (hv : vf p (g i) = v) {d1 d2 : Int} (hd : dotN (g i) = (d1, d2)) : putB (sc (accL (vf p) g i)) (d1, d2) v = true := by
  subst hv
  rw [← hd]
  exact put_ok (f := vf p) hg hi (vf_small (hp _))

theorem flatI_get {l : List Int} {i : Nat} (hi : i < l.length) : (flatI l)[i]? = some (.int .i64 (l.getD i 0)) := by
  simp [flatI, List.getD, List.getElem?_eq_getElem hi]
theorem flatI_length (l : List Int) : (flatI l).length = l.length := by simp [flatI]

section
variable {H : Type} {enc : TypeId × Value → H} {w : World}
set_option maxRecDepth 100000 in
/-- A row of numbers that comes as an argument. -/
theorem open_ints {base : Nat} {v : Value} {d : DataW H} {p : List MemPlace} (ok : Value.okWide Try.prog w .any base 28 v) (h : DataW.Trod enc Try.prog w 0 (fun _ => true) true 28 v d p) (hw : ∀ n, n ∈ d.weights Try.prog 28 → n ≤ reachBytes) :
    ∃ (l : List Int) (ao : Option Addr) (cap : Nat), v = .slice ao l.length cap ∧ FRow w ao (flatI l) ∧ l.length * 8 ≤ 140737488351232 := by
  obtain ⟨a0, len, cap, rfl⟩ := okWide_slice Try.underlying28 ok
  obtain ⟨fuel, hf⟩ := h
  obtain ⟨l, ao, cap2, e, hr, hk⟩ := rows_trod (0 : Int) (fun a => [.int .i64 a]) 1 8 (fun _ => rfl) (fun _ => []) Try.underlying28 (by kernel_rfl) (by decide) (by kernel_rfl) dec_int hf
  refine ⟨l, ao, cap2, e, by rw [flatI_flat]; exact hr, ?_⟩
  exact (hk 140737488351232 fun n hn => by have := hw n hn; unfold reachBytes at this; omega).1
end

/-- Two sets of the same entries are one. -/
theorem same_sets {l : List E3} {n : Nat} (q1 q2 : Pl) (w : World) (hn : n = l.length) (h1 : FRow w q1.eo (flatE l)) (h2 : FRow w q2.eo (flatE l)) (hs : Small l) :
    Calls Try.prog 18 #[slV n q1, slV n q2] w fun e w' => e = .returned (.bool true) ∧ Below w.heap.size w w' := by
  subst hn
  exact sameCell_any (sc l) q1 q2 w (sc_row h1) (sc_row h2) hs.fit

theorem wantL_step_yes {q : Nat → S8} {s : Nat → Bool} {m : Nat} (h : s m = true) : wantL q s (m + 1) = wantL q s m ++ [q m] := by rw [wantL, if_pos h]
theorem wantL_step_no {q : Nat → S8} {s : Nat → Bool} {m : Nat} (h : s m = false) : wantL q s (m + 1) = wantL q s m := by rw [wantL, if_neg (by simp [h])]; simp

/-- What the loop keeps. -/
structure Inv9 (h : Nat) (w : World) (g : Nat) (b : Nat → Bool) (p : Nat → Nat) (K i : Nat) (q1 q2 : Pl) (ro : Option Addr) (rc : Nat) (W : World) : Prop where
  rg : Regs h w W [(g + 2, lb (stays b p i)), (g + 1, slL i q2), (g, slL i q1)]
  e1 : FOwn (g + 3) W q1.eo (flatE (accL (vf p) (fun j => j) i))
  e2 : FOwn (g + 3) W q2.eo (flatE (accL (vf p) (dn K) i))
  ow : W.ownsRow (g + 3) 32 2 (.slice ro (goneL b i).length rc) (goneL b i).length (flatD (goneL b i))

/-- Once both sets are written over. -/
structure Mid2 (h : Nat) (w : World) (g : Nat) (b : Nat → Bool) (p : Nat → Nat) (K i : Nat) (q1 q2 : Pl) (ro : Option Addr) (rc B : Nat) (W : World) : Prop where
  rg : Regs h w W [(g + 2, lb (stays b p i)), (g + 1, slL (i + 1) q2), (g, slL (i + 1) q1)]
  e1 : FOwn B W q1.eo (flatE (accL (vf p) (fun j => j) (i + 1)))
  e2 : FOwn B W q2.eo (flatE (accL (vf p) (dn K) (i + 1)))
  ow : W.ownsRow (g + 3) 32 2 (.slice ro (goneL b i).length rc) (goneL b i).length (flatD (goneL b i))
  lt : ∀ k, (Value.slice ro (goneL b i).length rc).ownBlock = some k → k < B
  hB : g + 3 ≤ B

section
variable {h g K i B rc : Nat} {w wr W W' : World} {b : Nat → Bool} {p : Nat → Nat} {q1 q2 q1' q2' : Pl} {ro : Option Addr}

theorem has_put_off {w : World} {g k : Nat} {xs : List Value} (h : Has w g xs) (hk : k ≠ g) (u0 u1 u2 u3 u4 u5 u6 u7 u8 u9 : Value) : Has (put10 w k u0 u1 u2 u3 u4 u5 u6 u7 u8 u9) g xs := by
  repeat apply Has.other (hk := hk)
  exact h

/-- Once the first set is written over. -/
structure Mid1 (h : Nat) (w : World) (g : Nat) (b : Nat → Bool) (p : Nat → Nat) (K i kd : Nat) (q1 q2 q2' : Pl) (ro : Option Addr) (rc B : Nat) (W : World) : Prop where
  rg : Regs h w W [(kd, slL (i + 1) q2'), (g + 2, lb (stays b p i)), (g + 1, slL i q2), (g, slL (i + 1) q1)]
  e1 : FOwn B W q1.eo (flatE (accL (vf p) (fun j => j) (i + 1)))
  e2 : FOwn B W q2'.eo (flatE (accL (vf p) (dn K) (i + 1)))
  ow : W.ownsRow (g + 3) 32 2 (.slice ro (goneL b i).length rc) (goneL b i).length (flatD (goneL b i))
  lt : ∀ k, (Value.slice ro (goneL b i).length rc).ownBlock = some k → k < B
  hB : g + 3 ≤ B
  hk : B ≤ kd

theorem mid1_of {kd : Nat} (H : Inv9 h w g b p K i q1 q2 ro rc wr) (hB : wr.heap.size = B) (hb : Below B wr W) (O1 : FOwn B W q1'.eo (flatE (accL (vf p) (fun j => j) (i + 1)))) (O2 : FOwn B W q2'.eo (flatE (accL (vf p) (dn K) (i + 1)))) (hk : B ≤ kd) (HK : Has W kd (slL (i + 1) q2')) (hg : h ≤ g) :
    Mid1 h w g b p K i kd q1' q2 q2' ro rc B (put10 W g (.int .i64 2) (.bool false) (.int .i64 0) (.int .i64 0) (.string ⟨#[]⟩) (.int .i64 0) (.int .i64 0) (.slice q1'.eo (i + 1) q1'.ec) (.slice q1'.lo 0 q1'.lc) (.slice q1'.so 0 q1'.sc)) := by
  have hgB : g + 3 ≤ B := by have := H.rg.1.1; omega
  have H2 : Has W (g + 2) (lb (stays b p i)) := H.rg.1.under (by omega) hb
  have H1 : Has W (g + 1) (slL i q2) := H.rg.2.1.under (by omega) hb
  have H0 : Has W g (slL i q1) := H.rg.2.2.1.under (by omega) hb
  have hs := hb.size
  refine ⟨⟨?_, ?_, ?_, ?_, ?_, ?_⟩, ?_, ?_, ?_, ?_, hgB, hk⟩
  · exact has_put_off HK (by omega) _ _ _ _ _ _ _ _ _ _
  · exact has_put_off H2 (by omega) _ _ _ _ _ _ _ _ _ _
  · exact has_put_off H1 (by omega) _ _ _ _ _ _ _ _ _ _
  · exact H0.put10 _ _ _ _ _ _ _ _ _ _
  · exact below_put10 (H.rg.base.1.trans (hb.mono (by omega))) hg _ _ _ _ _ _ _ _ _ _
  · have := H.rg.base.2
    have : h ≤ W.heap.size := by omega
    simpa using this
  · exact O1.put10 (by omega) _ _ _ _ _ _ _ _ _ _
  · exact O2.put10 (by omega) _ _ _ _ _ _ _ _ _ _
  · exact own_put10 (own_under H.ow (fun k hk => by rw [← hB]; exact (H.ow.lt k hk).2) hb) (by omega) _ _ _ _ _ _ _ _ _ _
  · intro k hk
    rw [← hB]
    exact (H.ow.lt k hk).2

theorem mid2_of {kd : Nat} (H : Mid1 h w g b p K i kd q1 q2 q2' ro rc B W) (hg : h ≤ g) :
    Mid2 h w g b p K i q1 q2' ro rc B (put10 W (g + 1) (.int .i64 2) (.bool false) (.int .i64 0) (.int .i64 0) (.string ⟨#[]⟩) (.int .i64 0) (.int .i64 0) (.slice q2'.eo (i + 1) q2'.ec) (.slice q2'.lo 0 q2'.lc) (.slice q2'.so 0 q2'.sc)) := by
  have hB := H.hB
  refine ⟨⟨?_, ?_, ?_, ?_, ?_⟩, ?_, ?_, ?_, H.lt, H.hB⟩
  · exact has_put_off H.rg.2.1 (by omega) _ _ _ _ _ _ _ _ _ _
  · exact H.rg.2.2.1.put10 _ _ _ _ _ _ _ _ _ _
  · exact has_put_off H.rg.2.2.2.1 (by omega) _ _ _ _ _ _ _ _ _ _
  · exact below_put10 H.rg.base.1 (by omega) _ _ _ _ _ _ _ _ _ _
  · simpa using H.rg.base.2
  · exact H.e1.put10 (by omega) _ _ _ _ _ _ _ _ _ _
  · exact H.e2.put10 (by omega) _ _ _ _ _ _ _ _ _ _
  · exact own_put10 H.ow (by omega) _ _ _ _ _ _ _ _ _ _

theorem Mid2.later (H : Mid2 h w g b p K i q1 q2 ro rc B W) (hb : Below W.heap.size W W') : Mid2 h w g b p K i q1 q2 ro rc B W' :=
  ⟨H.rg.later hb, H.e1.later hb, H.e2.later hb, own_later H.ow hb, H.lt, H.hB⟩

theorem stays_gone (hb : b i = true) : stays b p (i + 1) = stays b p i := by
  funext m
  simp [stays, hb]

/-- A dot more. -/
theorem mid2_gone (H : Mid2 h w g b p K i q1 q2 ro rc B W) (hb : b i = true) {d1 d2 : Int} (hd : dotN i = (d1, d2)) {ro' : Option Addr} {rc' : Nat} (o : W'.ownsRow (g + 3) 32 2 (.slice ro' ((goneL b i).length + 1) rc') ((goneL b i).length + 1) (flatD (goneL b i) ++ [.int .i64 d1, .int .i64 d2])) (gr : W.grownBy W' (Value.slice ro (goneL b i).length rc).ownBlock) (hg : h ≤ g) :
    (goneL b (i + 1)).length = (goneL b i).length + 1 ∧ Inv9 h w g b p K (i + 1) q1 q2 ro' rc' W' := by
  have hlow : ∀ k, (Value.slice ro (goneL b i).length rc).ownBlock = some k → g + 3 ≤ k := fun k hk => (H.ow.lt k hk).1
  have hne : ∀ m, m < g + 3 → some m ≠ (Value.slice ro (goneL b i).length rc).ownBlock := fun m hm e => by have := hlow m e.symm; omega
  have hB := H.hB
  have e : goneL b (i + 1) = goneL b i ++ [dotN i] := by rw [goneL, if_pos hb]
  have el : (goneL b (i + 1)).length = (goneL b i).length + 1 := by rw [e]; simp
  refine ⟨el, ⟨?_, (gb_fown gr H.lt H.e1).mono hB, (gb_fown gr H.lt H.e2).mono hB, ?_⟩⟩
  · rw [stays_gone hb]
    exact ⟨gb_has gr H.rg.1 (hne _ (by omega)), gb_has gr H.rg.2.1 (hne _ (by omega)), gb_has gr H.rg.2.2.1 (hne _ (by omega)), H.rg.base.1.trans (gb_to gr H.rg.base.2 fun k hk => by have := hlow k hk; omega), Nat.le_trans H.rg.base.2 gr.size⟩
  · rw [el, e, flatD_append]
    have : flatD [dotN i] = [.int .i64 d1, .int .i64 d2] := by rw [hd]; rfl
    rw [this]
    exact o

/-- A mark more. -/
theorem mid2_left (H : Mid2 h w g b p K i q1 q2 ro rc B W) (hb : b i = false) {m : Nat} (hm : p i = m) (hm8 : m < 8) (hg : h ≤ g) :
    (goneL b (i + 1)).length = (goneL b i).length ∧ Inv9 h w g b p K (i + 1) q1 q2 ro rc (W.setCell ⟨g + 2, m, none⟩ (.bool true)) := by
  have hB := H.hB
  have e : goneL b (i + 1) = goneL b i := by rw [goneL, if_neg (by simp [hb])]; simp
  refine ⟨by rw [e], ⟨⟨?_, H.rg.2.1.other (by omega) _ _, H.rg.2.2.1.other (by omega) _ _, H.rg.base.1.setCell (p := ⟨g + 2, m, none⟩) (by show h ≤ g + 2; omega) _, by have := H.rg.base.2; simpa using this⟩, (H.e1.off (by omega) _ _).mono hB, (H.e2.off (by omega) _ _).mono hB, ?_⟩⟩
  · have := H.rg.1.put m (.bool true)
    rw [lb_set (s' := stays b p (i + 1)) hm8 (by simp [stays, hb, hm]) (fun j hj => by simp [stays, hb, hm, Ne.symm hj])] at this
    exact this
  · rw [e]
    exact ownsRow_setCell_below H.ow (a := ⟨g + 2, m, none⟩) (by show g + 2 < g + 3; omega) _

end

end Go.Proofs.Ytedgobdeoheaoaa
