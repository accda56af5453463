/-
  The document's own matrix by contracts: NewMatrix.
-/
import Derived.Test.YtdaakacjgkafcaaMatNew
import Derived.Deep.RegionLaw
import Derived.Deep.AppendLies
namespace Go.Proofs.Ytdaakacjgkafcaa
open Go.RowKit
set_option linter.unusedVariables false

/-- 'append(rows, row)' inside a region that draws its order, rows the call's own. -/
theorem step_append_rows {ops : Array Oper} {o : Oper} {a : Act} {K : Act → World → Prop} {Q : Exit → Act → World → Prop} {E : Prop} (hgd : o.guard = none) (s x : Operand)
    (ho : o.op = .call { callee := .builtin .append, args := #[s, x], argTypes := #[48, 48] })
    {B : Nat} {v c : Value} {l : List Value} {n H : Nat} {W : World} (hH : W.heap.size = H) (hc : c.oneCell' = true)
    (hs : a.eval s = v) (hx : a.eval x = .slice (some ⟨H, 0, none⟩) 1 1)
    (hown : W.ownsRow B 32 1 v n l) (hlen : n < 100000) (hB : B ≤ W.heap.size)
    (h : ∀ g cap w', w'.ownsRow B 32 1 (.slice (some ⟨g, 0, none⟩) (n + 1) cap) (n + 1) (l ++ [c]) → (W.alloc (.cells #[c] 32)).grownBy w' v.ownBlock → (v.ownBlock = some g ∨ g = H + 1) → g < w'.heap.size → K (a.put o.dst (.slice (some ⟨g, 0, none⟩) (n + 1) cap)) w') :
    if Region.wanted o (yielded ops a.tmps) = true then Oper.wp Try.prog o a (W.alloc (.cells #[c] 32)) K Q else E := by
  subst hH
  obtain ⟨i0, hi, hz0, hz1, hz2⟩ := info_parts Try.infoInts
  refine step_append_lies _ hgd s x 48 ho B 32 i0 (.slice none 0 0) 1 24 Try.underlying48 hi hz0 hz1 hz2 rfl (by decide) v n l hs (hown.alloc _) ⟨W.heap.size, 0, none⟩ 1 1 [c] hx rfl ?_ ?_ (by omega) ?_ ?_ ?_ _ (World.size_alloc _ _) ?_
  · intro j u hj
    match j, hj with
    | 0, hj => simp at hj; subst hj; simp [Addr.add]
  · intro u hu; simp at hu; subst hu; exact hc
  · unfold maxLen; omega
  · omega
  · simp; omega
  · exact h

/-- What NewMatrix has made so far: i rows of zeros behind the pointer to block P. -/
def Grown (w : World) (P n i : Nat) : Prop :=
  P < w.heap.size ∧ w.frozen? ⟨P, 0, none⟩ = false ∧ ∃ v xs, w.cell? ⟨P, 0, none⟩ = some v ∧ w.ownsRow (P + 1) 32 1 v i xs ∧ ∀ j, j < i → ∃ b, xs[j]? = some (.slice (some ⟨b, 0, none⟩) n n) ∧ P < b ∧ b < w.heap.size ∧ v.ownBlock ≠ some b ∧ ∀ x, x < n → w.cell? ⟨b, x, none⟩ = some (.int .i64 0)

theorem refNewBad_any (nodes : Int) (w : World) (h : ¬ (1 ≤ nodes ∧ nodes ≤ 16)) :
    Calls Try.prog 7 #[.int .i64 nodes] w fun e w' => e = .returned (.tuple #[.pointer none, .int .i64 500]) ∧ w' = w := by
  by_cases h1 : nodes < 1
  · go_enter Try.func7, Try.ntmps7
    go_wp2
    go_ret2
    exact ⟨rfl, rfl⟩
  · have h2 : 16 < nodes := by omega
    go_enter Try.func7, Try.ntmps7
    go_wp2
    go_ret2
    exact ⟨rfl, rfl⟩

theorem grown_at {w w' : World} {P n i : Nat} {v c : Value} {xs : List Value} (hP : P < w.heap.size) (hown : w.ownsRow (P + 1) 32 1 v i xs) (hv : w.cell? ⟨P, 0, none⟩ = some v) (hf : w.frozen? ⟨P, 0, none⟩ = false) (hg : ((madeW n w.drew).alloc (.cells #[c] 32)).grownBy w' v.ownBlock) : w'.cell? ⟨P, 0, none⟩ = some v ∧ w'.frozen? ⟨P, 0, none⟩ = false := by
  have s1 : (madeW n w.drew).heap.size = w.heap.size + 1 := size_made n w.drew
  have hk : w'.heap[P]? = ((madeW n w.drew).alloc (.cells #[c] 32)).heap[P]? := hg.block P (by rw [World.size_alloc, s1]; omega) fun e => by have := (hown.lt P e.symm).1; omega
  have hb := ((below_made n w.drew).alloc (by rw [s1]; simp) (.cells #[c] 32))
  exact ⟨(World.cell?_of_block (a := ⟨P, 0, none⟩) hk).trans ((hb.cell (by exact hP)).trans hv), (World.frozen?_of_block (a := ⟨P, 0, none⟩) hk).trans ((hb.frozen (by exact hP)).trans hf)⟩

theorem grown_step {a w w' : World} {P n i g cap : Nat} {v : Value} {xs : List Value} (hbel : Below a.heap.size a w) (haP : a.heap.size ≤ P) (hP : P < w.heap.size) (hf : w.frozen? ⟨P, 0, none⟩ = false) (hv : w.cell? ⟨P, 0, none⟩ = some v) (hown : w.ownsRow (P + 1) 32 1 v i xs)
    (hrows : ∀ j, j < i → ∃ b, xs[j]? = some (.slice (some ⟨b, 0, none⟩) n n) ∧ P < b ∧ b < w.heap.size ∧ v.ownBlock ≠ some b ∧ ∀ x, x < n → w.cell? ⟨b, x, none⟩ = some (.int .i64 0))
    (hg : ((madeW n w.drew).alloc (.cells #[.slice (some ⟨w.heap.size, 0, none⟩) n n] 32)).grownBy w' v.ownBlock)
    (hown' : w'.ownsRow (P + 1) 32 1 (.slice (some ⟨g, 0, none⟩) (i + 1) cap) (i + 1) (xs ++ [.slice (some ⟨w.heap.size, 0, none⟩) n n])) (hgg : v.ownBlock = some g ∨ g = w.heap.size + 1 + 1) (hglt : g < w'.heap.size) :
    Below a.heap.size a (w'.setCell ⟨P, 0, none⟩ (.slice (some ⟨g, 0, none⟩) (i + 1) cap)) ∧ Grown (w'.setCell ⟨P, 0, none⟩ (.slice (some ⟨g, 0, none⟩) (i + 1) cap)) P n (i + 1) := by
  have s1 : (madeW n w.drew).heap.size = w.heap.size + 1 := size_made n w.drew
  have s2 : ((madeW n w.drew).alloc (.cells #[.slice (some ⟨w.heap.size, 0, none⟩) n n] 32)).heap.size = w.heap.size + 2 := by rw [World.size_alloc, s1]
  have hb0 := below_made n w.drew
  have hb1 := hb0.alloc (by rw [s1]; simp) (.cells #[.slice (some ⟨w.heap.size, 0, none⟩) n n] 32)
  have hs' := hg.size
  have hsa := hbel.size
  have hlen : xs.length = i := by have := hown.1; simpa using this
  have Z := grown_at hP hown hv hf hg
  have hgo := hown'.lt g rfl
  have old : ∀ b x, b < w.heap.size → v.ownBlock ≠ some b → w'.cell? ⟨b, x, none⟩ = w.cell? ⟨b, x, none⟩ := fun b x hb hne =>
    (World.cell?_of_block (a := ⟨b, x, none⟩) (hg.block b (by omega) fun e => hne e.symm)).trans (hb1.cell (by exact hb))
  have B1 : Below a.heap.size a w' := (hbel.trans (((Below.refl a.heap.size w).drew).trans (hb1.mono hsa))).grown hg (by omega) fun k hk => by have := (hown.lt k hk).1; omega
  refine ⟨B1.setCell (p := ⟨P, 0, none⟩) haP _, by simp; omega, by rw [World.frozen?_setCell]; exact Z.2, _, xs ++ [.slice (some ⟨w.heap.size, 0, none⟩) n n], World.cell?_setCell_same _ _ _ Z.1, ?_, fun j hj => ?_⟩
  · exact hown'.kept (w' := w'.setCell ⟨P, 0, none⟩ (.slice (some ⟨g, 0, none⟩) (i + 1) cap)) (row := some P) ⟨rfl, rfl, rfl, by simp, fun k hk hne => Below.heap_setCell _ _ _ _ fun e => hne (by rw [e])⟩ (Or.inr fun e => by simp [Value.ownBlock] at e; omega)
  · by_cases e : j = i
    · subst e
      refine ⟨w.heap.size, by simp [hlen], hP, by simp; omega, fun e => ?_, fun x hx => ?_⟩
      · simp [Value.ownBlock] at e
        rcases hgg with h | h
        · have := (hown.lt g h).2; omega
        · omega
      · rw [World.cell?_setCell_other _ _ _ _ (by first | (simp; done) | (simp; omega))]
        rw [World.cell?_of_block (a := ⟨w.heap.size, x, none⟩) (hg.block w.heap.size (by omega) fun e => by have := (hown.lt w.heap.size e.symm).2; omega)]
        rw [World.cell?_alloc_past _ _ _ (by omega)]
        have h0 := (own_made n w.drew).cellAt (j := x) (by simpa using hx)
        have h1 := h0.1
        simp only [List.getD, List.getElem?_replicate, hx, if_true, Option.getD_some] at h1
        exact h1
    · obtain ⟨b, e1, e2, e3, e4, e5⟩ := hrows j (by omega)
      refine ⟨b, by rw [List.getElem?_append_left (by omega)]; exact e1, e2, by simp; omega, fun e => ?_, fun x hx => ?_⟩
      · simp [Value.ownBlock] at e
        rcases hgg with h | h
        · exact e4 (by rw [h, e])
        · omega
      · rw [World.cell?_setCell_other _ _ _ _ (by first | (simp; done) | (simp; omega))]
        exact (old b x e3 e4).trans (e5 x hx)

set_option maxHeartbeats 800000 in
set_option maxRecDepth 100000 in
theorem refNew_any (n : Nat) (w : World) (h1 : 1 ≤ n) (h2 : n ≤ 16) :
    Calls Try.prog 7 #[.int .i64 (n : Int)] w fun e w' => ∃ F P, e = .returned (.tuple #[.pointer (some ⟨P, 0, none⟩), .int .i64 0]) ∧ MatAt w' F P (Mx.zeros n) ∧ (∀ k, F k → w.heap.size ≤ k) ∧ Below w.heap.size w w' := by
  have RM := fun w => run_made n w (by omega)
  go_enter Try.func7, Try.ntmps7
  go_wp2
  go_loopg [5] n (fun m iv wr => ∃ i : Nat, i + m = n ∧ iv = .int .i64 i ∧ Below w.heap.size w wr ∧ Grown wr w.heap.size n i)
  case atStart =>
    refine ⟨0, by omega, rfl, (Below.refl _ _).alloc (Nat.le_refl _) _, by simp, World.frozen?_alloc_at _ _ _ _ rfl, _, [], World.cell?_alloc_at _ _ _ _ rfl, World.ownsRow_nil _ _ _ _, fun j hj => by omega⟩
  case round =>
    obtain ⟨i, hin, rfl, hbel, hP, hfr, v, xs, hv, hown, hrows⟩ := hrel
    by_cases hi : i < n
    · have p1 : (madeW n wr.drew).cell? ⟨w.heap.size, 0, none⟩ = some v := ((below_made n wr.drew).cell (by exact hP)).trans hv
      have s1 : (madeW n wr.drew).heap.size = wr.heap.size + 1 := size_made n wr.drew
      have p2 : ((madeW n wr.drew).alloc (.cells #[.slice (some ⟨wr.heap.size, 0, none⟩) n n] 32)).cell? ⟨w.heap.size, 0, none⟩ = some v := by
        rw [World.cell?_alloc_past _ _ _ (by omega)]; exact p1
      have ho : (madeW n wr.drew).ownsRow (w.heap.size + 1) 32 1 v i xs := hown.drew.alloc _
      have HW : Hid (wr.ownsRow (w.heap.size + 1) 32 1 v i xs ∧ (∀ j, j < i → ∃ b, xs[j]? = some (.slice (some ⟨b, 0, none⟩) n n) ∧ w.heap.size < b ∧ b < wr.heap.size ∧ v.ownBlock ≠ some b ∧ ∀ x, x < n → wr.cell? ⟨b, x, none⟩ = some (.int .i64 0)) ∧ Below w.heap.size w wr ∧ (madeW n wr.drew).ownsRow (w.heap.size + 1) 32 1 v i xs) := ⟨hown, hrows, hbel, ho⟩
      clear hown hrows hbel ho
      go_wp2
      go_region_law ((refine step_append_rows (by rfl) _ _ (by rfl) (W := madeW n wr.drew) (l := xs) (n := i) s1 (by rfl) (by rfl) (by rfl) HW.out.2.2.2 (by omega) (by omega) ?_; intro g cap w' hown' hgrow hgg hglt; have Z := grown_at hP HW.out.1 hv hfr hgrow; have p3 := Z.1; have p4 := Z.2))
      all_goals go_wp2
      all_goals go_roundg (gk - 1)
      all_goals first
        | omega
        | exact ⟨i + 1, by omega, by go_num, grown_step HW.out.2.2.1 (Nat.le_refl _) hP hfr hv HW.out.1 HW.out.2.1 hgrow hown' hgg hglt⟩
    · have hdd : decide ((i : Int) < (n : Int)) = false := by simp; omega
      have e : i = n := by omega
      subst e
      have HW : Hid (wr.ownsRow (w.heap.size + 1) 32 1 v i xs ∧ (∀ j, j < i → ∃ b, xs[j]? = some (.slice (some ⟨b, 0, none⟩) i i) ∧ w.heap.size < b ∧ b < wr.heap.size ∧ v.ownBlock ≠ some b ∧ ∀ x, x < i → wr.cell? ⟨b, x, none⟩ = some (.int .i64 0)) ∧ Below w.heap.size w wr) := ⟨hown, hrows, hbel⟩
      clear hown hrows hbel
      go_wp2
      go_ret2
      obtain ⟨hown, hrows, hbel⟩ := HW.out
      refine ⟨fun k => w.heap.size ≤ k ∧ k < wr.heap.size, w.heap.size, rfl, ?_, fun k hk => hk.1, hbel⟩
      rcases hown.2 with ⟨rfl, h0⟩ | ⟨g, cap, cur, rfl, hb, hh, hn, hm, hcs, htake⟩
      · omega
      · have hlt := (hown.lt g rfl).2
        refine ⟨g, cap, ⟨Nat.le_refl _, hP⟩, ⟨by omega, hlt⟩, by omega, fun k hk => hk.2, by rw [Mx.zeros_length]; exact hv, by rw [Mx.zeros_length]; exact hn, fun j hj => ?_⟩
        rw [Mx.zeros_length] at hj
        rw [Mx.zeros_at hj]
        obtain ⟨b, e1, e2, e3, e4, e5⟩ := hrows j hj
        refine ⟨hown.frozenAt j, b, 0, i, ?_, ⟨by omega, e3⟩, fun e => e4 (by rw [e]; rfl), e3, fun x hx => ?_⟩
        · rw [hown.cellAt j (by omega), e1]; simp
        · simp only [List.length_replicate] at hx
          rw [Nat.zero_add, e5 x hx]
          simp [List.getD, hx]

end Go.Proofs.Ytdaakacjgkafcaa
