/-
  Package matrix by contracts: New.
-/
import Derived.Test.YtdaakacjgkafcaaMat
namespace Go.Proofs.Ytdaakacjgkafcaa
open Go.RowKit
set_option linter.unusedVariables false

theorem Try.infoInts : (Try.prog.info? 32).map (fun i => (i.zero, i.size, i.bytes)) = some (some (.slice none 0 0), 1, 24) := by kernel_rfl

/-- The world behind 'make([][]int, n)'. -/
def madeRowsW (n : Nat) (w : World) : World := w.alloc (.cells (madeCells (Value.slice none 0 0).cells (n * 1)) 32)

theorem run_madeRows (n : Nat) (w : World) (hn : n ≤ 100000) : (Instr.makeSlice 48 (.int .i64 (n : Int)) (.int .i64 (n : Int))).run Try.prog w = .ok (.slice (some ⟨w.heap.size, 0, none⟩) n n) (madeRowsW n w) := by
  obtain ⟨i0, hi0, hz0, hz1, hz2⟩ := info_parts Try.infoInts
  have hr := run_make (P := Try.prog) w 48 32 i0 (.slice none 0 0) Try.underlying48 hi0 hz0 .i64 .i64 n n (by omega) (Int.le_refl _) (by rw [hz2]; omega) (by omega)
  simp only [Int.toNat_natCast, hz1] at hr
  exact hr

theorem nils_at (n j : Nat) (h : j < n) : ((madeCells (Value.slice none 0 0).cells (n * 1)).toList)[j]? = some (.slice none 0 0) := by
  rw [Nat.mul_one, show (Value.slice none 0 0).cells = #[.slice none 0 0] from rfl, toList_madeCells_one]
  simp [h]

theorem below_madeRows (n : Nat) (w : World) : Below w.heap.size w (madeRowsW n w) := (Below.refl _ _).alloc (Nat.le_refl _) _

theorem size_madeRows (n : Nat) (w : World) : (madeRowsW n w).heap.size = w.heap.size + 1 := by unfold madeRowsW; simp

theorem cell_madeRows (n : Nat) (w : World) {i : Nat} (hi : i < n) : (madeRowsW n w).cell? ⟨w.heap.size, i, none⟩ = some (.slice none 0 0) ∧ (madeRowsW n w).frozen? ⟨w.heap.size, i, none⟩ = false := by
  unfold madeRowsW
  constructor
  · rw [World.cell?_alloc_at _ _ _ _ rfl, ← Array.getElem?_toList, nils_at n i hi]
  · exact World.frozen?_alloc_at _ _ _ _ rfl

theorem CellRow.wide {F G : Nat → Prop} {w : World} {R i : Nat} {l : List Int} (h : CellRow w F R i l) (hFG : ∀ k, F k → G k) : CellRow w G R i l := by
  obtain ⟨h1, b, off, ca, h2, h3, h4⟩ := h
  exact ⟨h1, b, off, ca, h2, hFG _ h3, h4⟩

/-- One row of zeros more. -/
theorem rows_step {F : Nat → Prop} {w : World} {R i n m : Nat} {l : List Int} (hR : R < w.heap.size) (hF : ∀ k, F k → k < w.heap.size) (hc : CellRow w F R i l) (hm : m ≠ i) :
    CellRow ((madeW n w.drew).setCell ⟨R, m, none⟩ (.slice (some ⟨w.heap.size, 0, none⟩) n n)) F R i l := by
  obtain ⟨h1, b, off, ca, h2, h3, h4, h5, h6⟩ := hc
  have hb := below_made n w.drew
  refine ⟨by rw [World.frozen?_setCell, hb.frozen (by exact hR)]; exact h1, b, off, ca, ?_, h3, h4, by simp [size_made]; omega, fun j hj => ?_⟩
  · rw [World.cell?_setCell_other _ _ _ _ (by first | (simp; done) | (simp; omega)), hb.cell (by exact hR)]; exact h2
  · rw [World.cell?_setCell_other _ _ _ _ (by first | (simp; done) | (simp; omega)), hb.cell (by exact h5)]; exact h6 j hj

theorem rows_new {F : Nat → Prop} {w : World} {R i n : Nat} {u : Value} (hR : R < w.heap.size) (hF : F w.heap.size) (hc : w.cell? ⟨R, i, none⟩ = some u) (hf : w.frozen? ⟨R, i, none⟩ = false) :
    CellRow ((madeW n w.drew).setCell ⟨R, i, none⟩ (.slice (some ⟨w.heap.size, 0, none⟩) n n)) F R i (List.replicate n 0) := by
  have hb := below_made n w.drew
  refine ⟨by rw [World.frozen?_setCell, hb.frozen (by exact hR)]; exact hf, w.heap.size, 0, n, ?_, hF, by omega, by simp [size_made], fun j hj => ?_⟩
  · rw [World.cell?_setCell_same _ _ _ ((hb.cell (by exact hR)).trans hc)]
    simp
  · rw [World.cell?_setCell_other _ _ _ _ (by first | (simp; done) | (simp; omega))]
    obtain ⟨b, off, e, _, _, hcell⟩ := own_made n w.drew (by simp only [List.length_replicate] at hj ⊢; omega)
    simp only [Option.some.injEq, Addr.mk.injEq, and_true] at e
    obtain ⟨e1, rfl⟩ := e
    have := (hcell j hj).1
    rw [← e1] at this
    exact this

theorem newBad_any (nodes : Int) (w : World) (h : ¬ (1 ≤ nodes ∧ nodes ≤ 16)) :
    Calls Try.prog 6 #[.int .i64 nodes] w fun e w' => e = .returned (.tuple #[.pointer none, .int .i64 500]) ∧ w' = w := by
  by_cases h1 : nodes < 1
  · go_enter Try.func6, Try.ntmps6
    go_wp2
    go_ret2
    exact ⟨rfl, rfl⟩
  · have h2 : 16 < nodes := by omega
    go_enter Try.func6, Try.ntmps6
    go_wp2
    go_ret2
    exact ⟨rfl, rfl⟩

set_option maxHeartbeats 800000 in
set_option maxRecDepth 100000 in
theorem new_any (n : Nat) (w : World) (h1 : 1 ≤ n) (h2 : n ≤ 16) :
    Calls Try.prog 6 #[.int .i64 (n : Int)] w fun e w' => ∃ F P, e = .returned (.tuple #[.pointer (some ⟨P, 0, none⟩), .int .i64 0]) ∧ MatAt w' F P (Mx.zeros n) ∧ (∀ k, F k → w.heap.size ≤ k) ∧ Below w.heap.size w w' := by
  have RR := fun w => run_madeRows n w (by omega)
  have RM := fun w => run_made n w (by omega)
  have S0 : (madeRowsW n w).heap.size = w.heap.size + 1 := size_madeRows n w
  have B0 := below_madeRows n w
  have C0 := fun i (hi : i < n) => cell_madeRows n w hi
  have HS : Hid ((madeRowsW n w).heap.size = w.heap.size + 1 ∧ Below w.heap.size w (madeRowsW n w) ∧ ∀ i, i < n → (madeRowsW n w).cell? ⟨w.heap.size, i, none⟩ = some (.slice none 0 0) ∧ (madeRowsW n w).frozen? ⟨w.heap.size, i, none⟩ = false) := ⟨S0, B0, C0⟩
  clear B0 C0
  go_enter Try.func6, Try.ntmps6
  go_wp2
  go_loopg [17] n (fun m iv wr => ∃ i : Nat, i + m = n ∧ iv = .int .i64 i ∧ Below w.heap.size w wr ∧ w.heap.size + 1 < wr.heap.size ∧ wr.cell? ⟨w.heap.size + 1, 0, none⟩ = some (.slice (some ⟨w.heap.size, 0, none⟩) n n) ∧ (∀ j, j < i → CellRow wr (fun k => w.heap.size ≤ k ∧ k < wr.heap.size) w.heap.size j (List.replicate n 0)) ∧ (∀ j, i ≤ j → j < n → wr.cell? ⟨w.heap.size, j, none⟩ = some (.slice none 0 0) ∧ wr.frozen? ⟨w.heap.size, j, none⟩ = false))
  case atStart =>
    refine ⟨0, by omega, rfl, HS.out.2.1.alloc (by rw [S0]; omega) _, by rw [World.size_alloc, S0]; omega, ?_, fun j hj => by omega, fun j _ hj => ?_⟩
    · rw [World.cell?_alloc_at _ _ _ _ (by exact S0.symm)]; rfl
    · rw [World.cell?_alloc_past _ _ _ (by show w.heap.size < _; omega), World.frozen?_alloc_past _ _ _ (by show w.heap.size < _; omega)]
      exact HS.out.2.2 j hj
  case round =>
    obtain ⟨i, hin, rfl, hbel, hsz, hp, hd, hz⟩ := hrel
    clear S0
    by_cases hi : i < n
    · have kc := hz i (Nat.le_refl _) hi
      have q1 : (madeW n wr.drew).cell? ⟨w.heap.size + 1, 0, none⟩ = some (.slice (some ⟨w.heap.size, 0, none⟩) n n) := ((below_made n wr.drew).cell (by exact hsz)).trans hp
      have q2 : (madeW n wr.drew).cell? ⟨w.heap.size, i, none⟩ = some (.slice none 0 0) := ((below_made n wr.drew).cell (by simp; omega)).trans kc.1
      have q3 : (madeW n wr.drew).frozen? ⟨w.heap.size, i, none⟩ = false := ((below_made n wr.drew).frozen (by simp; omega)).trans kc.2
      have HD : Hid ((∀ j, j < i → CellRow wr (fun k => w.heap.size ≤ k ∧ k < wr.heap.size) w.heap.size j (List.replicate n 0)) ∧ (∀ j, i ≤ j → j < n → wr.cell? ⟨w.heap.size, j, none⟩ = some (.slice none 0 0) ∧ wr.frozen? ⟨w.heap.size, j, none⟩ = false)) := ⟨hd, hz⟩
      have HB : Hid (Below w.heap.size w wr) := hbel
      clear hd hz hbel HS
      go_wp2
      go_region
      all_goals go_wp2
      go_roundg (gk - 1)
      case measure => omega
      case rel =>
        have hs : ((madeW n wr.drew).setCell ⟨w.heap.size, i, none⟩ (.slice (some ⟨wr.heap.size, 0, none⟩) n n)).heap.size = wr.heap.size + 1 := by
          have := size_made n wr.drew
          simpa using this
        refine ⟨i + 1, by omega, by go_num, ?_, by rw [hs]; omega, ?_, fun j hj => ?_, fun j hj hj2 => ?_⟩
        · exact (thenB HB.out.drew (below_made n wr.drew)).setCell (p := ⟨w.heap.size, i, none⟩) (Nat.le_refl _) _
        · rw [World.cell?_setCell_other _ _ _ _ (by first | (simp; done) | (simp; omega))]; exact q1
        · rw [hs]
          by_cases e : j = i
          · subst e
            exact rows_new (by omega) ⟨by omega, by omega⟩ kc.1 kc.2
          · exact (rows_step (by omega) (fun k hk => hk.2) (HD.out.1 j (by omega)) (fun x => e x.symm)).wide fun k hk => ⟨hk.1, by omega⟩
        · rw [World.cell?_setCell_other _ _ _ _ (by first | (simp; done) | (simp; omega)), World.frozen?_setCell]
          rw [(below_made n wr.drew).cell (by simp; omega), (below_made n wr.drew).frozen (by simp; omega)]
          exact HD.out.2 j (by omega) hj2
    · have hdd : decide ((i : Int) < (n : Int)) = false := by simp; omega
      have e : i = n := by omega
      subst e
      have HD : Hid (∀ j, j < i → CellRow wr (fun k => w.heap.size ≤ k ∧ k < wr.heap.size) w.heap.size j (List.replicate i 0)) := hd
      have HB : Hid (Below w.heap.size w wr) := hbel
      clear hd hz hbel HS
      go_wp2
      go_ret2
      refine ⟨fun k => w.heap.size ≤ k ∧ k < wr.heap.size, w.heap.size + 1, rfl, ⟨w.heap.size, i, ⟨by omega, hsz⟩, ⟨by omega, by omega⟩, by omega, fun k hk => hk.2, ?_, by rw [Mx.zeros_length]; omega, fun j hj => ?_⟩, fun k hk => hk.1, HB.out⟩
      · rw [Mx.zeros_length]; exact hp
      · rw [Mx.zeros_length] at hj
        rw [Mx.zeros_at hj]
        exact HD.out j hj

end Go.Proofs.Ytdaakacjgkafcaa
