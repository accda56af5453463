/-
  Package matrix by contracts: Least.
-/
import Derived.Test.YtdaakacjgkafcaaMat
namespace Go.Proofs.Ytdaakacjgkafcaa
open Go.RowKit
set_option linter.unusedVariables false

/-- One number more of the lesser ones. -/
theorem least_step {w wr : World} {g j k m : Nat} {acc rw2 cur : List Int} {x y v : Int} {jv : Value} (hlo : ∀ x, x < j → cur.getD x 0 = min (acc.getD x 0) (rw2.getD x 0)) (hhi : ∀ x, j ≤ x → cur.getD x 0 = acc.getD x 0) (hcur : cur.length = k) (hj : j < k)
    (ho : OwnAt w.heap.size wr (some ⟨g, 0, none⟩) cur) (hb : Below w.heap.size w wr) (hg : w.heap.size ≤ g) (hx : x = cur.getD j 0) (hy : y = rw2.getD j 0) (hv : v = min x y) (hm : j + 1 + m = k) (hjv : jv = .int .i64 ((j + 1 : Nat) : Int)) :
    ∃ j' : Nat, j' + m = k ∧ jv = .int .i64 j' ∧ Below w.heap.size w (wr.setCell ⟨g, j, none⟩ (.int .i64 v)).drew ∧ ∃ cur : List Int, cur.length = k ∧ (∀ x, x < j' → cur.getD x 0 = min (acc.getD x 0) (rw2.getD x 0)) ∧ (∀ x, j' ≤ x → cur.getD x 0 = acc.getD x 0) ∧ OwnAt w.heap.size (wr.setCell ⟨g, j, none⟩ (.int .i64 v)).drew (some ⟨g, 0, none⟩) cur := by
  refine ⟨j + 1, hm, hjv, (hb.setCell (p := ⟨g, j, none⟩) hg _).drew, cur.set j v, by simpa using hcur, fun z hz => ?_, fun z hz => ?_, ?_⟩
  · by_cases e : j = z
    · subst e
      have : (cur.set j v).getD j 0 = v := by simp [List.getD, hcur, hj]
      rw [this, hv, hx, hy, hhi j (Nat.le_refl _)]
    · have : (cur.set j v).getD z 0 = cur.getD z 0 := by simp [List.getD, List.getElem?_set_ne e]
      rw [this]
      exact hlo z (by omega)
  · have : (cur.set j v).getD z 0 = cur.getD z 0 := by simp [List.getD, List.getElem?_set_ne (show j ≠ z by omega)]
    rw [this]
    exact hhi z (by omega)
  · exact (ho.set (j := j) (by omega) v).later (Below.refl _ _).drew

set_option maxHeartbeats 1000000 in
set_option maxRecDepth 100000 in
theorem least_any (F : Nat → Prop) (P : Nat) (rows : List (List Int)) (w : World) (hm : MatAt w F P rows) (hg : Mx.Good rows) :
    Calls Try.prog 10 #[.pointer (some ⟨P, 0, none⟩)] w fun e w' => ∃ ro rc, e = .returned (.slice ro (Mx.least rows).length rc) ∧ OwnAt w.heap.size w' ro (Mx.least rows) ∧ Below w.heap.size w w' := by
  obtain ⟨R, c, b, off, ca, h1, h2, h3, h4, h5⟩ := hm.read hg.1
  obtain ⟨k, hk⟩ : ∃ k, k = rows.length := ⟨_, rfl⟩
  have hk1 : 1 ≤ k := by have := hg.1; omega
  have hk2 : k ≤ 16 := by have := hg.2.1; omega
  have e0 : (rows.getD 0 []).length = k := by rw [hk]; exact hg.row hg.1
  have D := cloneInts_any b off ca (rows.getD 0 []) w h4 (by omega)
  rw [e0] at D h3
  rw [← hk] at h1 h2
  have eL : (Mx.least rows).length = k := by rw [hk]; exact Mx.least_length hg
  rw [eL]
  have hP : P < w.heap.size := by
    have ⟨_, _, z1, _, _, z4, _⟩ := hm
    exact z4 _ z1
  have HM : Hid (MatAt w F P rows ∧ Mx.Good rows ∧ k = rows.length) := ⟨hm, hg, hk⟩
  clear hm hg hk e0 h4 eL
  have d0 : ((k : Int) == 0) = false := by simp; omega
  have hlL : 0 < (rows.getD 0 []).length := by have := HM.out.2.1.row HM.out.2.1.1; have := HM.out.2.2; omega
  have HL : Hid (Mx.least rows = rows.tail.foldl (Ve.mk min) (rows.getD 0 [])) := rfl
  by_cases hc1 : c = 1
  · have hk3 : k = 1 := by omega
    subst hc1 hk3
    have e3 : Mx.least rows = rows.getD 0 [] := by
      rw [HL.out]
      have : rows.tail = [] := by apply List.eq_nil_of_length_eq_zero; have := HM.out.2.2; simp; omega
      rw [this]; rfl
    have HE : Hid (Mx.least rows = rows.getD 0 []) := e3
    clear e3
    go_enter Try.func10, Try.ntmps10
    go_wp2_with fail
    refine D.mono ?_
    rintro e w1 ⟨g, gc, rfl, ho, hb⟩
    clear D
    have q1 := (hb.cell (p := ⟨P, 0, none⟩) (by exact hP)).trans h1
    go_wp2
    refine wp_loop_rounds 1 ?_
    rw [rounds_succ]
    go_wp2
    go_ret
    exact ⟨_, _, rfl, by rw [HE.out]; exact ho, hb⟩
  · obtain ⟨q, hq⟩ : ∃ q, k - 1 = q := ⟨_, rfl⟩
    go_enter Try.func10, Try.ntmps10
    go_wp2_with fail
    refine D.mono ?_
    rintro e w1 ⟨g, gc, rfl, ho, hb⟩
    clear D
    have q1 := (hb.cell (p := ⟨P, 0, none⟩) (by exact hP)).trans h1
    have HO : Hid (OwnAt w.heap.size w1 (some ⟨g, 0, none⟩) (rows.getD 0 [])) := ho
    have HH : Hid (w.cell? ⟨P, 0, none⟩ = some (.slice (some ⟨R, 0, none⟩) k c)) := h1
    clear ho h1 h3
    go_wp2
    go_loopg [30] q (fun n iv wr => ∃ i : Nat, i + n = q ∧ iv = .int .i64 i ∧ Below w.heap.size w wr ∧ ∃ acc : List Int, acc.length = k ∧ (rows.tail.drop i).foldl (Ve.mk min) acc = Mx.least rows ∧ OwnAt w.heap.size wr (some ⟨g, 0, none⟩) acc)
    case atStart => exact ⟨0, by omega, rfl, hb, rows.getD 0 [], by have := HM.out.2.1.row HM.out.2.1.1; have := HM.out.2.2; omega, by rw [HL.out]; rfl, HO.out⟩
    case round =>
      clear q1
      obtain ⟨i, hin, rfl, hbel, acc, hacc, hfold, hown⟩ := hrel
      have HF : Hid ((rows.tail.drop i).foldl (Ve.mk min) acc = Mx.least rows) := hfold
      clear hfold
      by_cases hi : i < q
      · obtain ⟨R', c', b2, off2, ca2, y1, y2, y3, y4, y5⟩ := HM.out.1.read (k := i + 1) (by have := HM.out.2.2; omega)
        have er : R' = R := by
          have z := HH.out
          rw [y1] at z
          simp only [Option.some.injEq, Value.slice.injEq, Addr.mk.injEq] at z
          exact z.1.1
        subst er
        obtain ⟨rw2, hrw⟩ : ∃ r2, r2 = rows.getD (i + 1) [] := ⟨_, rfl⟩
        have el : rw2.length = k := by rw [hrw, HM.out.2.1.row (by have := HM.out.2.2; omega)]; exact HM.out.2.2.symm
        rw [← hrw] at y3 y4
        have hR2 : R' < w.heap.size := World.block_lt_of_cell? w _ y3
        rw [el] at y3
        have q3 : wr.cell? ⟨R', 1 + i, none⟩ = some (.slice (some ⟨b2, off2, none⟩) k ca2) := by
          rw [hbel.cell (by exact hR2), Nat.add_comm]; exact y3
        have hb2 : b2 < w.heap.size := by
          obtain ⟨b', off', e, hlt, _⟩ := y4 (by omega)
          simp only [Option.some.injEq, Addr.mk.injEq] at e
          omega
        have y6 : ∀ j, j < k → w.cell? ⟨b2, off2 + j, none⟩ = some (.int .i64 (rw2.getD j 0)) := fun j hj => by
          obtain ⟨b', off', e, hlt, hcell⟩ := y4 (by omega)
          simp only [Option.some.injEq, Addr.mk.injEq, and_true] at e
          obtain ⟨rfl, rfl⟩ := e
          exact hcell j (by omega)
        have hgw : w.heap.size ≤ g := by
          obtain ⟨b', off', e, hB, hlt, _⟩ := hown (by omega)
          simp only [Option.some.injEq, Addr.mk.injEq] at e
          omega
        have HR : Hid (OwnAt w.heap.size wr (some ⟨g, 0, none⟩) acc ∧ rw2 = rows.getD (i + 1) [] ∧ rw2.length = k ∧ ∀ j, j < k → w.cell? ⟨b2, off2 + j, none⟩ = some (.int .i64 (rw2.getD j 0))) := ⟨hown, hrw, el, y6⟩
        have HA : Hid (acc.length = k) := hacc
        have HQ : Hid (k - 1 = q) := hq
        have hi16 : i < 16 := by omega
        clear hown y1 y2 y3 y4 y5 y6 hrw el hacc hR2 hq
        obtain ⟨n1, hn1⟩ : ∃ n1, n1 = gk := ⟨_, rfl⟩
        go_wp2
        go_loopg [36] k (fun n jv wx => ∃ j : Nat, j + n = k ∧ jv = .int .i64 j ∧ Below w.heap.size w wx ∧ ∃ cur : List Int, cur.length = k ∧ (∀ x, x < j → cur.getD x 0 = min (acc.getD x 0) (rw2.getD x 0)) ∧ (∀ x, j ≤ x → cur.getD x 0 = acc.getD x 0) ∧ OwnAt w.heap.size wx (some ⟨g, 0, none⟩) cur)
        case atStart => exact ⟨0, by omega, rfl, hbel, acc, HA.out, fun x hx => by omega, fun x _ => rfl, HR.out.1⟩
        case round =>
          clear q3 hbel
          obtain ⟨j, hjn, rfl, hbx, cur, hcur, hlo, hhi, hox⟩ := hrel
          have HC : Hid (cur.length = k ∧ (∀ x, x < j → cur.getD x 0 = min (acc.getD x 0) (rw2.getD x 0)) ∧ (∀ x, j ≤ x → cur.getD x 0 = acc.getD x 0) ∧ OwnAt w.heap.size wr (some ⟨g, 0, none⟩) cur) := ⟨hcur, hlo, hhi, hox⟩
          clear hcur hlo hhi hox
          by_cases hj : j < k
          · have c1 := HC.out.2.2.2.cellAt (j := j) (by have := HC.out.1; omega)
            have c2 : wr.cell? ⟨b2, off2 + j, none⟩ = some (.int .i64 (rw2.getD j 0)) := (hbx.cell (by exact hb2)).trans (HR.out.2.2.2 j hj)
            obtain ⟨x, hx⟩ : ∃ x, x = cur.getD j 0 := ⟨_, rfl⟩
            obtain ⟨y, hy⟩ : ∃ y, y = rw2.getD j 0 := ⟨_, rfl⟩
            rw [← hx] at c1
            rw [← hy] at c2
            have HX : Hid (x = cur.getD j 0 ∧ y = rw2.getD j 0) := ⟨hx, hy⟩
            obtain ⟨c1, c3⟩ := c1
            clear hx hy
            go_wp2
            go_region
            all_goals go_wp2
            all_goals go_roundg (gk - 1)
            all_goals first
              | omega
              | exact least_step HC.out.2.1 HC.out.2.2.1 HC.out.1 hj HC.out.2.2.2 hbx hgw HX.out.1 HX.out.2 (by omega) (by omega) (by go_num)
          · have hd : decide ((j : Int) < (k : Int)) = false := by simp; omega
            go_wp2
            go_roundg (n1 - 1)
            case measure => omega
            case rel =>
              have hq := HQ.out
              have hrl := HM.out.2.2
              refine ⟨i + 1, by omega, by go_num, hbx, cur, HC.out.1, ?_, HC.out.2.2.2⟩
              have e : cur = Ve.mk min acc (rows.tail.getD i []) := by
                rw [Mx.tail_getD, ← HR.out.2.1]
                apply Ve.same
                · rw [Ve.mk_length, HC.out.1, HA.out]
                · intro x hx
                  rw [HC.out.1] at hx
                  rw [Ve.mk_at _ _ _ (by rw [HA.out]; exact hx)]
                  exact HC.out.2.1 x (by omega)
              rw [e]
              exact Mx.fold_step (by simp; omega) HF.out
      · have hd : decide ((i : Int) < (q : Int)) = false := by simp; omega
        have HO2 : Hid (OwnAt w.heap.size wr (some ⟨g, 0, none⟩) acc) := hown
        clear hown
        go_wp2
        go_ret
        have e : acc = Mx.least rows := by
          have := HF.out
          have hnil : rows.tail.drop i = [] := by apply List.eq_nil_of_length_eq_zero; have := HM.out.2.2; simp; omega
          rw [hnil] at this
          exact this
        exact ⟨_, _, rfl, by rw [← e]; exact HO2.out, hbel⟩

end Go.Proofs.Ytdaakacjgkafcaa
