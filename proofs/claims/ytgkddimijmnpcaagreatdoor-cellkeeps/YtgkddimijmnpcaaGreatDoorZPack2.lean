/-
  The document's own DropEntries, by contract.
-/
import Derived.Test.YtgkddimijmnpcaaGreatDoorZPack1
import Derived.Deep.Cut
import Derived.Deep.CutRange
import Derived.Shelf.SlicesG.CompactS
import Derived.Deep.LoopGhost
import Derived.OwnWalk
import Derived.Laws.BitsAllLaws
import Derived.Laws.Bits128
import Derived.RowKit
import Derived.Test.YtgkddimijmnpcaaGreatDoorChecked
import Derived.WalkKit
import Derived.WalkSpells
import Derived.WalkLawsBesides
import Derived.Laws.IdiomStrings
import Derived.Lib.ItoaNum
import Derived.Lib.ItoaLen
import Derived.Deep.RegionHeld3
import Derived.Deep.QuietTactic
import Derived.Shelf.Abstract
import Derived.WalkMore
import Derived.ScopeJumps
import Derived.Lib.Overlaps
import Derived.Lib.AppendZerosOnto
import Derived.Lib.SliceRun
namespace Go.Proofs.YtgkddimijmnpcaaGreatDoor
open Go.RowKit Go.Shelf
set_option linter.unusedVariables false
set_option linter.unusedSimpArgs false

set_option maxHeartbeats 400000 in
set_option maxRecDepth 100000 in
theorem among_any (d : D2) (ao : Option Addr) (ca : Nat) (ds : List D2) (w : World) (hr : FRow w ao (flatD ds)) (hl : ds.length * 16 ≤ 140737488355328) :
    Calls Tryz.prog 120 #[.slice ao ds.length ca, dv d] w fun e w' => e = .returned (.bool (decide (d ∈ ds))) ∧ Below w.heap.size w w' := by
  obtain ⟨h, hh⟩ : ∃ h, w.heap.size = h := ⟨_, rfl⟩
  have H0 : Hid (Has (w.alloc (.cells #[.int .i64 d.1, .int .i64 d.2] 32)) h [.int .i64 d.1, .int .i64 d.2] ∧ Below h w (w.alloc (.cells #[.int .i64 d.1, .int .i64 d.2] 32))) := ⟨hh ▸ has_new w [.int .i64 d.1, .int .i64 d.2] _, hh ▸ (Below.refl _ _).alloc (Nat.le_refl _) _⟩
  have HR : Hid (FRow w ao (flatD ds) ∧ w.heap.size = h) := ⟨hr, hh⟩
  obtain ⟨fin, hfin⟩ : ∃ fin, decide (d ∈ ds) = fin := ⟨_, rfl⟩
  rw [hh, hfin]
  have HF : Hid (decide (d ∈ ds) = fin) := hfin
  obtain ⟨d1, d2⟩ := d
  clear hr hfin
  go_enter Tryz.func120, Tryz.ntmps120
  go_wp2
  clear hh
  go_loopg [5] ds.length (fun n iv wr => ∃ i : Nat, i + n = ds.length ∧ iv = .int .i64 i ∧ Hid (Has wr h [.int .i64 d1, .int .i64 d2] ∧ Below h w wr) ∧ Hid (∀ (j : Nat) x, j < i → ds[j]? = some x → x ≠ (d1, d2)))
  case atStart => exact ⟨0, by omega, rfl, H0.out, fun j x hj => by omega⟩
  case round =>
    clear H0
    obtain ⟨i, hin, rfl, HB, HA⟩ := hrel
    by_cases hi : i < ds.length
    · obtain ⟨bk, off, rfl, hb, hc⟩ := HR.out.1 (by rw [flatD_len]; omega)
      obtain ⟨⟨x1, x2⟩, hx⟩ : ∃ x, ds[i]? = some x := ⟨_, List.getElem?_eq_getElem hi⟩
      obtain ⟨g0, g1⟩ := flatD_at ds i hx
      have hb1 : bk < h := HR.out.2 ▸ hb
      have k0 := (HB.out.2.cell (p := ⟨bk, off + i * 2, none⟩) (by exact hb1)).trans (hc _ _ g0)
      have k1 := (HB.out.2.cell (p := ⟨bk, off + i * 2 + 1, none⟩) (by exact hb1)).trans (hc _ _ g1)
      have t0 := HB.out.1.at 0 rfl
      have t1 := HB.out.1.at 1 rfl
      have HX : Hid (ds[i]? = some (x1, x2)) := hx
      clear hc hx g0 g1 hb
      by_cases hq : x1 = d1 ∧ x2 = d2
      · obtain ⟨rfl, rfl⟩ := hq
        go_wp2
        go_region
        all_goals go_wp2
        all_goals go_ret
        have e : fin = true := by
          rw [← HF.out, decide_eq_true_eq]
          exact List.mem_of_getElem? HX.out
        exact ⟨by rw [e]; rfl, HB.out.2.drew⟩
      · have hq1 : (x1 == d1 && x2 == d2) = false := by simpa using hq
        have HQ : Hid (¬ (x1 = d1 ∧ x2 = d2)) := hq
        by_cases h1 : x1 = d1
        · have h2 : (x2 == d2) = false := by simpa using fun e => hq ⟨h1, e⟩
          have h1' : (x1 == d1) = true := by simpa using h1
          clear hq hq1 h1
          go_wp2
          go_region
          all_goals go_wp2
          all_goals go_roundg (gk - 1)
          case measure => omega
          case rel =>
            refine ⟨i + 1, by omega, by go_num, ⟨HB.out.1.later (Below.refl _ _).drew, HB.out.2.drew⟩, fun j y hj hy => ?_⟩
            by_cases e : j = i
            · subst e
              have := HX.out.symm.trans hy
              simp only [Option.some.injEq] at this
              subst this
              simpa using HQ.out
            · exact HA.out j y (by omega) hy
        · have h1' : (x1 == d1) = false := by simpa using h1
          clear hq hq1 h1
          go_wp2
          go_region
          all_goals go_wp2
          all_goals go_roundg (gk - 1)
          case measure => omega
          case rel =>
            refine ⟨i + 1, by omega, by go_num, ⟨HB.out.1.later (Below.refl _ _).drew, HB.out.2.drew⟩, fun j y hj hy => ?_⟩
            by_cases e : j = i
            · subst e
              have := HX.out.symm.trans hy
              simp only [Option.some.injEq] at this
              subst this
              simpa using HQ.out
            · exact HA.out j y (by omega) hy
    · have hd : decide ((i : Int) < (ds.length : Int)) = false := by simp; omega
      go_wp2
      go_ret
      have e : fin = false := by
        rw [← HF.out, decide_eq_false_iff_not]
        intro hm
        obtain ⟨j, hj⟩ := List.getElem?_of_mem hm
        exact HA.out j _ (by have := (List.getElem?_eq_some_iff.1 hj).1; omega) hj rfl
      exact ⟨by rw [e]; rfl, HB.out.2⟩

set_option maxHeartbeats 400000 in
set_option maxRecDepth 100000 in
/-- The document's Drop refuses. -/
theorem rdrop_no (c : Ce) (p : Pl) (v : Value) (w : World) (hk : (c.kind != 2) = true) :
    Calls Tryz.prog 74 #[ceV c p, v] w fun e w' => e = .returned (.tuple #[ceV ce0 pl0, .int .i64 900]) ∧ Below w.heap.size w w' := by
  have H0 : Hid (Copy0 w w.heap.size c p (((w.alloc (.cells (ceL c p).toArray 30)).alloc (.cells (ceL ce0 pl0).toArray 30)))) := copy0_new w c p 30
  obtain ⟨h, hh⟩ : ∃ h, w.heap.size = h := ⟨_, rfl⟩
  rw [hh] at H0 ⊢
  go_enter Tryz.func74, Tryz.ntmps74
  go_wp2_with fail
  exact bodyPost_ret (ret_cell2 rfl rfl rfl H0.out.2.2) rfl ⟨rfl, H0.out.1⟩

/-- What a loop that makes entries keeps: the cell in block h, the answer's place behind it, the row in memory from B on. -/
def El (w : World) (h B a : Nat) (c : Ce) (p : Pl) (l : List E3) (ao : Option Addr) (ca : Nat) (wr : World) : Prop :=
  Below h w wr ∧ Has wr h (ceL c p) ∧ Has wr a (ceL ce0 pl0) ∧ wr.ownsRow B 62 3 (.slice ao l.length ca) l.length (flatE l) ∧ h < a ∧ a < B

theorem El.later {w wr w2 : World} {h B a : Nat} {c : Ce} {p : Pl} {l : List E3} {ao : Option Addr} {ca : Nat} (H : El w h B a c p l ao ca wr) (hb : Below wr.heap.size wr w2) : El w h B a c p l ao ca w2 :=
  ⟨H.1.trans (hb.mono (by have := H.2.1.1; omega)), H.2.1.later hb, H.2.2.1.later hb, own_later H.2.2.2.1 hb, H.2.2.2.2⟩

theorem El.grown {w wr w2 : World} {h B a : Nat} {c : Ce} {p : Pl} {l m : List E3} {ao bo : Option Addr} {ca cb k : Nat} {W : World} (H : El w h B a c p l ao ca wr) (hW : Below wr.heap.size wr W) (hB : B ≤ wr.heap.size) (hk : k = m.length) (o2 : w2.ownsRow B 62 3 (.slice bo (l.length + k) cb) (l.length + k) (flatE l ++ flatE m)) (b2 : Below B W w2) : El w h B a c p (l ++ m) bo cb w2 := by
  have h1 := H.2.2.2.2
  have hal : Below B wr w2 := (hW.mono hB).trans b2
  subst hk
  refine ⟨H.1.trans (hal.mono (by omega)), H.2.1.under (by omega) hal, H.2.2.1.under (by omega) hal, ?_, h1⟩
  rw [flatE_append, List.length_append]
  exact o2

theorem dropL_step {l : List E3} {ds : List D2} {i : Nat} {x : E3} (hx : l[i]? = some x) : dropL (l.take (i + 1)) ds = dropL (l.take i) ds ++ (if decide (dotE x ∈ ds) then [] else [x]) := by
  unfold dropL
  rw [List.take_add_one, hx, List.filter_append]
  by_cases h : dotE x ∈ ds
  · simp [h]
  · simp [h]

theorem dropL_le (l : List E3) (ds : List D2) : (dropL l ds).length ≤ l.length := List.length_filter_le _ _

/-- The end of the document's calls. -/
theorem ref_end {fn : Func} {act : Act} {w W : World} {h a B r : Nat} {d : Ce} {q : Pl} (hB : Below h w W) (HA : Has W a (ceL ce0 pl0)) (HO : COwn B W d q) (ha : h ≤ a) (haB : a < B) (hr : fn.results = #[.cell r 30, .tmp (r + 1)]) (h6 : act.tmps[r]? = some (.pointer (some ⟨a, 0, none⟩))) (h7 : act.tmps[r + 1]? = some (.int .i64 0)) (hd : act.defers = []) :
    bodyPost Tryz.prog fn (fun e w' => ∃ q, e = .returned (.tuple #[ceV d q, .int .i64 0]) ∧ COwn h w' d q ∧ Below h w w') Exit.ret act (put10 W a (.int .i64 d.kind) (.bool d.set) (.int .i64 d.time) (.int .i64 d.node) (.string d.val) (.int .i64 d.re) (.int .i64 d.im) (.slice q.eo d.ents.length q.ec) (.slice q.lo d.elems.length q.lc) (.slice q.so d.seen.length q.sc)) :=
  bodyPost_ret (ret_cell2 hr h6 h7 (HA.put10 _ _ _ _ _ _ _ _ _ _)) hd ⟨q, rfl, (HO.put10 haB _ _ _ _ _ _ _ _ _ _).mono (by omega), below_put10 hB ha _ _ _ _ _ _ _ _ _ _⟩

/-- Behind the document's copy, once it is stored: the new entries, the copy's other lists. -/
def Cp (w : World) (h B a : Nat) (c : Ce) (q : Pl) (l : List E3) (ao : Option Addr) (ca : Nat) (w3 : World) : Prop :=
  Below h w w3 ∧ Has w3 h (ceL c q) ∧ Has w3 a (ceL ce0 pl0) ∧ COwn B w3 (cE c l) ⟨ao, ca, q.lo, q.lc, q.so, q.sc⟩

theorem cp_of {w w1 w2 : World} {h B a : Nat} {c : Ce} {p q : Pl} {l : List E3} {ao : Option Addr} {ca : Nat} (H : El w h B a c p l ao ca w1) (hB : B ≤ w1.heap.size) (o2 : COwn w1.heap.size w2 c q) (b2 : Below w1.heap.size w1 w2) :
    Cp w h B a c q l ao ca (put10 w2 h (.int .i64 c.kind) (.bool c.set) (.int .i64 c.time) (.int .i64 c.node) (.string c.val) (.int .i64 c.re) (.int .i64 c.im) (.slice q.eo c.ents.length q.ec) (.slice q.lo c.elems.length q.lc) (.slice q.so c.seen.length q.sc)) := by
  have H2 := H.later b2
  have h1 := H.2.2.2.2
  refine ⟨below_put10 H2.1 (Nat.le_refl _) _ _ _ _ _ _ _ _ _ _, H2.2.1.put10 _ _ _ _ _ _ _ _ _ _, ?_, (own_row H2.2.2.2.1).put10 (by omega) _ _ _ _ _ _ _ _ _ _, (o2.2.1.mono hB).put10 (by omega) _ _ _ _ _ _ _ _ _ _, (o2.2.2.mono hB).put10 (by omega) _ _ _ _ _ _ _ _ _ _⟩
  repeat apply Has.other (hk := by omega)
  exact H2.2.2.1

theorem Cp.set {w w3 : World} {h B a : Nat} {c : Ce} {q : Pl} {l : List E3} {ao : Option Addr} {ca : Nat} (H : Cp w h B a c q l ao ca w3) (ha : h < a) (hB : a < B) (u : Value) : Below h w (w3.setCell ⟨h, 7, none⟩ u) ∧ Has (w3.setCell ⟨h, 7, none⟩ u) a (ceL ce0 pl0) ∧ COwn B (w3.setCell ⟨h, 7, none⟩ u) (cE c l) ⟨ao, ca, q.lo, q.lc, q.so, q.sc⟩ :=
  ⟨H.1.setCell (p := ⟨h, 7, none⟩) (Nat.le_refl _) _, H.2.2.1.other (by omega) _ _, H.2.2.2.off (by omega) _ _⟩

set_option maxHeartbeats 1000000 in
set_option maxRecDepth 100000 in
/-- The document's Drop takes it. -/
theorem rdrop_yes (c : Ce) (p : Pl) (bo : Option Addr) (cb : Nat) (ds : List D2) (w : World) (hr : CRow w c p) (hf : Fit c) (hds : FRow w bo (flatD ds)) (hl2 : ds.length * 16 ≤ 140737488355328) (hk : (c.kind != 2) = false) :
    Calls Tryz.prog 74 #[ceV c p, .slice bo ds.length cb] w fun e w' => ∃ q, e = .returned (.tuple #[ceV (cE c (dropL c.ents ds)) q, .int .i64 0]) ∧ COwn w.heap.size w' (cE c (dropL c.ents ds)) q ∧ Below w.heap.size w w' := by
  have H00 := copy0_new w c p 30
  obtain ⟨h, hh⟩ : ∃ h, w.heap.size = h := ⟨_, rfl⟩
  rw [hh] at H00
  have H0 : Hid (El w h (h + 2) (h + 1) c p [] none 0 (((w.alloc (.cells (ceL c p).toArray 30)).alloc (.cells (ceL ce0 pl0).toArray 30)))) := ⟨H00.1, H00.2.1, H00.2.2, own_nil _ _ _ _, by omega, by omega⟩
  have HR : Hid (CRow w c p ∧ Fit c ∧ FRow w bo (flatD ds) ∧ w.heap.size = h) := ⟨hr, hf, hds, hh⟩
  have hl := hf.1
  obtain ⟨L, hL⟩ : ∃ L, dropL c.ents ds = L := ⟨_, rfl⟩
  rw [hL, hh]
  have HL : Hid (dropL c.ents ds = L) := hL
  clear hr hf hds hL H00
  go_enter Tryz.func74, Tryz.ntmps74
  go_wp2
  clear hh
  go_loopg [6, 7] c.ents.length (fun n s6 iv wr => ∃ (i : Nat) (ao : Option Addr) (ca : Nat), i + n = c.ents.length ∧ iv = .int .i64 i ∧ s6 = .slice ao (dropL (c.ents.take i) ds).length ca ∧ Hid (El w h (h + 2) (h + 1) c p (dropL (c.ents.take i) ds) ao ca wr))
  case atStart => exact ⟨0, none, 0, by omega, rfl, rfl, H0.out⟩
  case round =>
    clear H0
    obtain ⟨i, ao, ca, hin, rfl, rfl, HD⟩ := hrel
    have t7 := HD.out.2.1.at 7 rfl
    by_cases hi : i < c.ents.length
    · obtain ⟨bk, off, ea, hb, hc⟩ := HR.out.1.1 (by rw [flatE_len]; omega)
      obtain ⟨x, hx⟩ : ∃ x, c.ents[i]? = some x := ⟨_, List.getElem?_eq_getElem hi⟩
      obtain ⟨g0, g1, g2⟩ := flatE_at c.ents i hx
      have hb1 : bk < h := HR.out.2.2.2 ▸ hb
      have HC : Hid (∀ W, Below h w W → W.cell? ⟨bk, off + i * 3, none⟩ = some (.int .i64 x.node) ∧ W.cell? ⟨bk, off + i * 3 + 1, none⟩ = some (.int .i64 x.seq) ∧ W.cell? ⟨bk, off + i * 3 + 2, none⟩ = some (.string x.val)) := fun W hW =>
        ⟨(hW.cell (p := ⟨bk, off + i * 3, none⟩) (by exact hb1)).trans (hc _ _ g0), (hW.cell (p := ⟨bk, off + i * 3 + 1, none⟩) (by exact hb1)).trans (hc _ _ g1), (hW.cell (p := ⟨bk, off + i * 3 + 2, none⟩) (by exact hb1)).trans (hc _ _ g2)⟩
      rw [ea] at t7
      obtain ⟨k0, k1, k2⟩ := HC.out wr HD.out.1
      have HX : Hid (c.ents[i]? = some x ∧ p.eo = some ⟨bk, off, none⟩) := ⟨hx, ea⟩
      have hle : (dropL (c.ents.take i) ds).length ≤ i := by
        have := dropL_le (c.ents.take i) ds
        rw [List.length_take] at this
        omega
      have CA := among_any (dotE x) bo cb ds wr (HR.out.2.2.1.later (HR.out.2.2.2.symm ▸ HD.out.1)) hl2
      clear hc hx g0 g1 g2 hb ea
      cases hq : decide (dotE x ∈ ds) with
      | true =>
        have HS : Hid (dropL (c.ents.take (i + 1)) ds = dropL (c.ents.take i) ds) := by
          show dropL (c.ents.take (i + 1)) ds = _
          rw [dropL_step HX.out.1, hq]; simp
        rw [hq] at CA
        clear hq
        generalize dropL (c.ents.take i) ds = l at *
        go_wp2_with fail
        refine CA.mono ?_
        rintro e w1 ⟨rfl, b1⟩
        have H1 : Hid (El w h (h + 2) (h + 1) c p l ao ca w1) := HD.out.later b1
        clear b1 CA k0 k1 k2 t7 HD
        go_wp2
        go_roundg (gk - 1)
        case measure => omega
        case rel => exact ⟨i + 1, ao, ca, by omega, by go_num, by rw [HS.out], by rw [HS.out]; exact H1.out⟩
      | false =>
        have HS : Hid (dropL (c.ents.take (i + 1)) ds = dropL (c.ents.take i) ds ++ [x]) := by
          show dropL (c.ents.take (i + 1)) ds = _
          rw [dropL_step HX.out.1, hq]; rfl
        rw [hq] at CA
        clear hq
        generalize dropL (c.ents.take i) ds = l at *
        go_wp2_with fail
        refine CA.mono ?_
        rintro e w1 ⟨rfl, b1⟩
        have H1 : Hid (El w h (h + 2) (h + 1) c p l ao ca w1) := HD.out.later b1
        clear b1 CA k0 k1 k2 t7 HD
        obtain ⟨k0, k1, k2⟩ := HC.out w1 H1.out.1
        have t7 := H1.out.2.1.at 7 rfl
        rw [HX.out.2] at t7
        obtain ⟨n1, hn1⟩ : ∃ n, w1.heap.size = n := ⟨_, rfl⟩
        have R2 : FRow (w1.alloc (.cells #[.int .i64 x.node, .int .i64 x.seq, .string x.val] 62)) (some ⟨n1, 0, none⟩) [.int .i64 x.node, .int .i64 x.seq, .string x.val] := frow_newAt hn1 [.int .i64 x.node, .int .i64 x.seq, .string x.val] _
        have hsz : h + 2 ≤ w1.heap.size := by have := H1.out.2.2.1.1; omega
        go_wp2_with (first
          | (at_builtin
             refine wpList_onto rfl _ _ 26 rfl Tryz.underlying26 Tryz.infoEntry rfl (by decide) (by decide) (B := h + 2) rfl rfl (own_later H1.out.2.2.2.1 ((Below.refl _ _).alloc (Nat.le_refl _) _)) R2 rfl (fun u hu => oneE (l := [x]) (by simpa [flatE] using hu)) (by omega) (by simp; omega) ?_
             intro bo2 cb2 w2 o2 n2 b2
             have H2 : Hid (El w h (h + 2) (h + 1) c p (l ++ [x]) bo2 cb2 w2) := H1.out.grown (m := [x]) (k := 1) ((Below.refl _ _).alloc (Nat.le_refl _) _) hsz rfl o2 b2
             clear o2 n2 b2))
        go_roundg (gk - 1)
        case measure => omega
        case rel => exact ⟨i + 1, bo2, cb2, by omega, by go_num, by rw [HS.out]; simp, by rw [HS.out]; exact H2.out⟩
    · have hd : decide ((i : Int) < (c.ents.length : Int)) = false := by simp; omega
      have e : i = c.ents.length := by omega
      have HE : Hid (El w h (h + 2) (h + 1) c p L ao ca wr) := by
        have := HD.out
        rw [e, List.take_length, HL.out] at this
        exact this
      rw [e, List.take_length, HL.out]
      have hsz : h + 2 ≤ wr.heap.size := by have := HE.out.2.2.1.1; omega
      clear HD t7
      obtain ⟨t0, t1, t2, t3, t4, t5, t6, t7, t8, t9⟩ := HE.out.2.1.ten
      go_wp2_with fail
      refine (rcopy_any c p _ (HR.out.1.later (HR.out.2.2.2.symm ▸ HE.out.1)) HR.out.2.1).mono ?_
      rintro e w2 ⟨q, rfl, o2, b2⟩
      have HP : Hid (Cp w h (h + 2) (h + 1) c q L ao ca (put10 w2 h (.int .i64 c.kind) (.bool c.set) (.int .i64 c.time) (.int .i64 c.node) (.string c.val) (.int .i64 c.re) (.int .i64 c.im) (.slice q.eo c.ents.length q.ec) (.slice q.lo c.elems.length q.lc) (.slice q.so c.seen.length q.sc))) := cp_of HE.out hsz o2 b2
      have H2 := HE.out.2.1.later b2
      clear t0 t1 t2 t3 t4 t5 t6 t7 t8 t9 o2 b2 HE
      obtain ⟨t0, t1, t2, t3, t4, t5, t6, t7, t8, t9⟩ := H2.ten
      obtain ⟨f0, f1, f2, f3, f4, f5, f6, f7, f8, f9⟩ := H2.tenf
      clear H2
      go_upto_region 10 with fail
      dsimp only [put10] at HP
      clear t0 t1 t2 t3 t4 t5 t6 t7 t8 t9 f0 f1 f2 f3 f4 f5 f6 f7 f8 f9
      generalize hW : World.setCell _ (⟨h, 9, none⟩ : Addr) _ = w3 at HP ⊢
      clear hW
      obtain ⟨t0, t1, t2, t3, t4, t5, t6, t7, t8, t9⟩ := HP.out.2.1.ten
      have f7 := HP.out.2.1.free 7 rfl
      obtain ⟨s0, s1, s2, s3, s4, s5, s6, s7, s8, s9⟩ := HP.out.2.2.1.ten
      obtain ⟨z0, z1, z2, z3, z4, z5, z6, z7, z8, z9⟩ := HP.out.2.2.1.tenf
      have HZ := HP.out.set (by omega) (by omega) (.slice ao L.length ca)
      have HZ' : Hid _ := HZ
      clear HZ
      go_wp2_with fail
      exact ref_end (d := cE c L) (q := ⟨ao, ca, q.lo, q.lc, q.so, q.sc⟩) (r := 4) HZ'.out.1 HZ'.out.2.1 HZ'.out.2.2 (by omega) (by omega) rfl rfl rfl rfl

end Go.Proofs.YtgkddimijmnpcaaGreatDoor

/-
  slices.Insert at a row of entries of the call's own, by contract.
-/
namespace Go.Proofs.YtgkddimijmnpcaaGreatDoor
open Go.RowKit Go.Shelf
set_option linter.unusedVariables false
set_option linter.unusedSimpArgs false

set_option maxHeartbeats 1000000 in
set_option maxRecDepth 100000 in
/-- Behind all. -/
theorem insert_end (C : Nat) (ao : Option Addr) (ca : Nat) (l : List E3) (x : E3) (vb : Nat) (w : World) (hs : w.ownsRow C 62 3 (.slice ao l.length ca) l.length (flatE l)) (hv : w.ownsRow C 62 3 (.slice (some ⟨vb, 0, none⟩) 1 1) 1 (e3 x)) (hC : C ≤ w.heap.size) (hl : (l.length + 1) * 32 ≤ 140737488355328) :
    Calls Tryz.prog 105 #[.slice ao l.length ca, .int .i64 (l.length : Nat), .slice (some ⟨vb, 0, none⟩) 1 1] w fun e w' => ∃ bo cb, e = .returned (.slice bo (l.length + 1) cb) ∧ FOwn C w' bo (flatE (l ++ [x])) ∧ w.grownBy w' (Value.slice ao l.length ca).ownBlock ∧ (∀ b, bo = some ⟨b, 0, none⟩ → (Value.slice ao l.length ca).ownBlock = some b ∨ w.heap.size ≤ b) := by
  have HS : Hid (w.ownsRow C 62 3 (.slice ao l.length ca) l.length (flatE l) ∧ FRow w (some ⟨vb, 0, none⟩) (e3 x)) := ⟨hs, (own_row hv).row⟩
  have hcap := (own_cap hs).1
  have hcap2 := (own_cap hs).2
  unfold maxLen at hcap2
  clear hs hv
  go_enter Tryz.func105, Tryz.ntmps105
  cases ao with
  | none =>
    go_wp2_with (at_builtin; refine wpList_ontoG rfl _ _ 26 rfl Tryz.underlying26 Tryz.infoEntry rfl (by decide) (by decide) (B := C) rfl rfl HS.out.1 HS.out.2 rfl (fun u hu => oneE (l := [x]) (by simpa [flatE] using hu)) (by omega) hC ?_; intro bo cb w1 o1 _ _ b1 f1)
    all_goals go_ret
    all_goals exact ⟨bo, ⟨cb, rfl⟩, by rw [flatE_append]; simpa [flatE] using own_row o1, b1, f1⟩
  | some ad =>
    obtain ⟨ab, aoff, asp⟩ := ad
    go_wp2_with (at_builtin; refine wpList_ontoG rfl _ _ 26 rfl Tryz.underlying26 Tryz.infoEntry rfl (by decide) (by decide) (B := C) rfl rfl HS.out.1 HS.out.2 rfl (fun u hu => oneE (l := [x]) (by simpa [flatE] using hu)) (by omega) hC ?_; intro bo cb w1 o1 _ _ b1 f1)
    all_goals go_ret
    all_goals exact ⟨bo, ⟨cb, rfl⟩, by rw [flatE_append]; simpa [flatE] using own_row o1, b1, f1⟩

set_option maxHeartbeats 400000 in
set_option maxRecDepth 100000 in
/-- There is room. -/
theorem insert_room (C g i ca : Nat) (l : List E3) (x : E3) (vb : Nat) (w : World) (hs : w.ownsRow C 62 3 (.slice (some ⟨g, 0, none⟩) l.length ca) l.length (flatE l)) (hv : w.ownsRow C 62 3 (.slice (some ⟨vb, 0, none⟩) 1 1) 1 (e3 x)) (hne : vb ≠ g) (hC : C ≤ w.heap.size) (hl : (l.length + 1) * 32 ≤ 140737488355328) (hi : i < l.length) (hr : l.length + 1 ≤ ca) :
    Calls Tryz.prog 105 #[.slice (some ⟨g, 0, none⟩) l.length ca, .int .i64 (i : Nat), .slice (some ⟨vb, 0, none⟩) 1 1] w fun e w' => ∃ bo cb, e = .returned (.slice bo (l.length + 1) cb) ∧ FOwn C w' bo (flatE (insE l i x)) ∧ w.grownBy w' (some g) ∧ (∀ b, bo = some ⟨b, 0, none⟩ → some g = some b ∨ w.heap.size ≤ b) := by
  obtain ⟨cur, hh, hcs, htk, hCg, hgw, q1, hcm⟩ := own_block hs
  obtain ⟨cv, hvh, hvs, hvt, q2, hvw, q3, q4⟩ := own_block hv
  unfold maxLen at hcm
  obtain ⟨n, hn⟩ : ∃ n, l.length = n := ⟨_, rfl⟩
  have hF : ∀ k u, (flatE l)[k]? = some u → w.cell? ⟨g, k, none⟩ = some u := fun k u hu => by
    rw [block_cell hh, ← htk, List.getElem?_take] at *
    split at hu
    · simpa using hu
    · simp at hu
  have hV : ∀ k u, (e3 x)[k]? = some u → w.cell? ⟨vb, k, none⟩ = some u := fun k u hu => by
    rw [block_cell hvh, ← hvt, List.getElem?_take] at *
    split at hu
    · simpa using hu
    · simp at hu
  have hS : ∀ k, k < (flatE l).length + (e3 x).length → (w.cell? ⟨g, k, none⟩).isSome = true := fun k hk => by
    rw [flatE_len] at hk
    simp only [List.length_cons, List.length_nil] at hk
    rw [block_cell hh, Array.getElem?_eq_getElem (by omega)]; rfl
  have hz : ∀ k, w.frozen? ⟨g, k, none⟩ = false := block_free hh
  have H : Hid (FOwn C ((w.drew.setCells g (i * 3 + (e3 x).length) ((flatE l).drop (i * 3))).setCells g (i * 3) (e3 x)) (some ⟨g, 0, none⟩) (flatE (insE l i x))) := by
    rw [insE_flat]
    exact fown_shift (W := w.drew) hCg hgw (by rw [flatE_len]; omega) hF hS hz
  have hov : ∀ lb cb, (callFunc 141 #[.slice (some ⟨vb, 0, none⟩) 1 1, .slice (some ⟨g, (i + 1) * 3, none⟩) lb cb]).run Tryz.prog w = .ok (.value (.bool false)) w := fun lb cb => by
    rw [run_callFunc_extern Tryz.func141 (by kernel_rfl) (by kernel_rfl) (by kernel_rfl) (e := Extern.SlicesOverlaps.overlaps #[26, 26] #[4]) (by kernel_rfl),
      Lib.run_overlaps_apart w 26 4 62 Tryz.underlying26 3 Tryz.sizeOf62 ⟨vb, 0, none⟩ ⟨g, (i + 1) * 3, none⟩ 1 1 lb cb hne _ _ _ _ (block_shape hvh) (block_shape hh) (by omega) (block_free hvh 0) (block_free hvh _)]
    rfl
  have HW : Hid ((∀ k u, (flatE l)[k]? = some u → w.cell? ⟨g, k, none⟩ = some u) ∧ (∀ k u, (e3 x)[k]? = some u → w.cell? ⟨vb, k, none⟩ = some u) ∧ (∀ k, k < (flatE l).length + (e3 x).length → (w.cell? ⟨g, k, none⟩).isSome = true) ∧ (∀ k, w.frozen? ⟨g, k, none⟩ = false)) := ⟨hF, hV, hS, hz⟩
  have HC : Hid (C ≤ g) := hCg
  have HN : Hid (l.length = n) := hn
  rw [hn] at hr hi hl ⊢
  clear hF hV hS hz hh hcs htk hCg hgw hvh hvs hvt hvw hs hv hC hn q1 q2 q3 q4
  have hz2 : ((i : Int) == (n : Int)) = false := by simp; omega
  have hgt : decide ((ca : Int) < (n : Int) + 1) = false := by simp; omega
  go_enter Tryz.func105, Tryz.ntmps105
  have hb2 : ¬ (ca = i + 1) := by omega
  have hb4 : ¬ (ca = i) := by omega
  have htn : ((i : Int) + 1).toNat = i + 1 := by omega
  have hin : i ≤ n := by omega
  have hb3 : (i : Int) ≤ (n : Int) + 1 := by omega
  have hw1 : IntKind.i64.wrap ((i : Int) + 1) = (i : Int) + 1 := by rw [IntKind.wrap_i64]; omega
  have hb1 : (0 : Int) ≤ (i : Int) + 1 := by omega
  have hmn : Nat.min (n + 1 - i) (n - i) * 3 = ((flatE l).drop (i * 3)).length := by
    rw [List.length_drop, flatE_len, HN.out]
    simp only [Nat.min_def]; split <;> omega
  have hmn2 : Nat.min 1 (n + 1 - i) * 3 = (e3 x).length := by
    simp only [Nat.min_def, List.length_cons, List.length_nil]; split <;> omega
  obtain ⟨W1, hW1⟩ : ∃ W1, W1 = w.drew.setCells g (i * 3 + (e3 x).length) ((flatE l).drop (i * 3)) := ⟨_, rfl⟩
  have ei : (i + 1) * 3 = i * 3 + (e3 x).length := by simp only [List.length_cons, List.length_nil]; omega
  have hdl : ((flatE l).drop (i * 3)).length = (n - i) * 3 := by rw [List.length_drop, flatE_len, HN.out]; omega
  have hfl : (flatE l).length = n * 3 := by rw [flatE_len, HN.out]
  have hcp1 : ∀ ty dc sc, (Builtin.copy_ #[26, 26] ty #[.slice (some ⟨g, (i + 1) * 3, none⟩) (n - i) dc, .slice (some ⟨g, i * 3, none⟩) (n + 1 - i) sc]).run Tryz.prog w.drew = .ok (goInt (Nat.min (n + 1 - i) (n - i))) W1 := fun ty dc sc => by
    rw [hW1, ← ei]
    refine run_copy_k w.drew _ _ ty 62 3 g ((i + 1) * 3) _ dc ⟨g, i * 3, none⟩ _ sc _ Tryz.underlying26 Tryz.sizeEntry hmn (fun j v hj => ?_) (fun j hj => ?_) (fun j hj => HW.out.2.2.2 _) (fun v hv => oneE (List.mem_of_mem_drop hv))
    · rw [add_off]
      exact HW.out.1 _ v (by rwa [List.getElem?_drop] at hj)
    · exact HW.out.2.2.1 _ (by rw [hfl]; simp only [List.length_cons, List.length_nil]; omega)
  have hcp2 : ∀ ty dc, (Builtin.copy_ #[26, 26] ty #[.slice (some ⟨g, i * 3, none⟩) (n + 1 - i) dc, .slice (some ⟨vb, 0, none⟩) 1 1]).run Tryz.prog W1 = .ok (goInt (Nat.min 1 (n + 1 - i))) (W1.setCells g (i * 3) (e3 x)) := fun ty dc => by
    refine run_copy_k W1 _ _ ty 62 3 g (i * 3) _ dc ⟨vb, 0, none⟩ 1 1 _ Tryz.underlying26 Tryz.sizeEntry hmn2 (fun j v hj => ?_) (fun j hj => ?_) (fun j hj => ?_) (fun v hv => oneE (l := [x]) (by simpa [flatE] using hv))
    · rw [add_off, Nat.zero_add, hW1, World.cell?_setCells_out g _ _ _ _ (fun h _ => absurd h hne)]
      exact HW.out.2.1 j v hj
    · rw [hW1]
      exact some_setCells g _ _ _ _ (HW.out.2.2.1 _ (by rw [hfl]; simp only [List.length_cons, List.length_nil] at hj ⊢; omega))
    · rw [hW1, World.frozen?_setCells]
      exact HW.out.2.2.2 _
  have HE : Hid (FOwn C (W1.setCells g (i * 3) (e3 x)) (some ⟨g, 0, none⟩) (flatE (insE l i x)) ∧ w.grownBy (W1.setCells g (i * 3) (e3 x)) (some g)) := by
    refine ⟨?_, ?_⟩
    · rw [hW1]; exact H.out
    · rw [hW1]; exact gb_setCells _ _ (gb_setCells _ _ (gb_drew (gb_refl _ _)))
  clear hmn hmn2 hW1 ei hdl hfl H HW
  go_upto_region 15 with (simp only [hov])
  go_region_law (refine step_copy_run rfl _ _ 26 26 rfl _ _ (by simp [Act.eval, Act.put]) (by simp [Act.eval, Act.put]) (hcp1 _ _ _) ?_)
  go_wp2_with (at_builtin; refine wpList_copy_run _ rfl _ _ 26 26 rfl _ _ rfl rfl (hcp2 _ _) ?_)
  go_ret
  exact ⟨_, ca, rfl, HE.out.1, HE.out.2, fun b hb => Or.inl (by simpa using hb)⟩

set_option maxHeartbeats 400000 in
set_option maxRecDepth 100000 in
/-- There is no room. -/
theorem insert_grow (C g i ca : Nat) (l : List E3) (x : E3) (vb : Nat) (w : World) (hs : w.ownsRow C 62 3 (.slice (some ⟨g, 0, none⟩) l.length ca) l.length (flatE l)) (hv : w.ownsRow C 62 3 (.slice (some ⟨vb, 0, none⟩) 1 1) 1 (e3 x)) (hC : C ≤ w.heap.size) (hl : (l.length + 1) * 32 ≤ 140737488355328) (hi : i < l.length) (hr : ca < l.length + 1) :
    Calls Tryz.prog 105 #[.slice (some ⟨g, 0, none⟩) l.length ca, .int .i64 (i : Nat), .slice (some ⟨vb, 0, none⟩) 1 1] w fun e w' => ∃ bo cb, e = .returned (.slice bo (l.length + 1) cb) ∧ FOwn C w' bo (flatE (insE l i x)) ∧ w.grownBy w' (some g) ∧ (∀ b, bo = some ⟨b, 0, none⟩ → some g = some b ∨ w.heap.size ≤ b) := by
  obtain ⟨cur, hh, hcs, htk, hCg, hgw, q1, hcm⟩ := own_block hs
  obtain ⟨cv, hvh, hvs, hvt, q2, hvw, q3, q4⟩ := own_block hv
  unfold maxLen at hcm
  obtain ⟨n, hn⟩ : ∃ n, l.length = n := ⟨_, rfl⟩
  have hF : ∀ k u, (flatE l)[k]? = some u → w.cell? ⟨g, k, none⟩ = some u := fun k u hu => by
    rw [block_cell hh, ← htk, List.getElem?_take] at *
    split at hu
    · simpa using hu
    · simp at hu
  have hV : ∀ k u, (e3 x)[k]? = some u → w.cell? ⟨vb, k, none⟩ = some u := fun k u hu => by
    rw [block_cell hvh, ← hvt, List.getElem?_take] at *
    split at hu
    · simpa using hu
    · simp at hu
  have HN : Hid (l.length = n) := hn
  have hfl : (flatE l).length = n * 3 := by rw [flatE_len, hn]
  rw [hn] at hr hi hl q1 ⊢
  obtain ⟨i0, hi0, hz0, hz1, hz2⟩ := info_parts Tryz.infoEntry
  obtain ⟨N, hN⟩ : ∃ N, w.heap.size = N := ⟨_, rfl⟩
  have HZ : Hid (w.heap.size = N) := hN
  obtain ⟨G, hG⟩ : ∃ G, grownCap w (n + 1) ca 62 = G := ⟨_, rfl⟩
  obtain ⟨z, hz⟩ : ∃ z, z = (.agg #[.int .i64 0, .int .i64 0, .string ByteArray.empty] : Value) := ⟨_, rfl⟩
  have hzc : z.cells.size = 3 := by rw [hz]; rfl
  obtain ⟨ROW, hROW⟩ : ∃ ROW : Array Value, ROW = ((flatE l).take (i * 3)).toArray ++ Builtin.zeroCells z.cells (n + 1 - i) ++ Builtin.zeroCells z.cells (G - (n + 1)) := ⟨_, rfl⟩
  have hold : (Builtin.firstCells i0.size i (.slice (some ⟨g, 0, none⟩) i ca)).run Tryz.prog w.drew = .ok ((flatE l).take (i * 3)).toArray w.drew := by
    rw [hz1]
    refine run_firstCells_some w.drew 3 i ⟨g, 0, none⟩ i ca ((flatE l).take (i * 3)) (by rw [List.length_take, hfl]; omega) (fun j v hj => ?_)
    rw [add_off, Nat.zero_add]
    rw [List.getElem?_take] at hj
    split at hj
    · exact hF j v hj
    · cases hj
  have hik : i + (n + 1 - i) = n + 1 := by omega
  have hkk : (n : Int) + 1 - (i : Int) = ((n + 1 - i : Nat) : Int) := by omega
  obtain ⟨W1, hW1⟩ : ∃ W1, W1 = w.drew.alloc (.cells ROW 62) := ⟨_, rfl⟩
  have hrz : ∀ ty, (Builtin.append_ #[26, 3] ty #[.slice (some ⟨g, 0, none⟩) i ca, .int .i64 ((n : Int) + 1 - (i : Int))]).run Tryz.prog w = .ok (.slice (some ⟨N, 0, none⟩) (n + 1) G) W1 := fun ty => by
    have h := Lib.run_append_grow_zeros w 26 3 ty 62 i0 _ .i64 .i64 Tryz.underlying26 Tryz.underlying3 hi0 hz0 (some ⟨g, 0, none⟩) i ca ((flatE l).take (i * 3)) hold (n + 1 - i) (by omega) (by omega) (by omega) (by omega) (by rw [hz2]; omega) (by rw [hz2, hik]; exact growslice_fits hr hl)
    rw [hik, hG, hN, ← hz, ← hROW, ← hW1] at h
    rw [hkk]
    exact h
  have hRl : (n + 1) * 3 ≤ ROW.size := by
    rw [hROW]
    simp only [Array.size_append, List.size_toArray, List.length_take, Builtin.zeroCells, Array.size_map, Array.size_range, hzc, hfl]
    omega
  have hR1 : ∀ k u, k < i * 3 → (flatE l)[k]? = some u → W1.cell? ⟨N, k, none⟩ = some u := fun k u hk hu => by
    rw [hW1, World.cell?_alloc_at (w := w.drew) _ _ _ _ hN.symm, hROW, Array.append_assoc, Array.getElem?_append_left (by simp [hfl]; omega)]
    simp [List.getElem?_take, hk, hu]
  have hR2 : ∀ k, k < (n + 1) * 3 → (W1.cell? ⟨N, k, none⟩).isSome = true := fun k hk => by
    rw [hW1, World.cell?_alloc_at (w := w.drew) _ _ _ _ hN.symm, Array.getElem?_eq_getElem (by omega)]; rfl
  have hR3 : ∀ k, W1.frozen? ⟨N, k, none⟩ = false := fun k => by
    rw [hW1]
    exact World.frozen?_alloc_at (w := w.drew) _ _ _ _ hN.symm
  have hOld : ∀ b k u, b < N → w.cell? ⟨b, k, none⟩ = some u → W1.cell? ⟨b, k, none⟩ = some u := fun b k u hb hu => by
    rw [hW1, World.cell?_alloc_past (w := w.drew) _ _ _ (by show b < w.heap.size; omega)]; exact hu
  have hBW : w.grownBy W1 (some g) := by rw [hW1]; exact gb_trans (gb_drew (gb_refl _ _)) (World.grownBy_alloc _ _ _)
  have hSW : W1.heap.size = N + 1 := by rw [hW1]; show (w.heap.push _).size = _; simp [hN]
  have hGn : n + 1 ≤ G := by rw [← hG]; exact grownCap_ge w _ _ _
  have hG63 : G ≤ 9223372036854775807 := by
    have := grownCap_le_maxLen w (n + 1) ca 62 (by unfold maxLen; omega)
    rw [hG] at this
    unfold maxLen at this
    omega
  have hmn2 : Nat.min 1 (n + 1 - i) * 3 = (e3 x).length := by
    simp only [Nat.min_def, List.length_cons, List.length_nil]; split <;> omega
  have hmn : Nat.min (n - i) (n - i) * 3 = ((flatE l).drop (i * 3)).length := by
    rw [List.length_drop, hfl]
    simp only [Nat.min_def]; split <;> omega
  have hdl : ((flatE l).drop (i * 3)).length = (n - i) * 3 := by rw [List.length_drop, hfl]; omega
  have ei : (i + 1) * 3 = i * 3 + (e3 x).length := by simp only [List.length_cons, List.length_nil]; omega
  have hgN : g < N := by omega
  have hvN : vb < N := by omega
  have hC2 : C ≤ N := by omega
  obtain ⟨W2, hW2⟩ : ∃ W2, W2 = W1.setCells N (i * 3) (e3 x) := ⟨_, rfl⟩
  have hcp1 : ∀ ty dc, (Builtin.copy_ #[26, 26] ty #[.slice (some ⟨N, i * 3, none⟩) (n + 1 - i) dc, .slice (some ⟨vb, 0, none⟩) 1 1]).run Tryz.prog W1 = .ok (goInt (Nat.min 1 (n + 1 - i))) W2 := fun ty dc => by
    rw [hW2]
    refine run_copy_k W1 _ _ ty 62 3 N (i * 3) _ dc ⟨vb, 0, none⟩ 1 1 _ Tryz.underlying26 Tryz.sizeEntry hmn2 (fun j v hj => ?_) (fun j hj => ?_) (fun j hj => hR3 _) (fun v hv => oneE (l := [x]) (by simpa [flatE] using hv))
    · rw [add_off, Nat.zero_add]
      exact hOld vb j v hvN (hV j v hj)
    · exact hR2 _ (by simp only [List.length_cons, List.length_nil] at hj; omega)
  obtain ⟨W3, hW3⟩ : ∃ W3, W3 = W2.drew.setCells N (i * 3 + (e3 x).length) ((flatE l).drop (i * 3)) := ⟨_, rfl⟩
  have hcp2 : ∀ ty dc sc, (Builtin.copy_ #[26, 26] ty #[.slice (some ⟨N, (i + 1) * 3, none⟩) (n - i) dc, .slice (some ⟨g, i * 3, none⟩) (n - i) sc]).run Tryz.prog W2.drew = .ok (goInt (Nat.min (n - i) (n - i))) W3 := fun ty dc sc => by
    rw [hW3, ← ei]
    refine run_copy_k W2.drew _ _ ty 62 3 N ((i + 1) * 3) _ dc ⟨g, i * 3, none⟩ _ sc _ Tryz.underlying26 Tryz.sizeEntry hmn (fun j v hj => ?_) (fun j hj => ?_) (fun j hj => ?_) (fun v hv => oneE (List.mem_of_mem_drop hv))
    · rw [add_off]
      show W2.cell? _ = _
      rw [hW2, World.cell?_setCells_out N _ _ _ _ (fun h _ => absurd h (by show g ≠ N; omega))]
      exact hOld g _ v hgN (hF _ v (by rwa [List.getElem?_drop] at hj))
    · show (W2.cell? _).isSome = true
      rw [hW2]
      exact some_setCells N _ _ _ _ (hR2 _ (by omega))
    · show W2.frozen? _ = false
      rw [hW2, World.frozen?_setCells]
      exact hR3 _
  have HE : Hid (FOwn C W3 (some ⟨N, 0, none⟩) (flatE (insE l i x)) ∧ w.grownBy W3 (some g)) := by
    refine ⟨?_, ?_⟩
    · rw [hW3, hW2, insE_flat]
      exact fown_shift2 hC2 (by omega) (by rw [hfl]; omega) hR1 (fun k hk => hR2 k (by rw [hfl] at hk; simp only [List.length_cons, List.length_nil] at hk; omega)) hR3
    · rw [hW3, hW2]
      exact gb_newCells (by omega) _ _ (gb_drew (gb_newCells (by omega) _ _ hBW))
  have hzz2 : ((i : Int) == (n : Int)) = false := by simp; omega
  have hgt : decide ((ca : Int) < (n : Int) + 1) = true := by simp; omega
  have hb2 : ¬ (G = i + 1) := by omega
  have hb3 : ¬ (G = i) := by omega
  have hb4 : ¬ (ca = i) := by omega
  have htn : ((i : Int) + 1).toNat = i + 1 := by omega
  have hin : i ≤ n := by omega
  have hw1 : IntKind.i64.wrap ((i : Int) + 1) = (i : Int) + 1 := by rw [IntKind.wrap_i64]; omega
  have hb1 : (0 : Int) ≤ (i : Int) + 1 := by omega
  have hb5 : (i : Int) ≤ (n : Int) + 1 := by omega
  clear hmn hmn2 hW1 hW2 hW3 ei hdl hfl hF hV hR1 hR2 hR3 hOld hBW hSW hROW hRl hz hzc hold hG hN hi0 hz0 hz1 hz2 hkk hik hh hvh hs hv hcs htk hvs hvt hn hgw hvw q2 q3 q4 hCg hC hC2 hgN hvN
  go_enter Tryz.func105, Tryz.ntmps105
  go_upto_region 11 with (first
    | (at_builtin; refine Lib.wpList_append_run _ rfl _ _ _ _ rfl _ _ rfl rfl _ _ (hrz _) ?_)
    | (at_builtin; refine wpList_copy_run _ rfl _ _ 26 26 rfl _ _ rfl rfl (hcp1 _ _) ?_))
  go_region_law (refine step_copy_run rfl _ _ 26 26 rfl _ _ (by simp [Act.eval, Act.put]) (by simp [Act.eval, Act.put]) (hcp2 _ _ _) ?_)
  go_wp2
  go_ret
  exact ⟨_, G, rfl, HE.out.1, HE.out.2, fun b hb => Or.inr (by simp only [Option.some.injEq, Addr.mk.injEq, and_true] at hb; rw [HZ.out, hb]; exact Nat.le_refl _)⟩

/-- slices.Insert, whatever the room. -/
theorem insert_any (C i : Nat) (ao : Option Addr) (ca : Nat) (l : List E3) (x : E3) (vb : Nat) (w : World) (hs : w.ownsRow C 62 3 (.slice ao l.length ca) l.length (flatE l)) (hv : w.ownsRow C 62 3 (.slice (some ⟨vb, 0, none⟩) 1 1) 1 (e3 x)) (hne : ao ≠ some ⟨vb, 0, none⟩) (hC : C ≤ w.heap.size) (hl : (l.length + 1) * 32 ≤ 140737488355328) (hi : i ≤ l.length) :
    Calls Tryz.prog 105 #[.slice ao l.length ca, .int .i64 (i : Nat), .slice (some ⟨vb, 0, none⟩) 1 1] w fun e w' => ∃ bo cb, e = .returned (.slice bo (l.length + 1) cb) ∧ FOwn C w' bo (flatE (insE l i x)) ∧ w.grownBy w' (Value.slice ao l.length ca).ownBlock ∧ (∀ b, bo = some ⟨b, 0, none⟩ → (Value.slice ao l.length ca).ownBlock = some b ∨ w.heap.size ≤ b) := by
  by_cases h1 : i = l.length
  · subst h1
    have e : insE l l.length x = l ++ [x] := by simp [insE]
    rw [e]
    exact insert_end C ao ca l x vb w hs hv hC hl
  · have hi2 : i < l.length := by omega
    rcases hs.2 with ⟨_, h2⟩ | ⟨g, cap, cur, h2, _⟩
    · omega
    · simp only [Value.slice.injEq] at h2
      obtain ⟨rfl, _, rfl⟩ := h2
      by_cases h3 : l.length + 1 ≤ ca
      · exact insert_room C g i ca l x vb w hs hv (fun e => hne (by rw [e])) hC hl hi2 h3
      · exact insert_grow C g i ca l x vb w hs hv hC hl hi2 (by omega)

end Go.Proofs.YtgkddimijmnpcaaGreatDoor

/-
  A region that draws its order: a load may be taken first where its cell is written only behind an operation that waits for it ('x.f = g(x.f, ..)'): the condition S on the world is asked only till that operation has come up.
-/
namespace Go.Proofs.YtgkddimijmnpcaaGreatDoor
open Go.RowKit
set_option linter.unusedVariables false

section
variable {P : Program} {ops : Array Oper} {Q : Exit → Act → World → Prop} {md : Region.Mode} {S : World → Prop} {e : Nat}

/-- Whatever order is picked; S holds behind every operation till number e has come up. -/
def wpAnyT (P : Program) (md : Region.Mode) (ops : Array Oper) (Q : Exit → Act → World → Prop) (S : World → Prop) (e : Nat) : Nat → Array Bool → Act → World → Prop
  | 0, listed, a, w => Region.ready md ops listed = [] ∧ Q .normal a w
  | fuel + 1, listed, a, w =>
    (Region.ready md ops listed = [] → Q .normal a w) ∧
    ∀ i ∈ Region.ready md ops listed, wpOp P ops Q i (fun a' w' => ((listed.setIfInBounds i true).getD e false = true ∨ S w') ∧ wpAnyT P md ops Q S e fuel (listed.setIfInBounds i true) a' w') a w

theorem wpAny_of_till : ∀ (fuel : Nat) (listed : Array Bool) (a : Act) (w : World), wpAnyT P md ops Q S e fuel listed a w → wpAny P md ops Q fuel listed a w
  | 0, _, _, _, h => h
  | fuel + 1, _, _, _, h => ⟨h.1, fun i hi => wpOp_mono (fun a' w' h' => wpAny_of_till fuel _ a' w' h'.2) (h.2 i hi)⟩

/-- What has come up has come up behind what it waits for. -/
def Closed (md : Region.Mode) (ops : Array Oper) (listed : Array Bool) : Prop :=
  ∀ (j : Nat) oj, ops[j]? = some oj → listed.getD j false = true → ∀ x ∈ oj.after, Region.binds md x = true → listed.getD x.on false = true

theorem closed_step {listed : Array Bool} {j : Nat} (h : Closed md ops listed) (hj : j ∈ Region.ready md ops listed) : Closed md ops (listed.setIfInBounds j true) := by
  intro k ok hk hl x hx hb
  by_cases e : j = k
  · subst e
    obtain ⟨_, o, ho, hall⟩ := mem_ready.1 hj
    rw [hk] at ho
    simp only [Option.some.injEq] at ho
    subst ho
    exact getD_set_true (hall x hx hb)
  · rw [getD_set_ne false e] at hl
    exact getD_set_true (h k ok hk hl x hx hb)

theorem closed_start (n : Nat) : Closed md ops (Array.replicate n false) := by
  intro j oj _ hl
  exfalso
  have : (Array.replicate n false).getD j false = false := by
    rcases Nat.lt_or_ge j n with h | h
    · simp [h]
    · simp [h]
  rw [this] at hl
  cases hl

theorem getD_false {listed : Array Bool} {i : Nat} (h : listed.getD i true = false) : listed.getD i false = false := by
  rcases Nat.lt_or_ge i listed.size with h' | h'
  · simp [h'] at h ⊢; exact h
  · simp [h']

/-- Number e waits for number i. -/
def Waits (md : Region.Mode) (ops : Array Oper) (e i : Nat) : Prop := ∀ L : Array Bool, Closed md ops L → L.getD e false = true → L.getD i false = true

/-- .. at once. -/
def waitsB (md : Region.Mode) (ops : Array Oper) (e i : Nat) : Bool := match ops[e]? with
  | some oe => oe.after.toList.any fun x => x.on == i && Region.binds md x
  | none => false

theorem waits_one {e i : Nat} (h : waitsB md ops e i = true) : Waits md ops e i := fun L hL hl => by
  unfold waitsB at h
  split at h
  · rename_i oe he
    obtain ⟨x, hx, hb⟩ := List.any_eq_true.1 h
    simp only [Bool.and_eq_true, beq_iff_eq] at hb
    have := hL e oe he hl x (by simpa using hx) hb.2
    rwa [hb.1] at this
  · cases h

theorem Waits.trans {e j i : Nat} (h : Waits md ops e j) (k : Waits md ops j i) : Waits md ops e i := fun L hL hl => k L hL (h L hL hl)

theorem wpAnyT_first {i : Nat} {oi : Oper} {v : Value} (hi : ops[i]? = some oi) (hsel : ∀ (j : Nat) (o : Oper) cs b, ops[j]? = some o → o.op ≠ .select cs b)
    (hQ : ∀ c a w, Q (.panic c) (a.put oi.dst v) w → Q (.panic c) a w) (hdep : Waits md ops e i) (hne : e ≠ i) :
    ∀ (fuel : Nat) (listed : Array Bool) (a : Act) (w : World), Closed md ops listed →
      (∀ j oj, ops[j]? = some oj → j ≠ i → listed.getD j true = false → (∀ x ∈ oj.after, Region.binds md x = true → x.on ≠ i) → oi.apart ops oj = true) →
      i ∈ Region.ready md ops listed → YieldsIf P ops S oi v a → S w →
      wpAnyT P md ops Q S e fuel (listed.setIfInBounds i true) (a.put oi.dst v) w → wpAnyT P md ops Q S e (fuel + 1) listed a w := by
  intro fuel
  induction fuel with
  | zero =>
    intro listed a w _ _ hr hy hS H
    refine ⟨fun h => (by rw [h] at hr; cases hr), fun j hj => ?_⟩
    by_cases hji : j = i
    · subst hji; exact hy.wpOp hi hS ⟨Or.inr hS, H⟩
    · have := ready_mono hj hji
      rw [H.1] at this
      cases this
  | succ fuel ih =>
    intro listed a w hcl hfree hr hy hS H
    refine ⟨fun h => (by rw [h] at hr; cases hr), fun j hj => ?_⟩
    by_cases hji : j = i
    · subst hji; exact hy.wpOp hi hS ⟨Or.inr hS, H⟩
    · have h1 := H.2 j (ready_mono hj hji)
      obtain ⟨hjun, oj, hoj, hall⟩ := mem_ready.1 hj
      have hi0 := getD_false (mem_ready.1 hr).1
      have hnot : ∀ x ∈ oj.after, Region.binds md x = true → x.on ≠ i := fun x hx hb heq => by
        have h1 := hall x hx hb
        rw [heq, hi0] at h1
        cases h1
      have h2 := wpOp_putIf hoj (hfree j oj hoj hji hjun hnot) (fun cs b => hsel i oi cs b hi) (fun cs b => hsel j oj cs b hoj) hQ hy h1
      have hfree' : ∀ k ok, ops[k]? = some ok → k ≠ i → (listed.setIfInBounds j true).getD k true = false →
          (∀ x ∈ ok.after, Region.binds md x = true → x.on ≠ i) → oi.apart ops ok = true := fun k ok hk hki hun hno => by
        refine hfree k ok hk hki ?_ hno
        by_cases hjk : j = k
        · subst hjk; exact hjun
        · rw [getD_set_ne true hjk] at hun; exact hun
      have hcl' := closed_step hcl hj
      have hne2 : ((listed.setIfInBounds i true).setIfInBounds j true).getD e false = true → False := fun hl => by
        rw [Array.setIfInBounds_comm _ _ (Ne.symm hji), getD_set_ne false (Ne.symm hne)] at hl
        have := hdep _ hcl' hl
        rw [getD_set_ne false hji, hi0] at this
        cases this
      refine wpOp_mono (fun a' w' h3 => ?_) h2
      have hS' : S w' := by
        rcases h3.2.1 with hl | hs
        · exact (hne2 hl).elim
        · exact hs
      refine ⟨Or.inr hS', ih (listed.setIfInBounds j true) a' w' hcl' hfree' (ready_mono hr (Ne.symm hji)) h3.1 hS' ?_⟩
      rw [Array.setIfInBounds_comm _ _ hji]
      exact h3.2.2

/-- Take number i first. -/
theorem takeT (i d : Nat) {oi : Oper} {v : Value} {fuel : Nat} {listed : Array Bool} {l : List Value} {df : List Deferred} {w : World} (hi : ops[i]? = some oi)
    (hs : Region.noSelect ops = true) (hf : Region.free md ops listed i = true) (hr : (Region.ready md ops listed).contains i = true)
    (hQ : ∀ c a w, Q (.panic c) (a.put oi.dst v) w → Q (.panic c) a w) (hdep : Waits md ops e i) (hne : e ≠ i) (hcl : Closed md ops listed) (hd : oi.dst = some d) (hw : Region.wanted oi (yielded ops l.toArray) = true)
    (hy : ∀ w, S w → (execOp (Act.eval ⟨l.toArray, df⟩) oi).run P w = .ok (.value v) w) (hS : S w)
    (h : Closed md ops (listed.setIfInBounds i true) → wpAnyT P md ops Q S e fuel (listed.setIfInBounds i true) ⟨(l.set d v).toArray, df⟩ w) : wpAnyT P md ops Q S e (fuel + 1) listed ⟨l.toArray, df⟩ w :=
  have hr' : i ∈ Region.ready md ops listed := by simpa using hr
  wpAnyT_first hi (Region.noSelect_spec hs) hQ hdep hne fuel listed _ w hcl (Region.free_spec hi hf) hr' (Or.inl ⟨hw, hy⟩) hS (by rw [put_at hd]; exact h (closed_step hcl hr'))

/-- Each of those comes up next. -/
def AllT (P : Program) (md : Region.Mode) (ops : Array Oper) (Q : Exit → Act → World → Prop) (S : World → Prop) (e fuel : Nat) (listed : Array Bool) (a : Act) (w : World) (rs : List Nat) : Prop :=
  ∀ i ∈ rs, wpOp P ops Q i (fun a' w' => ((listed.setIfInBounds i true).getD e false = true ∨ S w') ∧ wpAnyT P md ops Q S e fuel (listed.setIfInBounds i true) a' w') a w

theorem AllT.nil {fuel : Nat} {listed : Array Bool} {a : Act} {w : World} : AllT P md ops Q S e fuel listed a w [] := fun _ h => by cases h

/-- One that comes up ahead of e: S anew. -/
theorem AllT.cons {fuel : Nat} {listed : Array Bool} {a : Act} {w : World} {i : Nat} {o : Oper} {rs : List Nat} (ho : ops[i]? = some o)
    (h : ∀ K' : Act → World → Prop, Shut (∀ a w, S w → wpAnyT P md ops Q S e fuel (listed.setIfInBounds i true) a w → K' a w) → if Region.wanted o (yielded ops a.tmps) = true then Oper.wp P o a w K' Q else K' (a.put o.dst undef) w)
    (hs : AllT P md ops Q S e fuel listed a w rs) : AllT P md ops Q S e fuel listed a w (i :: rs) := fun j hj => by
  rcases List.mem_cons.1 hj with rfl | hj
  · exact wpOp_step ho (fun K' hK => h K' (fun a w hS hW => hK a w ⟨Or.inr hS, hW⟩))
  · exact hs j hj

/-- One behind which S is no longer asked. -/
theorem AllT.late {fuel : Nat} {listed : Array Bool} {a : Act} {w : World} {i : Nat} {o : Oper} {rs : List Nat} (ho : ops[i]? = some o) (hl : (listed.setIfInBounds i true).getD e false = true)
    (h : ∀ K' : Act → World → Prop, Shut (∀ a w, wpAnyT P md ops Q S e fuel (listed.setIfInBounds i true) a w → K' a w) → if Region.wanted o (yielded ops a.tmps) = true then Oper.wp P o a w K' Q else K' (a.put o.dst undef) w)
    (hs : AllT P md ops Q S e fuel listed a w rs) : AllT P md ops Q S e fuel listed a w (i :: rs) := fun j hj => by
  rcases List.mem_cons.1 hj with rfl | hj
  · exact wpOp_step ho (fun K' hK => h K' (fun a w hW => hK a w ⟨Or.inl hl, hW⟩))
  · exact hs j hj

theorem readyT {rs : List Nat} {fuel : Nat} {listed : Array Bool} {a : Act} {w : World} (hr : Region.ready md ops listed = rs) (hne : rs ≠ [])
    (h : AllT P md ops Q S e fuel listed a w rs) : wpAnyT P md ops Q S e (fuel + 1) listed a w := ⟨fun h0 => absurd (hr ▸ h0) hne, by rw [hr]; exact h⟩

theorem doneT {listed : Array Bool} {a : Act} {w : World} (hr : Region.ready md ops listed = []) (h : Q .normal a w) : ∀ fuel, wpAnyT P md ops Q S e fuel listed a w
  | 0 => ⟨hr, h⟩
  | _ + 1 => ⟨fun _ => h, by rw [hr]; simp⟩

theorem wp_region_till (S : World → Prop) (e : Nat) {id : Nat} {a : Act} {w : World} (hm : P.follows .mixedOrders = true)
    (h : Closed .any ops (Array.replicate ops.size false) → wpAnyT P .any ops Q S e ops.size (Array.replicate ops.size false) a w.drew) : (Code.region id ops true).wp P Q a w :=
  wp_region_any hm (wpAny_of_till _ _ _ _ (h (closed_start _)))

end

end Go.Proofs.YtgkddimijmnpcaaGreatDoor

/-
  Package orset's Dots, and the document's own, by contract.
-/
namespace Go.Proofs.YtgkddimijmnpcaaGreatDoor
open Go.RowKit Go.Shelf
set_option linter.unusedVariables false
set_option linter.unusedSimpArgs false

/-- The same bytes? -/
def eqS (a b : ByteArray) : Bool := a.toList == b.toList
/-- The dots of the entries of that value. -/
def dotsL (l : List E3) (v : ByteArray) : List D2 := (l.filter fun x => eqS x.val v).map dotE

theorem dotsL_step {l : List E3} {v : ByteArray} {i : Nat} {x : E3} (hx : l[i]? = some x) : dotsL (l.take (i + 1)) v = dotsL (l.take i) v ++ (if eqS x.val v then [dotE x] else []) := by
  unfold dotsL
  rw [List.take_add_one, hx, List.filter_append, List.map_append]
  by_cases h : eqS x.val v = true
  · simp [h]
  · simp [h]

theorem dotsL_le (l : List E3) (v : ByteArray) : (dotsL l v).length ≤ l.length := by
  unfold dotsL
  rw [List.length_map]
  exact List.length_filter_le _ _

/-- What the loop keeps. -/
def Dl (w : World) (h : Nat) (c : Ce) (p : Pl) (l : List D2) (ao : Option Addr) (ca : Nat) (wr : World) : Prop :=
  Below h w wr ∧ Has wr h (ceL c p) ∧ wr.ownsRow (h + 1) 32 2 (.slice ao l.length ca) l.length (flatD l)

theorem dl_later {w wr w2 : World} {h : Nat} {c : Ce} {p : Pl} {l : List D2} {ao : Option Addr} {ca : Nat} (H : Dl w h c p l ao ca wr) (hb : Below wr.heap.size wr w2) : Dl w h c p l ao ca w2 :=
  ⟨H.1.trans (hb.mono (by have := H.2.1.1; omega)), H.2.1.later hb, own_later H.2.2 hb⟩

theorem dl_grown {w wr w2 : World} {h : Nat} {c : Ce} {p : Pl} {l : List D2} {x : D2} {ao bo : Option Addr} {ca cb : Nat} {o : Obj} (H : Dl w h c p l ao ca wr) (o2 : w2.ownsRow (h + 1) 32 2 (.slice bo (l.length + 1) cb) (l.length + 1) (flatD l ++ [.int .i64 x.1, .int .i64 x.2])) (b2 : Below (h + 1) (wr.alloc o) w2) : Dl w h c p (l ++ [x]) bo cb w2 := by
  have hs := H.2.1.1
  have hal : Below (h + 1) wr (wr.alloc o) := (Below.refl _ _).alloc (by omega) _
  refine ⟨H.1.trans ((hal.trans b2).mono (by omega)), H.2.1.under (by omega) (hal.trans b2), ?_⟩
  rw [flatD_append, List.length_append]
  exact o2

end Go.Proofs.YtgkddimijmnpcaaGreatDoor

/-
  Rows of texts, ascending, each once: plain mathematics.
-/
namespace Go.Proofs.YtgkddimijmnpcaaGreatDoor
open Go.RowKit Go.Shelf
set_option linter.unusedVariables false
set_option linter.unusedSimpArgs false

/-- A text, as its bytes. -/
abbrev S8 := List UInt8

theorem s8_lt {a b : S8} (h : ¬ a < b) (h2 : a ≠ b) : b < a := by
  rcases List.le_total a b with h3 | h3
  · exact absurd (List.le_antisymm h3 (List.not_lt.1 h)) h2
  · by_cases h4 : b < a
    · exact h4
    · exact absurd (List.le_antisymm (List.not_lt.1 h4) h3) h2
theorem s8_trans {a b c : S8} (h : a < b) (h2 : b < c) : a < c := List.lt_trans h h2
theorem s8_irr (a : S8) : ¬ a < a := List.lt_irrefl a
theorem s8_asymm {a b : S8} (h : a < b) : ¬ b < a := fun h2 => s8_irr a (s8_trans h h2)

/-- Ascending, each once. -/
def Asc (l : List S8) : Prop := l.Pairwise (· < ·)

/-- Two such rows of the same members are one. -/
theorem asc_one : ∀ {l m : List S8}, Asc l → Asc m → (∀ x, x ∈ l ↔ x ∈ m) → l = m
  | [], [], _, _, _ => rfl
  | [], y :: m, _, _, h => by have := (h y).2 (by simp); simp at this
  | x :: l, [], _, _, h => by have := (h x).1 (by simp); simp at this
  | x :: l, y :: m, hl, hm, h => by
    obtain ⟨hl1, hl2⟩ := List.pairwise_cons.1 hl
    obtain ⟨hm1, hm2⟩ := List.pairwise_cons.1 hm
    have e : x = y := by
      rcases List.mem_cons.1 ((h x).1 (by simp)) with h1 | h1
      · exact h1
      · rcases List.mem_cons.1 ((h y).2 (by simp)) with h2 | h2
        · exact h2.symm
        · exact absurd (hl1 y h2) (s8_asymm (hm1 x h1))
    subst e
    rw [asc_one hl2 hm2 fun z => ⟨fun hz => ?_, fun hz => ?_⟩]
    · rcases List.mem_cons.1 ((h z).1 (List.mem_cons_of_mem _ hz)) with h1 | h1
      · exact absurd (hl1 z hz) (h1 ▸ s8_irr z)
      · exact h1
    · rcases List.mem_cons.1 ((h z).2 (List.mem_cons_of_mem _ hz)) with h1 | h1
      · exact absurd (hm1 z hz) (h1 ▸ s8_irr z)
      · exact h1

/-- How many stand ahead of v. -/
def placeS (l : List S8) (v : S8) : Nat := (l.takeWhile fun x => decide (x < v)).length
theorem placeS_le (l : List S8) (v : S8) : placeS l v ≤ l.length := by
  induction l with
  | nil => simp [placeS]
  | cons x t ih =>
    unfold placeS at *
    rw [List.takeWhile_cons]
    split <;> simp <;> omega
theorem placeS_lt {v : S8} : ∀ {l : List S8} {k : Nat} {x : S8}, k < placeS l v → l[k]? = some x → x < v
  | [], k, x, h, hx => by simp at hx
  | y :: t, k, x, h, hx => by
    unfold placeS at h
    rw [List.takeWhile_cons] at h
    split at h
    · rename_i h1
      cases k with
      | zero => simp at hx; subst hx; simpa using h1
      | succ k => exact placeS_lt (l := t) (k := k) (by unfold placeS; simp at h; omega) (by simpa using hx)
    · simp at h
theorem placeS_at {v : S8} : ∀ {l : List S8} {x : S8}, l[placeS l v]? = some x → ¬ x < v
  | [], x, hx => by simp at hx
  | y :: t, x, hx => by
    unfold placeS at hx
    rw [List.takeWhile_cons] at hx
    split at hx
    · exact placeS_at (l := t) (by unfold placeS; simpa using hx)
    · rename_i h1
      simp at hx
      subst hx
      simpa using h1
/-- Where a walk from the begin stands still. -/
theorem placeS_eq {l : List S8} {v : S8} {k : Nat} (hk : k ≤ l.length) (h1 : ∀ j x, j < k → l[j]? = some x → x < v) (h2 : ∀ x, l[k]? = some x → ¬ x < v) : placeS l v = k := by
  rcases Nat.lt_trichotomy (placeS l v) k with h | h | h
  · have hl : placeS l v < l.length := by omega
    exact absurd (h1 _ _ h (List.getElem?_eq_getElem hl)) (placeS_at (List.getElem?_eq_getElem hl))
  · exact h
  · have hl : k < l.length := by have := placeS_le l v; omega
    exact absurd (placeS_lt h (List.getElem?_eq_getElem hl)) (h2 _ (List.getElem?_eq_getElem hl))

/-- v put into its place, if it is not there. -/
def insS (l : List S8) (v : S8) : List S8 := if l[placeS l v]? = some v then l else l.take (placeS l v) ++ v :: l.drop (placeS l v)

theorem insS_cons_lt {x v : S8} (t : List S8) (h : x < v) : insS (x :: t) v = x :: insS t v := by
  have e : placeS (x :: t) v = placeS t v + 1 := by unfold placeS; rw [List.takeWhile_cons, if_pos (by simpa using h)]; rfl
  unfold insS
  rw [e]
  simp only [List.getElem?_cons_succ, List.take_succ_cons, List.drop_succ_cons]
  split <;> simp
theorem insS_cons_eq (v : S8) (t : List S8) : insS (v :: t) v = v :: t := by
  have e : placeS (v :: t) v = 0 := by unfold placeS; rw [List.takeWhile_cons, if_neg (by simp)]; rfl
  unfold insS
  rw [e]
  simp
theorem insS_cons_gt {x v : S8} (t : List S8) (h : v < x) : insS (x :: t) v = v :: x :: t := by
  have e : placeS (x :: t) v = 0 := by unfold placeS; rw [List.takeWhile_cons, if_neg (by simpa using s8_asymm h)]; rfl
  unfold insS
  rw [e, if_neg (by simp; exact fun e => s8_irr v (by rw [e] at h; exact h))]
  simp
theorem insS_mem {v : S8} : ∀ {l : List S8} {x : S8}, x ∈ insS l v ↔ x ∈ l ∨ x = v
  | [], x => by simp [insS]
  | y :: t, x => by
    by_cases h : y < v
    · rw [insS_cons_lt t h, List.mem_cons, List.mem_cons, insS_mem (l := t)]
      exact ⟨fun hh => by rcases hh with h1 | h1 | h1 <;> simp [h1], fun hh => by rcases hh with (h1 | h1) | h1 <;> simp [h1]⟩
    · by_cases h2 : y = v
      · subst h2
        rw [insS_cons_eq]
        exact ⟨Or.inl, fun hh => by rcases hh with h1 | h1 <;> simp [h1]⟩
      · rw [insS_cons_gt t (s8_lt h h2), List.mem_cons]
        exact Or.comm
theorem insS_asc {v : S8} : ∀ {l : List S8}, Asc l → Asc (insS l v)
  | [], _ => by simp [insS, Asc]
  | y :: t, hl => by
    obtain ⟨h1, h2⟩ := List.pairwise_cons.1 hl
    by_cases h : y < v
    · rw [insS_cons_lt t h]
      refine List.pairwise_cons.2 ⟨fun x hx => ?_, insS_asc h2⟩
      rcases insS_mem.1 hx with h3 | h3
      · exact h1 x h3
      · exact h3 ▸ h
    · by_cases h3 : y = v
      · subst h3
        rw [insS_cons_eq]
        exact hl
      · rw [insS_cons_gt t (s8_lt h h3)]
        refine List.pairwise_cons.2 ⟨fun x hx => ?_, hl⟩
        rcases List.mem_cons.1 hx with h4 | h4
        · exact h4 ▸ s8_lt h h3
        · exact s8_trans (s8_lt h h3) (h1 x h4)
theorem insS_le (l : List S8) (v : S8) : (insS l v).length ≤ l.length + 1 := by
  unfold insS
  split
  · omega
  · have := placeS_le l v
    simp
    omega

/-- The texts, ascending, each once. -/
def setV (l : List S8) : List S8 := l.foldl insS []
theorem setV_step {l : List S8} {i : Nat} {v : S8} (hx : l[i]? = some v) : setV (l.take (i + 1)) = insS (setV (l.take i)) v := by
  unfold setV
  rw [List.take_add_one, hx, List.foldl_append]
  rfl
theorem fold_mem : ∀ (l a : List S8) (x : S8), x ∈ l.foldl insS a ↔ x ∈ a ∨ x ∈ l
  | [], a, x => by simp
  | v :: t, a, x => by
    rw [List.foldl_cons, fold_mem t, insS_mem, List.mem_cons, or_assoc]
theorem setV_mem (l : List S8) (x : S8) : x ∈ setV l ↔ x ∈ l := by rw [setV, fold_mem]; simp
theorem fold_asc : ∀ (l : List S8) {a : List S8}, Asc a → Asc (l.foldl insS a)
  | [], a, h => h
  | v :: t, a, h => fold_asc t (insS_asc h)
theorem setV_asc (l : List S8) : Asc (setV l) := fold_asc l List.Pairwise.nil
theorem fold_le : ∀ (l a : List S8), (l.foldl insS a).length ≤ a.length + l.length
  | [], a => by simp
  | v :: t, a => by
    have := fold_le t (insS a v)
    have := insS_le a v
    simp only [List.foldl_cons, List.length_cons]
    omega
theorem setV_le (l : List S8) : (setV l).length ≤ l.length := by
  have := fold_le l []
  simpa [setV] using this
/-- The row is told by its members. -/
theorem setV_of {l m : List S8} (hm : Asc m) (h : ∀ x, x ∈ m ↔ x ∈ l) : m = setV l := asc_one hm (setV_asc l) fun x => (h x).trans (setV_mem l x).symm

/-- slices.Compact behind slices.Sort. -/
theorem compact_part {zs : List S8} (hs : zs.Pairwise fun a b => ¬ b < a) : ∀ m, m ≤ zs.length → Asc (Lib.compactUpTo zs.toArray m) ∧ ∀ x, x ∈ Lib.compactUpTo zs.toArray m ↔ x ∈ zs.take m
  | 0, _ => ⟨by simp [Lib.compactUpTo, Asc], by simp [Lib.compactUpTo]⟩
  | m + 1, hm => by
    obtain ⟨h1, h2⟩ := compact_part hs m (by omega)
    have em : zs.toArray[m]! = zs[m] := by simp [show m < zs.length by omega]
    have hT : zs.take (m + 1) = zs.take m ++ [zs[m]] := by rw [List.take_add_one, List.getElem?_eq_getElem (by omega)]; rfl
    rw [Lib.compactUpTo_succ]
    by_cases hk : Lib.keeps zs.toArray m = true
    · rw [if_pos hk, em]
      refine ⟨List.pairwise_append.2 ⟨h1, by simp, fun a ha b hb => ?_⟩, fun x => by rw [hT, List.mem_append, List.mem_append, h2]⟩
      obtain rfl : b = zs[m] := by simpa using hb
      obtain ⟨j, hj, rfl⟩ := List.getElem_of_mem ((h2 a).1 ha)
      rw [List.length_take] at hj
      rw [List.getElem_take]
      have hjm : j < m := by omega
      have hle := List.pairwise_iff_getElem.1 hs j m (by omega) (by omega) hjm
      by_cases he : zs[j] = zs[m]
      · exfalso
        have hp : zs.toArray[m - 1]! = zs[m - 1] := by simp [show m - 1 < zs.length by omega]
        have hne : zs[m] ≠ zs[m - 1] := by
          have := hk
          simp only [Lib.keeps, decide_eq_true_eq, em, hp] at this
          rcases this with h | h
          · omega
          · exact h
        have g1 := List.pairwise_iff_getElem.1 hs (m - 1) m (by omega) (by omega) (by omega)
        rcases Nat.lt_or_ge j (m - 1) with hj1 | hj1
        · have g2 := List.pairwise_iff_getElem.1 hs j (m - 1) (by omega) (by omega) hj1
          rw [he] at g2
          exact g1 (s8_lt g2 (fun e => hne e.symm))
        · have : j = m - 1 := by omega
          subst this
          exact hne he.symm
      · by_cases hlt : zs[j] < zs[m]
        · exact hlt
        · exact absurd (s8_lt hlt he) hle
    · rw [if_neg hk, List.append_nil]
      refine ⟨h1, fun x => ?_⟩
      rw [h2, hT, List.mem_append]
      refine ⟨Or.inl, fun hh => ?_⟩
      rcases hh with h | h
      · exact h
      · obtain rfl : x = zs[m] := by simpa using h
        have hm0 : 0 < m := by
          rcases Nat.eq_zero_or_pos m with h0 | h0
          · subst h0; exact absurd (by simp [Lib.keeps]) hk
          · exact h0
        have hp : zs.toArray[m - 1]! = zs[m - 1] := by simp [show m - 1 < zs.length by omega]
        have he : zs[m] = zs[m - 1] := by
          simp only [Lib.keeps, decide_eq_true_eq, em, hp, not_or, Decidable.not_not] at hk
          exact hk.2
        rw [he]
        exact List.mem_take_iff_getElem.2 ⟨m - 1, by omega, rfl⟩

theorem compact_sort (ss : List S8) : Lib.compact (ss.mergeSort fun x y => decide (x ≤ y)) = setV ss := by
  have hp := List.pairwise_mergeSort (le := fun (x y : S8) => decide (x ≤ y)) (by intro a b c; simpa using List.le_trans) (by intro a b; simpa using List.le_total a b) ss
  have hs : (ss.mergeSort fun x y => decide (x ≤ y)).Pairwise fun a b => ¬ b < a := hp.imp (by intro a b h; exact List.not_lt.2 (by simpa using h))
  obtain ⟨h1, h2⟩ := compact_part hs _ (Nat.le_refl _)
  refine setV_of h1 fun x => (h2 x).trans ?_
  rw [List.take_length]
  exact (List.mergeSort_perm ss _).mem_iff

end Go.Proofs.YtgkddimijmnpcaaGreatDoor

/-
  Package orset's Values by contract: slices.Sort and slices.Compact at a row of texts of the call's own.
-/
namespace Go.Proofs.YtgkddimijmnpcaaGreatDoor
open Go.RowKit Go.Shelf
set_option linter.unusedVariables false
set_option linter.unusedSimpArgs false

/-- The texts of a row of entries. -/
def valsL (l : List E3) : List S8 := l.map fun x => x.val.data.toList
/-- A row of texts, as it lies. -/
def flatS (l : List S8) : List Value := l.map encStr
theorem flatS_len (l : List S8) : (flatS l).length = l.length := by simp [flatS]
theorem flatS_append (l m : List S8) : flatS (l ++ m) = flatS l ++ flatS m := by simp [flatS]
theorem flatS_at {l : List S8} {i : Nat} {x : S8} (h : l[i]? = some x) : (flatS l)[i]? = some (.string ⟨x.toArray⟩) := by
  simp [flatS, h]
theorem oneS {l : List S8} {u : Value} (h : u ∈ flatS l) : u.oneCell' = true := by
  obtain ⟨x, _, rfl⟩ := List.mem_map.1 h
  rfl
theorem valsL_len (l : List E3) : (valsL l).length = l.length := by simp [valsL]
theorem valsL_step {l : List E3} {i : Nat} {x : E3} (hx : l[i]? = some x) : valsL (l.take (i + 1)) = valsL (l.take i) ++ [x.val.data.toList] := by
  unfold valsL
  rw [List.take_add_one, hx, List.map_append]
  rfl
theorem Tryz.infoString : (Tryz.prog.info? 9).map (fun i => (i.zero, i.size, i.bytes)) = some (some (.string ByteArray.empty), 1, 16) := by kernel_rfl

theorem holdsS_of {C g : Nat} {w : World} {l : List S8} (h : FOwn C w (some ⟨g, 0, none⟩) (flatS l)) : Sort.Holds encStr w g 0 l.toArray := fun j hj => by
  have hj2 : j < l.length := by simpa using hj
  obtain ⟨b, e, _, _, hc⟩ := h (by rw [flatS_len]; omega)
  obtain rfl : g = b := by simpa using e
  rw [Nat.zero_add]
  have := hc j _ (flatS_at (List.getElem?_eq_getElem hj2))
  refine ⟨this.1.trans ?_, this.2⟩
  have e2 : l.toArray[j]! = l[j] := by simp [hj2]
  rw [e2]

theorem fown_of_holdsS {C g : Nat} {w : World} {l : List S8} (hC : C ≤ g) (hg : g < w.heap.size) (h : ∀ j, j < l.length → w.cell? ⟨g, 0 + j, none⟩ = some (encStr l.toArray[j]!) ∧ w.frozen? ⟨g, 0 + j, none⟩ = false) : FOwn C w (some ⟨g, 0, none⟩) (flatS l) := fun _ => by
  refine ⟨g, rfl, hC, hg, fun j u hu => ?_⟩
  have hj := (List.getElem?_eq_some_iff.1 hu).1
  rw [flatS_len] at hj
  have := h j hj
  rw [Nat.zero_add] at this
  refine ⟨this.1.trans ?_, this.2⟩
  have e2 : l.toArray[j]! = l[j] := by simp [hj]
  rw [e2, ← hu, flatS_at (List.getElem?_eq_getElem hj)]

theorem fown_same {C g j : Nat} {w : World} {xs : List Value} {u : Value} (h : FOwn C w (some ⟨g, 0, none⟩) xs) (hu : xs[j]? = some u) : FOwn C (w.setCell ⟨g, j, none⟩ u) (some ⟨g, 0, none⟩) xs := fun h0 => by
  obtain ⟨b, e, h1, h2, h3⟩ := h h0
  obtain rfl : g = b := by simpa using e
  refine ⟨g, rfl, h1, by simpa using h2, fun i v hv => ?_⟩
  by_cases hij : i = j
  · subst hij
    obtain rfl : u = v := by rw [hu] at hv; exact Option.some.inj hv
    exact ⟨World.cell?_setCell_same' _ _ _ (by rw [(h3 i u hu).1]; rfl), by rw [World.frozen?_setCell]; exact (h3 i u hu).2⟩
  · have hne : (⟨g, i, none⟩ : Addr) ≠ ⟨g, j, none⟩ := fun e => hij (by injection e)
    exact ⟨(World.cell?_setCell_other _ _ _ _ hne.symm).trans (h3 i v hv).1, by rw [World.frozen?_setCell]; exact (h3 i v hv).2⟩

theorem compact_le (zs : List S8) : (Lib.compact zs).length ≤ zs.length := by
  unfold Lib.compact Lib.compactUpTo
  rw [List.length_map]
  exact Nat.le_trans (List.length_filter_le _ _) (by simp)

/-- The row sorted. -/
def sortS (l : List S8) : List S8 := l.mergeSort fun x y => decide (x ≤ y)
theorem sortS_len (l : List S8) : (sortS l).length = l.length := by simp [sortS]

theorem sortS_any (C : Nat) (ao : Option Addr) (ca : Nat) (l : List S8) (w : World) (hs : FOwn C w ao (flatS l)) (hl : l.length * 16 ≤ 140737488355328) :
    Calls Tryz.prog 157 #[.slice ao l.length ca] w fun e w' => e = .returned (.tuple #[]) ∧ FOwn C w' ao (flatS (sortS l)) ∧ w.grownBy w' (ao.map (·.block)) := by
  by_cases h0 : l.length = 0
  · obtain rfl : l = [] := List.eq_nil_of_length_eq_zero h0
    refine Calls.mono (AnyM.slices_Sort_string_none laySorts ao ca w) ?_
    rintro e w' ⟨rfl, rfl⟩
    exact ⟨rfl, fun h => absurd h (by simp [flatS, sortS]), gb_refl _ _⟩
  · obtain ⟨g, rfl, hg, hgw, _⟩ := hs (by rw [flatS_len]; omega)
    have hH := holdsS_of hs
    refine Calls.mono (AnyM.slices_Sort_string laySorts g 0 ca l w hH hgw (by omega)) ?_
    rintro e w' ⟨rfl, n, os, rfl⟩
    refine ⟨rfl, ?_, gb_row _ w n g 0 _ os⟩
    have hsz : w.heap.size ≤ (Sort.grow (Sort.putRow encStr (Sort.ahead w n) g 0 (sortS l).toArray) os).heap.size := (gb_row _ w n g 0 _ os).size
    refine fown_of_holdsS hg (Nat.lt_of_lt_of_le hgw hsz) fun j hj => ?_
    have := holds_sortWorld encStr w g 0 n l.toArray (sortS l).toArray os hgw hH (by simp [sortS_len]) j (by simpa using hj)
    exact this

theorem compactS_any (C : Nat) (ao : Option Addr) (ca : Nat) (l : List S8) (w : World) (hs : FOwn C w ao (flatS l)) (hl : l.length * 16 ≤ 140737488355328) (hc : l.length ≤ ca) :
    Calls Tryz.prog 158 #[.slice ao l.length ca] w fun e w' => e = .returned (.slice ao (Lib.compact l).length ca) ∧ FOwn C w' ao (flatS (Lib.compact l)) ∧ w.grownBy w' (ao.map (·.block)) := by
  by_cases h0 : l.length = 0
  · obtain rfl : l = [] := List.eq_nil_of_length_eq_zero h0
    refine Calls.mono (AnyG.slices_Compact_string_empty layCompact ao ca w) ?_
    rintro e w' ⟨rfl, rfl⟩
    exact ⟨rfl, fun h => absurd h (by decide), gb_refl _ _⟩
  · obtain ⟨g, rfl, hg, hgw, _⟩ := hs (by rw [flatS_len]; omega)
    have hH := holdsS_of hs
    refine Calls.mono (AnyG.slices_Compact_string layCompact g 0 ca l w hH (by omega) hc) ?_
    rintro e w' ⟨rfl, n, rfl⟩
    have hle := compact_le l
    have hG : w.grownBy (Sort.putRow encStr (Sort.ahead w n) g 0 (Lib.compact l ++ List.replicate (l.length - (Lib.compact l).length) []).toArray) (some g) := by
      have := gb_row encStr w n g 0 (Lib.compact l ++ List.replicate (l.length - (Lib.compact l).length) []).toArray #[]
      have e : ∀ W : World, Sort.grow W #[] = W := fun W => by cases W; simp [Sort.grow]
      rw [e] at this
      exact this
    refine ⟨rfl, ?_, hG⟩
    refine fown_of_holdsS hg (Nat.lt_of_lt_of_le hgw hG.size) fun j hj => ?_
    have := Sort.holds_putRow encStr (Sort.ahead w n) g 0 l.toArray (Lib.compact l ++ List.replicate (l.length - (Lib.compact l).length) []).toArray hH (by simp; omega) j (by simp; omega)
    have e : (Lib.compact l ++ List.replicate (l.length - (Lib.compact l).length) []).toArray[j]! = (Lib.compact l).toArray[j]! := by
      have h1 : j < (Lib.compact l ++ List.replicate (l.length - (Lib.compact l).length) []).length := by simp; omega
      simp only [List.getElem!_toArray, getElem!_pos, h1, hj]
      exact List.getElem_append_left hj
    rwa [e] at this

set_option maxHeartbeats 400000 in
set_option maxRecDepth 100000 in
/-- Values refuses. -/
theorem vals_no (c : Ce) (p : Pl) (w : World) (hk : (c.kind != 2) = true) :
    Calls Tryz.prog 126 #[ceV c p] w fun e w' => e = .returned (.tuple #[.slice none 0 0, .int .i64 900]) ∧ Below w.heap.size w w' := by
  go_enter Tryz.func126, Tryz.ntmps126
  go_wp2
  go_ret2
  exact ⟨rfl, (Below.refl _ _).alloc (Nat.le_refl _) _⟩

theorem own_blk {B : Nat} {e : TypeId} {s n c : Nat} {ao : Option Addr} {xs : List Value} {w : World} (h : w.ownsRow B e s (.slice ao n c) n xs) : ∀ k, ao.map (·.block) = some k → B ≤ k := fun k hk => by
  rcases h.2 with ⟨h1, h2⟩ | ⟨g, cap, cur, h1, _⟩
  · simp only [Value.slice.injEq] at h1
    obtain ⟨rfl, _⟩ := h1
    simp at hk
  · simp only [Value.slice.injEq] at h1
    obtain ⟨rfl, _⟩ := h1
    obtain rfl : g = k := by simpa using hk
    exact (h.lt g rfl).1

/-- What the loop keeps. -/
def Vl (w : World) (h : Nat) (c : Ce) (p : Pl) (l : List S8) (ao : Option Addr) (ca : Nat) (wr : World) : Prop :=
  Below h w wr ∧ Has wr h (ceL c p) ∧ wr.ownsRow (h + 1) 9 1 (.slice ao l.length ca) l.length (flatS l)

theorem vl_later {w wr w2 : World} {h : Nat} {c : Ce} {p : Pl} {l : List S8} {ao : Option Addr} {ca : Nat} (H : Vl w h c p l ao ca wr) (hb : Below wr.heap.size wr w2) : Vl w h c p l ao ca w2 :=
  ⟨H.1.trans (hb.mono (by have := H.2.1.1; omega)), H.2.1.later hb, own_later H.2.2 hb⟩

theorem vl_grown {w wr w2 : World} {h : Nat} {c : Ce} {p : Pl} {l : List S8} {x : ByteArray} {ao bo : Option Addr} {ca cb : Nat} {o : Obj} (H : Vl w h c p l ao ca wr) (o2 : w2.ownsRow (h + 1) 9 1 (.slice bo (l.length + 1) cb) (l.length + 1) (flatS l ++ [.string x])) (b2 : Below (h + 1) (wr.alloc o) w2) : Vl w h c p (l ++ [x.data.toList]) bo cb w2 := by
  have hs := H.2.1.1
  have hal : Below (h + 1) wr (wr.alloc o) := (Below.refl _ _).alloc (by omega) _
  refine ⟨H.1.trans ((hal.trans b2).mono (by omega)), H.2.1.under (by omega) (hal.trans b2), ?_⟩
  rw [flatS_append, List.length_append]
  exact o2

set_option maxHeartbeats 2000000 in
set_option maxRecDepth 100000 in
/-- Values takes it. -/
theorem vals_yes (c : Ce) (p : Pl) (w : World) (hr : CRow w c p) (hf : Fit c) (hk : (c.kind != 2) = false) :
    Calls Tryz.prog 126 #[ceV c p] w fun e w' => ∃ ao ca, e = .returned (.tuple #[.slice ao (setV (valsL c.ents)).length ca, .int .i64 0]) ∧ FOwn w.heap.size w' ao (flatS (setV (valsL c.ents))) ∧ Below w.heap.size w w' := by
  obtain ⟨h, hh⟩ : ∃ h, w.heap.size = h := ⟨_, rfl⟩
  obtain ⟨eo, ec, lo, lc, so, sc⟩ := p
  have H0 : Hid (Vl w h c ⟨eo, ec, lo, lc, so, sc⟩ [] none 0 (w.alloc (.cells (ceL c ⟨eo, ec, lo, lc, so, sc⟩).toArray 30))) := ⟨hh ▸ (Below.refl _ _).alloc (Nat.le_refl _) _, hh ▸ has_new w (ceL c ⟨eo, ec, lo, lc, so, sc⟩) _, own_nil _ _ _ _⟩
  have HR : Hid (FRow w eo (flatE c.ents) ∧ w.heap.size = h) := ⟨hr.1, hh⟩
  have hl := hf.1
  have HS : Hid (∀ x, x ∈ valsL c.ents → x.length ≤ 140737488351232) := fun x hx => by
    obtain ⟨y, hy, rfl⟩ := List.mem_map.1 hx
    obtain ⟨i, hi⟩ := List.getElem?_of_mem hy
    have := hf.2.2.2.2.1 i y hi
    simpa using this
  obtain ⟨m, hm⟩ : ∃ m, setV (valsL c.ents) = m := ⟨_, rfl⟩
  rw [hh, hm]
  have HMV : Hid (setV (valsL c.ents) = m) := hm
  clear hr hf hm
  go_enter Tryz.func126, Tryz.ntmps126
  go_wp2
  clear hh
  go_loopg [4, 6, 14] c.ents.length (fun n s4 _ iv wr => ∃ (i : Nat) (ao : Option Addr) (ca : Nat), i + n = c.ents.length ∧ iv = .int .i64 i ∧ s4 = .slice ao i ca ∧ Hid (Vl w h c ⟨eo, ec, lo, lc, so, sc⟩ (valsL (c.ents.take i)) ao ca wr))
  case atStart => exact ⟨0, none, 0, by omega, rfl, rfl, H0.out⟩
  case round =>
    clear H0
    obtain ⟨i, ao, ca, hin, rfl, rfl, HD⟩ := hrel
    by_cases hi : i < c.ents.length
    · obtain ⟨bk, off, rfl, hb, hc⟩ := HR.out.1 (by rw [flatE_len]; omega)
      obtain ⟨x, hx⟩ : ∃ x, c.ents[i]? = some x := ⟨_, List.getElem?_eq_getElem hi⟩
      obtain ⟨g0, g1, g2⟩ := flatE_at c.ents i hx
      have hb1 : bk < h := HR.out.2 ▸ hb
      have k0 := (HD.out.1.cell (p := ⟨bk, off + i * 3, none⟩) (by exact hb1)).trans (hc _ _ g0)
      have k1 := (HD.out.1.cell (p := ⟨bk, off + i * 3 + 1, none⟩) (by exact hb1)).trans (hc _ _ g1)
      have k2 := (HD.out.1.cell (p := ⟨bk, off + i * 3 + 2, none⟩) (by exact hb1)).trans (hc _ _ g2)
      obtain ⟨n1, hn1⟩ : ∃ n, wr.heap.size = n := ⟨_, rfl⟩
      have hbn : bk < n1 := by have := HD.out.2.1.1; omega
      have hal : Below wr.heap.size wr (wr.alloc (.cells #[.int .i64 x.node, .int .i64 x.seq, .string x.val] 62)) := (Below.refl _ _).alloc (Nat.le_refl _) _
      have HE : Hid (Vl w h c ⟨some ⟨bk, off, none⟩, ec, lo, lc, so, sc⟩ (valsL (c.ents.take i)) ao ca (wr.alloc (.cells #[.int .i64 x.node, .int .i64 x.seq, .string x.val] 62))) := vl_later HD.out hal
      have HV : Hid (valsL (c.ents.take (i + 1)) = valsL (c.ents.take i) ++ [x.val.data.toList] ∧ (valsL (c.ents.take i)).length = i) := ⟨valsL_step hx, by rw [valsL_len, List.length_take]; omega⟩
      clear hc hx g0 g1 g2 hal hb
      generalize valsL (c.ents.take i) = l at *
      have R2 : FRow ((wr.alloc (.cells #[.int .i64 x.node, .int .i64 x.seq, .string x.val] 62)).alloc (.cells #[.string x.val] 9)) (some ⟨n1 + 1, 0, none⟩) [.string x.val] := frow_newAt (by simp [hn1]) [.string x.val] _
      have HO : Hid ((wr.alloc (.cells #[.int .i64 x.node, .int .i64 x.seq, .string x.val] 62)).ownsRow (h + 1) 9 1 (.slice ao i ca) i (flatS l)) := by
        have := HE.out.2.2
        rw [HV.out.2] at this
        exact this
      go_wp2_with (first
        | (at_builtin
           refine wpList_onto rfl _ _ 65 rfl Tryz.underlying65 Tryz.infoString rfl (by decide) (by decide) (B := h + 1) rfl rfl (own_later HO.out ((Below.refl _ _).alloc (Nat.le_refl _) _)) R2 rfl (fun u hu => by obtain rfl := List.mem_singleton.1 hu; rfl) (by omega) (by have := HE.out.2.1.1; simp at this ⊢; omega) ?_
           intro bo cb w2 o2 n2 b2
           have H2 : Hid (Vl w h c ⟨some ⟨bk, off, none⟩, ec, lo, lc, so, sc⟩ (l ++ [x.val.data.toList]) bo cb w2) := vl_grown HE.out (by rw [HV.out.2]; exact o2) b2
           clear o2 n2 b2))
      go_roundg (gk - 1)
      case measure => omega
      case rel => exact ⟨i + 1, bo, cb, by omega, by go_num, rfl, by rw [HV.out.1]; exact H2.out⟩
    · have hd : decide ((i : Int) < (c.ents.length : Int)) = false := by simp; omega
      have e : i = c.ents.length := by omega
      subst e
      rw [List.take_length] at HD
      have HN : Hid ((valsL c.ents).length = c.ents.length) := valsL_len _
      have C1 := sortS_any (h + 1) ao ca (valsL c.ents) wr (own_row HD.out.2.2) (by rw [HN.out]; omega)
      rw [HN.out] at C1
      have HB : Hid ((∀ k, ao.map (·.block) = some k → h + 1 ≤ k) ∧ c.ents.length ≤ ca ∧ Below h w wr ∧ h < wr.heap.size) := ⟨own_blk HD.out.2.2, HN.out ▸ (own_cap HD.out.2.2).1, HD.out.1, HD.out.2.1.1⟩
      clear hin hi HD
      go_wp2_with fail
      refine C1.mono ?_
      rintro e w1 ⟨rfl, F1, G1⟩
      have H1 : Hid (FOwn (h + 1) w1 ao (flatS (sortS (valsL c.ents))) ∧ Below h w w1 ∧ h < w1.heap.size) := ⟨F1, HB.out.2.2.1.trans ((gb_to G1 (by have := HB.out.2.2.2; omega) HB.out.1).mono (by omega)), Nat.lt_of_lt_of_le HB.out.2.2.2 G1.size⟩
      have C2 := compactS_any (h + 1) ao ca (sortS (valsL c.ents)) w1 H1.out.1 (by rw [sortS_len, HN.out]; omega) (by rw [sortS_len, HN.out]; exact HB.out.2.1)
      rw [sortS_len, HN.out] at C2
      have e2 : Lib.compact (sortS (valsL c.ents)) = m := HMV.out ▸ compact_sort _
      rw [e2] at C2
      clear C1 F1 G1 e2
      go_wp2_with fail
      refine C2.mono ?_
      rintro e w2 ⟨rfl, F2, G2⟩
      have HM : Hid ((∀ x, x ∈ m → x.length ≤ 140737488351232) ∧ (m).length ≤ c.ents.length) := ⟨fun x hx => HS.out x ((setV_mem _ _).1 (HMV.out.symm ▸ hx)), HMV.out ▸ HN.out ▸ setV_le (valsL c.ents)⟩
      have H2 : Hid (FOwn (h + 1) w2 ao (flatS (m)) ∧ Below h w w2) := ⟨F2, H1.out.2.1.trans ((gb_to G2 (by have := H1.out.2.2; omega) HB.out.1).mono (by omega))⟩
      clear C2 F2 G2 H1 HB HS HN HR HMV
      have hml : m.length ≤ c.ents.length := HM.out.2
      go_wp2
      by_cases h0 : 0 < m.length
      · obtain ⟨g, rfl, hg, hg1, _⟩ := H2.out.1 (by rw [flatS_len]; omega)
        go_loopg [7, 30] m.length (fun n _ iv wq => ∃ j : Nat, j + n = m.length ∧ iv = .int .i64 j ∧ Hid (FOwn (h + 1) wq (some ⟨g, 0, none⟩) (flatS m) ∧ Below h w wq))
        case atStart => exact ⟨0, by omega, rfl, H2.out⟩
        case round =>
          clear H2
          obtain ⟨j, hjn, rfl, HW⟩ := hrel
          by_cases hj : j < m.length
          · obtain ⟨x, hx⟩ : ∃ x, m[j]? = some x := ⟨_, List.getElem?_eq_getElem hj⟩
            have G2 : Hid ((flatS m)[j]? = some (.string ⟨x.toArray⟩)) := flatS_at hx
            obtain ⟨b, eb, hb1, hb2, hc⟩ := HW.out.1 (by rw [flatS_len]; omega)
            simp only [Option.some.injEq, Addr.mk.injEq, and_true] at eb
            subst eb
            have k2 := (hc _ _ G2.out).1
            have C := clone_any (⟨x.toArray⟩ : ByteArray) wr (by have := HM.out.1 x (List.mem_of_getElem? hx); simp [ByteArray.size]; omega)
            clear hc hx
            go_wp2_with fail
            refine C.mono ?_
            rintro e w2 ⟨rfl, b2⟩
            have O2 : Hid (FOwn (h + 1) w2 (some ⟨g, 0, none⟩) (flatS m) ∧ Below h w w2) := ⟨HW.out.1.later b2, HW.out.2.trans (b2.mono (by omega))⟩
            obtain ⟨b, eb, _, hb3, hc⟩ := O2.out.1 (by rw [flatS_len]; omega)
            simp only [Option.some.injEq, Addr.mk.injEq, and_true] at eb
            subst eb
            have q2 := (hc _ _ G2.out).1
            have q3 := (hc _ _ G2.out).2
            clear C b2 k2 hc
            go_wp2
            go_roundg (gk - 1)
            case measure => omega
            case rel => exact ⟨j + 1, by omega, by go_num, fown_same O2.out.1 G2.out, O2.out.2.setCell (p := ⟨g, j, none⟩) (by show h ≤ g; omega) _⟩
          · have hd : decide ((j : Int) < (m.length : Int)) = false := by simp; omega
            go_wp2
            go_ret2
            have hF : FOwn h wr (some ⟨g, 0, none⟩) (flatS m) := HW.out.1.mono (by omega)
            exact ⟨_, ca, rfl, hF, HW.out.2⟩
      · obtain rfl : m = [] := List.eq_nil_of_length_eq_zero (by omega)
        refine wp_loop_rounds 1 ?_
        rw [rounds_succ]
        go_wp2
        go_ret2
        exact ⟨ao, ca, rfl, FOwn.nil _ _ _, H2.out.2⟩

end Go.Proofs.YtgkddimijmnpcaaGreatDoor

/-
  The laws' own SameDots at two rows of the same dots, by contract.
-/
namespace Go.Proofs.YtgkddimijmnpcaaGreatDoor
open Go.RowKit
set_option linter.unusedVariables false
set_option linter.unusedSimpArgs false

set_option maxHeartbeats 400000 in
set_option maxRecDepth 100000 in
/-- Two rows of the same dots. -/
theorem dsame_any (ao bo : Option Addr) (ca cb : Nat) (a : List D2) (w : World) (ha : FRow w ao (flatD a)) (hb : FRow w bo (flatD a)) (hla : a.length ≤ maxLen) :
    Calls Tryz.prog 49 #[.slice ao a.length ca, .slice bo a.length cb] w fun e w' => e = .returned (.bool true) ∧ Below w.heap.size w w' := by
  have HA : Hid (FRow w ao (flatD a)) := ha
  have HC : Hid (FRow w bo (flatD a)) := hb
  clear ha hb
  unfold maxLen at hla
  have hd0 : ((a.length : Int) != (a.length : Int)) = false := by simp
  go_enter Tryz.func49, Tryz.ntmps49
  go_wp2
  go_loopg [5] a.length (fun n iv wr => ∃ i : Nat, i + n = a.length ∧ iv = .int .i64 i ∧ Below w.heap.size w wr)
  case atStart => exact ⟨0, by omega, rfl, Below.refl _ _⟩
  case round =>
    obtain ⟨i, hin, rfl, hbel⟩ := hrel
    by_cases hi : i < a.length
    · obtain ⟨bk, off, rfl, hb, hc⟩ := HA.out (by rw [flatD_len]; omega)
      obtain ⟨bk2, off2, rfl, hb2, hc2⟩ := HC.out (by rw [flatD_len]; omega)
      obtain ⟨x, hx⟩ : ∃ x, a[i]? = some x := ⟨_, List.getElem?_eq_getElem hi⟩
      obtain ⟨g0, g1⟩ := flatD_at a i hx
      have hx1 := (hbel.cell (p := ⟨bk, off + i * 2, none⟩) (by exact hb)).trans (hc _ _ g0)
      have hx2 := (hbel.cell (p := ⟨bk, off + i * 2 + 1, none⟩) (by exact hb)).trans (hc _ _ g1)
      have hy1 := (hbel.cell (p := ⟨bk2, off2 + i * 2, none⟩) (by exact hb2)).trans (hc2 _ _ g0)
      have hy2 := (hbel.cell (p := ⟨bk2, off2 + i * 2 + 1, none⟩) (by exact hb2)).trans (hc2 _ _ g1)
      obtain ⟨x1, x2⟩ := x
      clear hc hc2 hx g0 g1
      go_wp2
      go_region
      all_goals go_wp2
      all_goals go_roundg (gk - 1)
      case measure => omega
      case rel => exact ⟨i + 1, by omega, by go_num, hbel.drew⟩
    · have hd : decide ((i : Int) < (a.length : Int)) = false := by simp; omega
      go_wp2
      go_ret
      exact ⟨rfl, hbel⟩

end Go.Proofs.YtgkddimijmnpcaaGreatDoor

/-
  Rows of structs that come as arguments.
-/
namespace Go.Proofs.YtgkddimijmnpcaaGreatDoor
open Go.ChangeShapes Go.WideShapes Go.ChangeAt Go.RowKit
set_option linter.unusedVariables false
set_option linter.unusedSimpArgs false

theorem weights_all {H : Type} {P : Program} {e : TypeId} : ∀ {l : List (DataW H)} {d : DataW H}, d ∈ l → ∀ n ∈ d.weights P e, n ∈ DataW.weightsAll P e l
  | [], d, h, n, hn => by simp at h
  | x :: r, d, h, n, hn => by
    simp only [DataW.weightsAll, List.mem_append]
    rcases List.mem_cons.1 h with rfl | h
    · exact Or.inl hn
    · exact Or.inr (weights_all h n hn)

/-- A row of structs, one cell of what came in. -/
theorem rows_trodC {α : Type} (z : α) (f : α → List Value) (s bytes : Nat) (hfl : ∀ a, (f a).length = s) (sizes : α → List Nat) {H : Type} {enc : TypeId × Value → H} {P : Program} {w : World} {t e : TypeId} (ht : P.underlying t = some (.slice e)) (ce : P.cellsOf e = s) (hs : 0 < s) (be : P.bytesOf e = bytes)
    (hdec : ∀ fuel cs' x, DataW.trod enc P w 0 (fun _ => true) true fuel e cs' = some x → cs'.length = s → ∃ a, cs' = f a ∧ ∀ k ∈ sizes a, k ∈ x.1.weights P e)
    {fuel : Nat} {v : Value} {d : DataW H} {p : List MemPlace} (h : DataW.trod enc P w 0 (fun _ => true) true fuel t [v] = some (d, p)) :
    ∃ (l : List α) (ao : Option Addr) (cap : Nat), v = .slice ao l.length cap ∧ l.length ≤ cap ∧ FRow w ao (l.flatMap f) ∧ ∀ K, (∀ n, n ∈ d.weights P t → n ≤ K) → l.length * bytes ≤ K ∧ ∀ (i : Nat) x, l[i]? = some x → ∀ k ∈ sizes x, k ≤ K := by
  rcases Go.Deep.open_slice ht h with ⟨hcs, _⟩ | ⟨a, len, cap, m, n, D, Pl, hcs, _, hl, hm, hmm, hx, hcell⟩
  · simp only [List.cons.injEq, and_true] at hcs
    subst hcs
    exact ⟨[], none, 0, rfl, by simp, FRow.nil _ _, fun K _ => ⟨by simp, fun i x hx => by simp at hx⟩⟩
  · simp only [List.cons.injEq, and_true] at hcs
    subst hcs
    have hmc : m = cap := by simpa using hmm
    have each : ∀ i, i < m → ∃ y : α, (∀ k u, (f y)[k]? = some u → w.cell? (a.add (i * s + k)) = some u) ∧ ∀ k ∈ sizes y, k ∈ (D i).weights P e := fun i hi => by
      obtain ⟨cs', h1, h2⟩ := hcell i hi
      rw [ce] at h1
      obtain ⟨_, hlen, hc⟩ := World.cells?_some h1
      obtain ⟨y, rfl, hy⟩ := hdec _ _ _ h2 hlen
      refine ⟨y, fun k u hu => ?_, hy⟩
      have hk : k < s := by rw [← hlen]; exact (List.getElem?_eq_some_iff.1 hu).1
      rw [← Go.Deep.add_add, hc k hk, hu]
    obtain ⟨q, hq⟩ := @Go.Deep.choose_lt α ⟨z⟩ _ _ each
    have hat : ∀ i, i < len → ((List.range len).map q)[i]? = some (q i) := fun i hi => by simp [hi]
    refine ⟨(List.range len).map q, some a, cap, by simp, by simp; omega, fun h0 => ?_, fun K hK => ⟨?_, fun i x hix k hk => ?_⟩⟩
    · rw [flat_len f s hfl, List.length_map, List.length_range] at h0
      have h0' : 0 < len := by
        rcases Nat.eq_zero_or_pos len with e0 | e0
        · rw [e0, Nat.zero_mul] at h0; omega
        · exact e0
      obtain ⟨b, off, spot⟩ := a
      obtain ⟨u0, hu0⟩ : ∃ u, (f (q 0))[0]? = some u := ⟨_, List.getElem?_eq_getElem (by rw [hfl]; exact hs)⟩
      have hc0 := (hq 0 (by omega)).1 0 u0 hu0
      rw [Nat.zero_mul, Nat.zero_add] at hc0
      have hspot : spot = none := by simpa [Addr.add] using World.cell?_spot hc0
      subst hspot
      have hb := World.block_lt_of_cell? w _ hc0
      refine ⟨b, off, rfl, by simpa [Addr.add] using hb, fun j u hu => ?_⟩
      have hj : j < len * s := by
        have := (List.getElem?_eq_some_iff.1 hu).1
        rwa [flat_len f s hfl, List.length_map, List.length_range] at this
      have hi : j / s < len := Nat.div_lt_of_lt_mul (by rw [Nat.mul_comm]; exact hj)
      have ej : j / s * s + j % s = j := by rw [Nat.mul_comm]; exact Nat.div_add_mod j s
      have hg := flat_get f s hfl _ (j / s) (j % s) (Nat.mod_lt _ hs) (hat _ hi)
      rw [ej, hu] at hg
      have := (hq (j / s) (by omega)).1 (j % s) u hg.symm
      rw [ej, add_off] at this
      exact this
    · simp only [Prod.mk.injEq] at hx
      have h1 := hK _ (by rw [hx.1]; simp only [DataW.weights, ht]; exact List.mem_cons_self)
      rw [be] at h1
      simp only [List.length_map, List.length_range] at h1 ⊢
      exact Nat.le_trans (Nat.mul_le_mul_right _ (by omega)) h1
    · simp only [Prod.mk.injEq] at hx
      have hi : i < len := by
        have := (List.getElem?_eq_some_iff.1 hix).1
        simpa using this
      rw [hat i hi] at hix
      simp only [Option.some.injEq] at hix
      subst hix
      refine hK k ?_
      rw [hx.1]
      simp only [DataW.weights, ht, List.mem_cons, List.mem_append]
      exact Or.inr (Or.inl (weights_all (d := D i) (List.mem_map.2 ⟨i, List.mem_range.2 hi, rfl⟩) k ((hq i (by omega)).2 k hk)))

theorem rows_trod {α : Type} (z : α) (f : α → List Value) (s bytes : Nat) (hfl : ∀ a, (f a).length = s) (sizes : α → List Nat) {H : Type} {enc : TypeId × Value → H} {P : Program} {w : World} {t e : TypeId} (ht : P.underlying t = some (.slice e)) (ce : P.cellsOf e = s) (hs : 0 < s) (be : P.bytesOf e = bytes)
    (hdec : ∀ fuel cs' x, DataW.trod enc P w 0 (fun _ => true) true fuel e cs' = some x → cs'.length = s → ∃ a, cs' = f a ∧ ∀ k ∈ sizes a, k ∈ x.1.weights P e)
    {fuel : Nat} {v : Value} {d : DataW H} {p : List MemPlace} (h : DataW.trod enc P w 0 (fun _ => true) true fuel t [v] = some (d, p)) :
    ∃ (l : List α) (ao : Option Addr) (cap : Nat), v = .slice ao l.length cap ∧ FRow w ao (l.flatMap f) ∧ ∀ K, (∀ n, n ∈ d.weights P t → n ≤ K) → l.length * bytes ≤ K ∧ ∀ (i : Nat) x, l[i]? = some x → ∀ k ∈ sizes x, k ≤ K :=
  have ⟨l, ao, cap, h1, _, h2⟩ := rows_trodC z f s bytes hfl sizes ht ce hs be hdec h
  ⟨l, ao, cap, h1, h2⟩

theorem flatI_flat (l : List Int) : flatI l = l.flatMap (fun a => [.int .i64 a]) := by
  induction l with
  | nil => rfl
  | cons a l ih =>
    simp only [flatI, List.map_cons, List.flatMap_cons, List.cons_append, List.nil_append] at ih ⊢
    rw [ih]

section
variable {H : Type} {enc : TypeId × Value → H} {w : World}

theorem dec_int (fuel : Nat) (cs : List Value) (x : DataW H × List MemPlace) (h : DataW.trod enc Tryz.prog w 0 (fun _ => true) true fuel 3 cs = some x) (_ : cs.length = 1) : ∃ a : Int, cs = [.int .i64 a] ∧ ∀ k ∈ ([] : List Nat), k ∈ x.1.weights Tryz.prog 3 := by
  obtain ⟨z, hz, _, _⟩ := DataW.trod_int Tryz.underlying3 h
  exact ⟨z, hz, fun k hk => by simp at hk⟩

theorem dec_two {t : TypeId} {f0 f1 : Field} (ht : Tryz.prog.underlying t = some (.struct #[f0, f1])) (o0 : f0.offset = 0) (o1 : f1.offset = 1) (t0 : f0.type = 3) (t1 : f1.type = 3) {fuel : Nat} {a b : Value} {x : DataW H × List MemPlace} (h : DataW.trod enc Tryz.prog w 0 (fun _ => true) true fuel t [a, b] = some x) : ∃ y z : Int, a = .int .i64 y ∧ b = .int .i64 z ∧ (Lit.int .i64 y).wf = true ∧ (Lit.int .i64 z).wf = true := by
  have c1 : Tryz.prog.cellsOf 3 = 1 := by kernel_rfl
  obtain ⟨y0, y1, m, _, _, g0, g1⟩ := trod_struct2 ht h
  rw [t0, o0, c1] at g0
  rw [t1, o1, c1] at g1
  simp at g0 g1
  obtain ⟨y, hy, _, wy⟩ := DataW.trod_int Tryz.underlying3 g0
  obtain ⟨z, hz, _, wz⟩ := DataW.trod_int Tryz.underlying3 g1
  simp only [List.cons.injEq, and_true] at hy hz
  exact ⟨y, z, hy, hz, wy, wz⟩

end

end Go.Proofs.YtgkddimijmnpcaaGreatDoor

/-
  A cell that comes as an argument: what its ten cells hold, where its lists lie, what memory bears of it.
-/
namespace Go.Proofs.YtgkddimijmnpcaaGreatDoor
open Go.ChangeShapes Go.WideShapes Go.ChangeAt Go.RowKit
set_option linter.unusedVariables false
set_option linter.unusedSimpArgs false

section
variable {H : Type} {enc : TypeId × Value → H} {w : World}

theorem dec_entry (fuel : Nat) (cs : List Value) (x : DataW H × List MemPlace) (h : DataW.trod enc Tryz.prog w 0 (fun _ => true) true fuel 62 cs = some x) (hl : cs.length = 3) : ∃ a : E3, cs = e3 a ∧ ∀ k ∈ [a.val.size], k ∈ x.1.weights Tryz.prog 62 := by
  have c1 : Tryz.prog.cellsOf 32 = 2 := by kernel_rfl
  have c2 : Tryz.prog.cellsOf 9 = 1 := by kernel_rfl
  match cs, hl with
  | [a, b, d], _ =>
    obtain ⟨y0, y1, m, rfl, _, g0, g1⟩ := trod_struct2 Tryz.underlying62 h
    simp [c1, c2] at g0 g1
    obtain ⟨y, z, rfl, rfl, _, _⟩ := dec_two Tryz.underlying32 rfl rfl rfl rfl g0
    obtain ⟨s, hs, rfl, _⟩ := DataW.trod_string Tryz.underlying9 g1
    simp only [List.cons.injEq, and_true] at hs
    subst hs
    refine ⟨⟨y, z, s⟩, rfl, fun k hk => ?_⟩
    simp only [List.mem_singleton] at hk
    subst hk
    simp only [DataW.weights, Tryz.underlying62]
    exact DataW.weights_mem_each (j := 1) (t := 9) (d := .lit (.string s.data.toList)) rfl rfl _ (by simp [DataW.weights])

theorem dec_elem (fuel : Nat) (cs : List Value) (x : DataW H × List MemPlace) (h : DataW.trod enc Tryz.prog w 0 (fun _ => true) true fuel 59 cs = some x) (hl : cs.length = 5) : ∃ a : L5, cs = l5 a ∧ ∀ k ∈ [a.val.size], k ∈ x.1.weights Tryz.prog 59 := by
  have c1 : Tryz.prog.cellsOf 32 = 2 := by kernel_rfl
  have c2 : Tryz.prog.cellsOf 9 = 1 := by kernel_rfl
  have c3 : Tryz.prog.cellsOf 3 = 1 := by kernel_rfl
  have c4 : Tryz.prog.cellsOf 4 = 1 := by kernel_rfl
  match cs, hl with
  | [a0, a1, a2, a3, a4], _ =>
    obtain ⟨xs, n, _, rfl, _, hxl, hf⟩ := DataW.trod_struct Tryz.underlying59 h
    match xs, hxl with
    | [y0, y1, y2, y3], _ =>
      have g0 := hf 0 _ rfl
      have g1 := hf 1 _ rfl
      have g2 := hf 2 _ rfl
      have g3 := hf 3 _ rfl
      simp [c1, c2, c3, c4] at g0 g1 g2 g3
      obtain ⟨y, z, rfl, rfl, _, _⟩ := dec_two Tryz.underlying32 rfl rfl rfl rfl g0
      obtain ⟨u, hu, _, _⟩ := DataW.trod_int Tryz.underlying3 g1
      obtain ⟨s, hs, rfl, _⟩ := DataW.trod_string Tryz.underlying9 g2
      obtain ⟨b, hb, _⟩ := DataW.trod_bool Tryz.underlying4 g3
      simp only [List.cons.injEq, and_true] at hu hs hb
      subst hu hs hb
      refine ⟨⟨y, z, u, s, b⟩, rfl, fun k hk => ?_⟩
      simp only [List.mem_singleton] at hk
      subst hk
      simp only [DataW.weights, Tryz.underlying59]
      exact DataW.weights_mem_each (j := 2) (t := 9) (d := .lit (.string s.data.toList)) rfl rfl _ (by simp [DataW.weights])

set_option maxRecDepth 100000 in
/-- A cell that comes as an argument. -/
theorem open_cellD {base : Nat} {v : Value} {d : DataW H} {p : List MemPlace} (ok : Value.okWide Tryz.prog w .any base 30 v) (h : DataW.Trod enc Tryz.prog w 0 (fun _ => true) true 30 v d p) (hw : ∀ n, n ∈ d.weights Tryz.prog 30 → n ≤ reachBytes) :
    ∃ (c : Ce) (q : Pl), v = ceV c q ∧ c.ents.length ≤ q.ec ∧ c.elems.length ≤ q.lc ∧ CRow w c q ∧ Fit c := by
  have c0 : Tryz.prog.cellsOf 30 = 10 := by kernel_rfl
  have c1 : Tryz.prog.cellsOf 23 = 2 := by kernel_rfl
  have c2 : Tryz.prog.cellsOf 25 = 2 := by kernel_rfl
  have c3 : Tryz.prog.cellsOf 3 = 1 := by kernel_rfl
  have c4 : Tryz.prog.cellsOf 4 = 1 := by kernel_rfl
  have c5 : Tryz.prog.cellsOf 9 = 1 := by kernel_rfl
  have c6 : Tryz.prog.cellsOf 26 = 1 := by kernel_rfl
  have c7 : Tryz.prog.cellsOf 27 = 1 := by kernel_rfl
  have c8 : Tryz.prog.cellsOf 28 = 1 := by kernel_rfl
  obtain ⟨cs, rfl, hcs⟩ := okWide_struct Tryz.underlying30 ok
  rw [c0] at hcs
  obtain ⟨fuel, hf⟩ := h
  obtain ⟨xs, n, _, hx, _, hxl, hg⟩ := DataW.trod_struct Tryz.underlying30 hf
  obtain ⟨l⟩ := cs
  match l, hcs, xs, hxl with
  | [a0, a1, a2, a3, a4, a5, a6, a7, a8, a9], _, [y0, y1, y2, y3, y4, y5, y6, y7], _ =>
    have g0 := hg 0 _ rfl
    have g1 := hg 1 _ rfl
    have g2 := hg 2 _ rfl
    have g3 := hg 3 _ rfl
    have g4 := hg 4 _ rfl
    have g5 := hg 5 _ rfl
    have g6 := hg 6 _ rfl
    have g7 := hg 7 _ rfl
    simp [Value.cells, c1, c2, c3, c4, c5, c6, c7, c8] at g0 g1 g2 g3 g4 g5 g6 g7
    obtain ⟨kind, hk, _, _⟩ := DataW.trod_int Tryz.underlying3 g0
    obtain ⟨b, hb, _⟩ := DataW.trod_bool Tryz.underlying4 g1
    obtain ⟨t, nd, rfl, rfl, _, _⟩ := dec_two Tryz.underlying23 rfl rfl rfl rfl g2
    obtain ⟨s, hs, hys, _⟩ := DataW.trod_string Tryz.underlying9 g3
    obtain ⟨re, im, rfl, rfl, _, _⟩ := dec_two Tryz.underlying25 rfl rfl rfl rfl g4
    obtain ⟨d5, p5⟩ := y5
    obtain ⟨d6, p6⟩ := y6
    obtain ⟨d7, p7⟩ := y7
    obtain ⟨es, eo, ec, rfl, le5, re5, k5⟩ := rows_trodC ⟨0, 0, ByteArray.empty⟩ e3 3 32 (fun _ => rfl) (fun a => [a.val.size]) Tryz.underlying26 (by kernel_rfl) (by decide) (by kernel_rfl) dec_entry g5
    obtain ⟨ls, lo, lc, rfl, le6, re6, k6⟩ := rows_trodC ⟨0, 0, 0, ByteArray.empty, false⟩ l5 5 48 (fun _ => rfl) (fun a => [a.val.size]) Tryz.underlying27 (by kernel_rfl) (by decide) (by kernel_rfl) dec_elem g6
    obtain ⟨is, so, sc, rfl, re7, k7⟩ := rows_trod (0 : Int) (fun a => [.int .i64 a]) 1 8 (fun _ => rfl) (fun _ => []) Tryz.underlying28 (by kernel_rfl) (by decide) (by kernel_rfl) dec_int g7
    simp only [List.cons.injEq, and_true] at hk hb hs
    subst hk hb hs
    simp only [Prod.mk.injEq] at hx
    have hall : ∀ (j : Nat) (tt : TypeId) (dd : DataW H), ([3, 4, 23, 9, 25, 26, 27, 28] : List TypeId)[j]? = some tt → ([y0.1, y1.1, y2.1, y3.1, y4.1, d5, d6, d7] : List (DataW H))[j]? = some dd → ∀ k ∈ dd.weights Tryz.prog tt, k ≤ 140737488351232 := fun j tt dd hj hd k hk => by
      have h1 := hw k (by
        rw [hx.1]
        simp only [DataW.weights, Tryz.underlying30]
        exact DataW.weights_mem_each hj hd k hk)
      unfold reachBytes at h1
      omega
    have kk5 := k5 140737488351232 (hall 5 _ _ rfl rfl)
    have kk6 := k6 140737488351232 (hall 6 _ _ rfl rfl)
    have kk7 := k7 140737488351232 (hall 7 _ _ rfl rfl)
    refine ⟨⟨kind, b, t, nd, s, re, im, es, ls, is⟩, ⟨eo, ec, lo, lc, so, sc⟩, rfl, le5, le6, ⟨re5, re6, ?_⟩, kk5.1, kk6.1, kk7.1, ?_, fun i x hx => kk5.2 i x hx _ (List.mem_singleton.2 rfl), fun i x hx => kk6.2 i x hx _ (List.mem_singleton.2 rfl)⟩
    · show FRow w so (flatI is)
      rw [flatI_flat]; exact re7
    · exact hall 3 _ _ rfl rfl s.size (by rw [hys]; simp [DataW.weights])

set_option maxRecDepth 100000 in
theorem open_cellC {base : Nat} {v : Value} {d : DataW H} {p : List MemPlace} (ok : Value.okWide Tryz.prog w .any base 30 v) (h : DataW.Trod enc Tryz.prog w 0 (fun _ => true) true 30 v d p) (hw : ∀ n, n ∈ d.weights Tryz.prog 30 → n ≤ reachBytes) :
    ∃ (c : Ce) (q : Pl), v = ceV c q ∧ c.ents.length ≤ q.ec ∧ CRow w c q ∧ Fit c := by
  obtain ⟨c, q, h1, h3, _, h2⟩ := open_cellD ok h hw
  exact ⟨c, q, h1, h3, h2⟩

set_option maxRecDepth 100000 in
theorem open_cell {base : Nat} {v : Value} {d : DataW H} {p : List MemPlace} (ok : Value.okWide Tryz.prog w .any base 30 v) (h : DataW.Trod enc Tryz.prog w 0 (fun _ => true) true 30 v d p) (hw : ∀ n, n ∈ d.weights Tryz.prog 30 → n ≤ reachBytes) :
    ∃ (c : Ce) (q : Pl), v = ceV c q ∧ CRow w c q ∧ Fit c := by
  obtain ⟨c, q, h1, _, h2⟩ := open_cellC ok h hw
  exact ⟨c, q, h1, h2⟩

end

end Go.Proofs.YtgkddimijmnpcaaGreatDoor

/-
  Plain mathematics of layer 1 (numbers and texts as bytes): what Put, Get, PutText, GetText answer, as functions on lists of bytes, and what follows of them. No program in it.
-/
namespace Go.Proofs.YtgkddimijmnpcaaGreatDoor.Vi
open Go.RowKit
set_option linter.unusedVariables false

/-- A number's bytes, at most f of them. -/
def putF : Nat → Nat → List UInt8
  | 0, _ => []
  | f + 1, x => if x < 128 then [UInt8.ofNat x] else UInt8.ofNat (x % 128 + 128) :: putF f (x / 128)

def put (x : Nat) : List UInt8 := putF 9 x

/-- From byte i on, x gathered: the number, how many bytes it has, the error. -/
def getF : Nat → Nat → Nat → List UInt8 → Nat × Nat × Nat
  | 0, _, _, _ => (0, 0, 101)
  | _ + 1, _, _, [] => (0, 0, 100)
  | f + 1, i, x, b :: l =>
    if 128 ≤ b.toNat then getF f (i + 1) (x + b.toNat % 128 * 128 ^ i) l
    else if b.toNat = 0 ∧ 0 < i then (0, 0, 101) else (x + b.toNat % 128 * 128 ^ i, i + 1, 0)

def get (l : List UInt8) : Nat × Nat × Nat := getF 9 0 0 l

/-- The number at place a, where it ends, the error. -/
def getAt (l : List UInt8) (a : Nat) : Nat × Nat × Nat := if (get (l.drop a)).2.2 = 0 then ((get (l.drop a)).1, a + (get (l.drop a)).2.1, 0) else (0, 0, (get (l.drop a)).2.2)

def getI (l : List UInt8) (a : Int) : Nat × Nat × Nat := if 0 ≤ a ∧ a ≤ l.length then getAt l a.toNat else (0, 0, 101)

def putText (l : List UInt8) : List UInt8 × Nat := if 65536 < l.length then ([], 101) else (put l.length ++ l, 0)

def getText (l : List UInt8) (a : Int) : List UInt8 × Nat × Nat :=
  if (getI l a).2.2 = 0 then
    if 65536 < (getI l a).1 then ([], 0, 101)
    else if l.length - (getI l a).2.1 < (getI l a).1 then ([], 0, 100)
    else ((l.drop (getI l a).2.1).take (getI l a).1, (getI l a).2.1 + (getI l a).1, 0)
  else ([], 0, (getI l a).2.2)

theorem wrap_small (n : Nat) (h : n < 9223372036854775808) : IntKind.i64.wrap (n : Int) = (n : Int) := by
  rw [IntKind.wrap_i64]; omega

theorem pow_lt {k : Nat} (hk : k < 9) : (128 : Nat) ^ k * 128 ≤ 9223372036854775808 := by
  have h : (128 : Nat) ^ k * 128 = 128 ^ (k + 1) := (Nat.pow_succ ..).symm
  rw [h]
  calc (128 : Nat) ^ (k + 1) ≤ 128 ^ 9 := Nat.pow_le_pow_right (by omega) (by omega)
    _ = 9223372036854775808 := by decide

theorem two_pow (k : Nat) : (2 : Nat) ^ (7 * k) = 128 ^ k := by
  rw [Nat.pow_mul]

/-- 'x | b << (7 * i)', as the walk spells it. -/
theorem or_step (y k b : Nat) (hy : y < 128 ^ k) (hk : k < 9) :
    bits .or .i64 (y : Int) (wrap64 ((b : Int) % 128 * 2 ^ (7 * k))) = ((y + b % 128 * 128 ^ k : Nat) : Int) := by
  have hp := pow_lt hk
  have hm : b % 128 ≤ 127 := by omega
  have hb : b % 128 * 128 ^ k ≤ 127 * 128 ^ k := Nat.mul_le_mul_right _ hm
  have e1 : ((b : Int) % 128 * 2 ^ (7 * k)) = ((b % 128 * 128 ^ k : Nat) : Int) := by
    rw [← two_pow k]; simp
  have e2 : wrap64 ((b % 128 * 128 ^ k : Nat) : Int) = ((b % 128 * 128 ^ k : Nat) : Int) := by
    generalize b % 128 * 128 ^ k = z at hb
    unfold wrap64; omega
  rw [e1, e2]
  show IntKind.i64.wrap ((BitVec.ofInt 64 (y : Int) ||| BitVec.ofInt 64 ((b % 128 * 128 ^ k : Nat) : Int)).toNat : Int) = _
  have hsum : y ||| (b % 128 * 128 ^ k) = y + b % 128 * 128 ^ k := by
    have h := Nat.two_pow_add_eq_or_of_lt (i := 7 * k) (b := y) (by rw [two_pow]; exact hy) (b % 128)
    rw [two_pow] at h
    rw [Nat.or_comm, Nat.mul_comm (b % 128), ← h]
    omega
  generalize hz : b % 128 * 128 ^ k = z at *
  rw [BitVec.toNat_or, ofInt_u64 y (by omega), ofInt_u64 z (by omega), hsum]
  exact wrap_small _ (by omega)

/-- The same, with '& 127' in the place of '% 128'. -/
theorem or_step_ref (y k b : Nat) (hy : y < 128 ^ k) (hk : k < 9) :
    bits .or .i64 (y : Int) (wrap64 (bits .and .i64 (b : Int) 127 * 2 ^ (7 * k))) = ((y + b % 128 * 128 ^ k : Nat) : Int) := by
  rw [i64_and127]
  exact or_step y k b hy hk

theorem step_lt {y k b : Nat} (hy : y < 128 ^ k) : y + b % 128 * 128 ^ k < 128 ^ (k + 1) := by
  have hm : b % 128 ≤ 127 := by omega
  have hb : b % 128 * 128 ^ k ≤ 127 * 128 ^ k := Nat.mul_le_mul_right _ hm
  have h : (128 : Nat) ^ (k + 1) = 128 ^ k * 128 := Nat.pow_succ ..
  omega

theorem drop_step (s : ByteArray) (a : Nat) (h : a < s.size) : s.data.toList.drop a = s[a] :: s.data.toList.drop (a + 1) := by
  have h' : a < s.data.toList.length := by simpa using h
  rw [List.drop_eq_getElem_cons h']
  rfl

theorem drop_end (s : ByteArray) (a : Nat) (h : ¬ a < s.size) : s.data.toList.drop a = [] := by
  apply List.drop_eq_nil_of_le
  simp
  have : s.data.size = s.size := rfl
  omega

theorem getF_more (f k y : Nat) (s : ByteArray) (a : Nat) (h : a + k < s.size) (hb : (128 : Int) ≤ (s[a + k].toNat : Int)) :
    getF (f + 1) k y (s.data.toList.drop (a + k)) = getF f (k + 1) (y + s[a + k].toNat % 128 * 128 ^ k) (s.data.toList.drop (a + (k + 1))) := by
  rw [drop_step s (a + k) h]
  show (if _ then _ else _) = _
  rw [if_pos (by omega)]
  rfl

theorem getF_cut (f k y : Nat) (s : ByteArray) (a : Nat) (h : ¬ a + k < s.size) :
    getF (f + 1) k y (s.data.toList.drop (a + k)) = (0, 0, 100) := by
  rw [drop_end s (a + k) h]; rfl

theorem getF_long (f k y : Nat) (s : ByteArray) (a : Nat) (h : a + k < s.size) (hb : ¬ (128 : Int) ≤ (s[a + k].toNat : Int)) (h0 : s[a + k].toNat = 0) (hk : 0 < k) :
    getF (f + 1) k y (s.data.toList.drop (a + k)) = (0, 0, 101) := by
  rw [drop_step s (a + k) h]
  show (if _ then _ else _) = _
  rw [if_neg (by omega), if_pos ⟨h0, hk⟩]

theorem getF_done (f k y : Nat) (s : ByteArray) (a : Nat) (h : a + k < s.size) (hb : ¬ (128 : Int) ≤ (s[a + k].toNat : Int)) (h0 : ¬ (s[a + k].toNat = 0 ∧ 0 < k)) :
    getF (f + 1) k y (s.data.toList.drop (a + k)) = (y + s[a + k].toNat % 128 * 128 ^ k, k + 1, 0) := by
  rw [drop_step s (a + k) h]
  show (if _ then _ else _) = _
  rw [if_neg (by omega), if_neg h0]

theorem getF_bound : ∀ (f i y : Nat) (l : List UInt8), y < 128 ^ i → (getF f i y l).2.2 = 0 → (getF f i y l).1 < 128 ^ (i + f) ∧ i < (getF f i y l).2.1 ∧ (getF f i y l).2.1 ≤ i + f ∧ (getF f i y l).2.1 ≤ i + l.length
  | 0, _, _, _, _, h => by simp [getF] at h
  | f + 1, _, _, [], _, h => by simp [getF] at h
  | f + 1, i, y, b :: l, hy, h => by
    by_cases h1 : 128 ≤ b.toNat
    · have e : getF (f + 1) i y (b :: l) = getF f (i + 1) (y + b.toNat % 128 * 128 ^ i) l := by show (if _ then _ else _) = _; rw [if_pos h1]
      rw [e] at h ⊢
      have ih := getF_bound f (i + 1) _ l (step_lt hy) h
      rw [show i + (f + 1) = i + 1 + f by omega]
      simp only [List.length_cons]
      omega
    · by_cases h2 : b.toNat = 0 ∧ 0 < i
      · have e : getF (f + 1) i y (b :: l) = (0, 0, 101) := by show (if _ then _ else _) = _; rw [if_neg h1, if_pos h2]
        rw [e] at h; simp at h
      · have e : getF (f + 1) i y (b :: l) = (y + b.toNat % 128 * 128 ^ i, i + 1, 0) := by show (if _ then _ else _) = _; rw [if_neg h1, if_neg h2]
        rw [e]
        have hs := step_lt (b := b.toNat) hy
        have hm : (128 : Nat) ^ (i + 1) ≤ 128 ^ (i + (f + 1)) := Nat.pow_le_pow_right (by omega) (by omega)
        simp only [List.length_cons]
        omega

theorem get_bound (l : List UInt8) (h : (get l).2.2 = 0) : (get l).1 < 9223372036854775808 ∧ 0 < (get l).2.1 ∧ (get l).2.1 ≤ 9 ∧ (get l).2.1 ≤ l.length := by
  have hb := getF_bound 9 0 0 l (by decide) h
  have e : (128 : Nat) ^ (0 + 9) = 9223372036854775808 := by decide
  rw [e] at hb
  unfold get
  omega

theorem getI_ok {l : List UInt8} {a : Int} {x t : Nat} (h : getI l a = (x, t, 0)) : 0 ≤ a ∧ a ≤ l.length ∧ x < 9223372036854775808 ∧ a < t ∧ t ≤ l.length ∧ t ≤ a + 9 := by
  unfold getI at h
  split at h
  · rename_i hr
    unfold getAt at h
    split at h
    · rename_i h0
      have hb := get_bound _ h0
      simp only [Prod.mk.injEq] at h
      simp only [List.length_drop] at hb
      omega
    · simp only [Prod.mk.injEq] at h
      rename_i h0
      exact absurd h.2.2 h0
  · simp at h

theorem getI_err {l : List UInt8} {a : Int} (h : (getI l a).2.2 ≠ 0) : getI l a = (0, 0, (getI l a).2.2) := by
  unfold getI at h ⊢
  split
  · unfold getAt at h ⊢
    rename_i hr
    rw [if_pos hr] at h
    split
    · rename_i h0
      rw [if_pos h0] at h
      exact absurd rfl h
    · rfl
  · rfl

theorem getF_err : ∀ (f i y : Nat) (l : List UInt8), (getF f i y l).2.2 = 0 ∨ (getF f i y l).2.2 = 100 ∨ (getF f i y l).2.2 = 101
  | 0, _, _, _ => .inr (.inr rfl)
  | _ + 1, _, _, [] => .inr (.inl rfl)
  | f + 1, i, y, b :: l => by
    unfold getF
    split
    · exact getF_err f _ _ l
    · split
      · exact .inr (.inr rfl)
      · exact .inl rfl

theorem getI_errs (l : List UInt8) (a : Int) : (getI l a).2.2 = 0 ∨ (getI l a).2.2 = 100 ∨ (getI l a).2.2 = 101 := by
  unfold getI
  split
  · unfold getAt
    split
    · exact .inl rfl
    · exact getF_err ..
  · exact .inr (.inr rfl)

/-- Put's answer, whatever the number. -/
def putI (x : Int) : List UInt8 × Nat := if x < 0 then ([], 101) else (put x.toNat, 0)

theorem or128 (y : Nat) : bits .or .u8 ((y : Int) % 128) 128 = ((UInt8.ofNat (y % 128 + 128)).toNat : Int) := by
  rw [u8_or128_right _ (by omega) (by omega)]
  have h : (UInt8.ofNat (y % 128 + 128)).toNat = y % 128 + 128 := by
    rw [UInt8.toNat_ofNat']; omega
  rw [h]; omega

theorem i64_or_join (a b i : Nat) (hb : b < 2 ^ i) (h : 2 ^ i * a + b < 9223372036854775808) : bits .or .i64 ((2 ^ i * a : Nat) : Int) (b : Int) = ((2 ^ i * a + b : Nat) : Int) := by
  show IntKind.i64.wrap ((BitVec.ofInt 64 ((2 ^ i * a : Nat) : Int) ||| BitVec.ofInt 64 (b : Int)).toNat : Int) = _
  have hs := Nat.two_pow_add_eq_or_of_lt hb a
  generalize 2 ^ i * a = z at *
  rw [BitVec.toNat_or, ofInt_u64 z (by omega), ofInt_u64 b (by omega), ← hs]
  exact wrap_small _ h

theorem bits_or_comm (k : IntKind) (a b : Int) : bits .or k a b = bits .or k b a := by
  simp only [bits, BitVec.or_comm]

theorem ref128 (y : Nat) : bits .or .i64 (bits .and .i64 (y : Int) 127) 128 % 256 = ((UInt8.ofNat (y % 128 + 128)).toNat : Int) := by
  have h : (UInt8.ofNat (y % 128 + 128)).toNat = y % 128 + 128 := by
    rw [UInt8.toNat_ofNat']; omega
  have hj := i64_or_join 1 (y % 128) 7 (by omega) (by omega)
  rw [h, i64_and127, bits_or_comm]
  have e1 : ((2 ^ 7 * 1 : Nat) : Int) = 128 := by decide
  have e2 : ((y % 128 : Nat) : Int) = (y : Int) % 128 := by omega
  rw [e1, e2] at hj
  rw [hj]
  omega

theorem byte_small {y : Nat} (h : ¬ 128 ≤ y) : (y : Int) = ((UInt8.ofNat y).toNat : Int) := by
  have h : (UInt8.ofNat y).toNat = y := by
    rw [UInt8.toNat_ofNat']; omega
  rw [h]

theorem putF_more {f y : Nat} (hy : y < 128 ^ f) (hf : 0 < f) (hc : 128 ≤ y) : 0 < f - 1 ∧ y / 128 < 128 ^ (f - 1) ∧ putF f y = UInt8.ofNat (y % 128 + 128) :: putF (f - 1) (y / 128) := by
  obtain ⟨g, rfl⟩ : ∃ g, f = g + 1 := ⟨f - 1, by omega⟩
  have e : g + 1 - 1 = g := by omega
  have hp : (128 : Nat) ^ (g + 1) = 128 ^ g * 128 := Nat.pow_succ ..
  rw [e]
  refine ⟨?_, by omega, by show (if _ then _ else _) = _; rw [if_neg (by omega)]⟩
  cases g with
  | zero => simp at hy; omega
  | succ g => omega

theorem putF_last {f y : Nat} (hf : 0 < f) (hc : ¬ 128 ≤ y) : putF f y = [UInt8.ofNat y] := by
  obtain ⟨g, rfl⟩ : ∃ g, f = g + 1 := ⟨f - 1, by omega⟩
  show (if _ then _ else _) = _
  rw [if_pos (by omega)]

theorem putF_length_le : ∀ (f x : Nat), (putF f x).length ≤ f
  | 0, _ => Nat.le_refl _
  | f + 1, x => by
    unfold putF
    split
    · simp
    · have := putF_length_le f (x / 128)
      simp; omega

theorem put_length_le (x : Nat) : (put x).length ≤ 9 := putF_length_le 9 x

theorem extract_eq (s : ByteArray) (a n : Nat) : s.extract a (a + n) = ⟨((s.data.toList.drop a).take n).toArray⟩ := by
  apply ByteArray.ext
  apply Array.toList_inj.1
  simp [ByteArray.data_extract]

theorem extract_size (s : ByteArray) (a n : Nat) (h : a + n ≤ s.size) : (s.extract a (a + n)).size = n := by
  rw [ByteArray.size_extract]; omega

/-- Bytes as cells. -/
def cells (l : List UInt8) : List Value := l.map fun b => Value.int .u8 b.toNat

theorem lt63 {y f : Nat} (hy : y < 128 ^ f) (hf : f ≤ 9) : y < 9223372036854775808 := by
  have h : (128 : Nat) ^ f ≤ 128 ^ 9 := Nat.pow_le_pow_right (by omega) hf
  have e : (128 : Nat) ^ 9 = 9223372036854775808 := by decide
  omega

end Go.Proofs.YtgkddimijmnpcaaGreatDoor.Vi

/-
  Small laws for rows of bytes that a call itself makes: one byte appended; such a row as a string.
-/
namespace Go.Proofs.YtgkddimijmnpcaaGreatDoor
open Go.RowKit
set_option linter.unusedVariables false

theorem Tryz.infoByte : (Tryz.prog.info? 5).map (fun i => (i.zero, i.size, i.bytes)) = some (some (.int .u8 0), 1, 1) := by kernel_rfl

theorem cells_snoc (l : List UInt8) (b : UInt8) : Vi.cells (l ++ [b]) = Vi.cells l ++ [.int .u8 b.toNat] := by simp [Vi.cells]

/-- 'append(out, c)', out the call's own bytes. -/
theorem wpList_append_byte {ops : Array Oper} {rest : List Oper} {o : Oper} {a : Act} {Q : Exit → Act → World → Prop} (hgd : o.guard = none) (s x : Operand)
    (ho : o.op = .call { callee := .builtin .append, args := #[s, x], argTypes := #[63, 63] })
    {B : Nat} {v : Value} {l : List UInt8} {wr : World} {c : Int} (b : UInt8) (hc : c = (b.toNat : Int))
    (hs : a.eval s = v) (hx : a.eval x = .slice (some ⟨wr.heap.size, 0, none⟩) 1 1)
    (hown : wr.ownsRow B 5 1 v l.length (Vi.cells l)) (hlen : l.length < 140737488355328) (hB : B ≤ wr.heap.size)
    (h : ∀ v' w', w'.ownsRow B 5 1 v' (l ++ [b]).length (Vi.cells (l ++ [b])) → Below B wr w' → wpList Tryz.prog ops Q rest (a.put o.dst v') w') :
    wpList Tryz.prog ops Q (o :: rest) a (wr.alloc (.cells #[.int .u8 c] 5)) := by
  obtain ⟨i0, hi, hz0, hz1, hz2⟩ := info_parts Tryz.infoByte
  refine wpList_append_own _ hgd s x 63 ho B 5 i0 (.int .u8 0) 1 1 Tryz.underlying63 hi hz0 hz1 hz2 rfl (by decide) v l.length (Vi.cells l) hs (hown.alloc _) ⟨wr.heap.size, 0, none⟩ 1 1 [.int .u8 c] hx rfl ?_ ?_ ?_ ?_ ?_ ?_
  · intro j u hj
    match j, hj with
    | 0, hj => simp at hj; subst hj; simp [Addr.add]
  · intro u hu; simp at hu; subst hu; rfl
  · unfold maxLen; omega
  · omega
  · simp; omega
  · intro v' w' hown' hgrow _
    refine h v' w' ?_ ?_
    · rw [cells_snoc, ← hc]
      simpa using hown'
    · refine ((Below.refl _ _).alloc hB _).grown hgrow (by simp; omega) ?_
      intro g hg
      rcases hown.2 with ⟨rfl, _⟩ | ⟨g', cap, cur, rfl, hb, _⟩
      · simp [Value.ownBlock] at hg
      · simp [Value.ownBlock] at hg; omega

/-- 'string(out)', out the call's own bytes. -/
theorem run_string_own {w : World} {B : Nat} {v : Value} {l : List UInt8} (hown : w.ownsRow B 5 1 v l.length (Vi.cells l)) :
    (convert 63 9 v).run Tryz.prog w = .ok (.string ⟨l.toArray⟩) w := by
  rcases hown.2 with ⟨rfl, h0⟩ | ⟨g, cap, cur, rfl, hb, hh, hn, hm, hcs, htake⟩
  · have : l = [] := List.eq_nil_of_length_eq_zero h0
    subst this
    rw [run_convert_bytes_string w 63 9 5 none 0 0 Tryz.underlying63 Tryz.underlying5 Tryz.underlying9]
    rfl
  · refine run_convert_bytes_back w 63 9 5 ⟨g, 0, none⟩ cap l Tryz.underlying63 Tryz.underlying5 Tryz.underlying9 ?_
    intro j hj
    refine hown.cells (g := g) rfl j _ ?_
    simp [Vi.cells, List.getElem?_eq_getElem hj]

/-- 'string(make([]byte, n))'. -/
theorem zeros_string {w : World} {B n : Nat} {v : Value} (hown : w.ownsRow B 5 1 v n (madeCells (Value.int .u8 0).cells (n * 1)).toList) :
    (convert 63 9 v).run Tryz.prog w = .ok (.string ⟨(List.replicate n (0 : UInt8)).toArray⟩) w := by
  have e : (madeCells (Value.int .u8 0).cells (n * 1)).toList = Vi.cells (List.replicate n 0) := by
    rw [Nat.mul_one, show (Value.int .u8 0).cells = #[.int .u8 0] from rfl, toList_madeCells_one]
    simp [Vi.cells]
  rw [e] at hown
  refine run_string_own (B := B) ?_
  rw [List.length_replicate]
  exact hown

end Go.Proofs.YtgkddimijmnpcaaGreatDoor

/-
  The document's own way to tell a number's digits (Decimal, at a number that is not below nought), by a contract: the same plain function as strconv.Itoa's.
-/
namespace Go.Proofs.YtgkddimijmnpcaaGreatDoor
open Go.RowKit
set_option linter.unusedVariables false

/-- The digits that are still to come. -/
def lead (s : Nat) : List UInt8 := if s = 0 then [] else Lib.decDigits s

theorem lead_step (s : Nat) (h : 0 < s) : lead s = lead (s / 10) ++ [UInt8.ofNat (48 + s % 10)] := by
  unfold lead
  rw [if_neg (by omega), Lib.decDigits]
  by_cases h10 : s < 10
  · have e : s % 10 = s := by omega
    rw [dif_pos h10, if_pos (by omega), e]; rfl
  · rw [dif_neg h10, if_neg (by omega)]

theorem lead_first (s : Nat) : Lib.decDigits s = lead (s / 10) ++ [UInt8.ofNat (48 + s % 10)] := by
  by_cases h : s = 0
  · subst h; decide +kernel
  · rw [← lead_step s (by omega), lead, if_neg h]

/-- What the loop keeps. -/
def DecInv (x s : Nat) (l : List UInt8) : Prop := (l = [] ∧ s = x) ∨ (l ≠ [] ∧ lead s ++ l = Lib.decDigits x)

theorem DecInv.step {x s : Nat} {l : List UInt8} (h : DecInv x s l) (hg : 0 < s ∨ l = []) : DecInv x (s / 10) (UInt8.ofNat (48 + s % 10) :: l) := by
  right
  refine ⟨by simp, ?_⟩
  rcases h with ⟨rfl, rfl⟩ | ⟨hl, he⟩
  · exact (lead_first s).symm
  · have h0 : 0 < s := by rcases hg with h | h; exact h; exact absurd h hl
    rw [← he, lead_step s h0]; simp

theorem DecInv.last {x : Nat} {l : List UInt8} (h : DecInv x 0 l) (hl : l ≠ []) : l = Lib.decDigits x := by
  rcases h with ⟨rfl, _⟩ | ⟨_, he⟩
  · exact absurd rfl hl
  · simpa [lead] using he

theorem DecInv.short {x s : Nat} {l : List UInt8} (h : DecInv x s l) (hx : x < 9223372036854775808) : l.length ≤ 21 := by
  rcases h with ⟨rfl, _⟩ | ⟨_, he⟩
  · simp
  · have h1 := congrArg List.length he
    have h2 := Lib.itoa_length_le (x : Int) (by omega) (by omega)
    rw [Lib.itoa_nonneg] at h2
    rw [List.length_append] at h1
    omega

theorem run_append_bnone (w : World) (ty : TypeId) (g n c cap : Nat) (hc : n ≤ c) : (Builtin.append_ #[63, 63] ty #[.slice (some ⟨g, 0, none⟩) n c, .slice none 0 cap]).run Tryz.prog w = .ok (.slice (some ⟨g, 0, none⟩) n c) w := by
  obtain ⟨i0, hi, hz0, hz1, hz2⟩ := info_parts Tryz.infoByte
  simp [Builtin.append_, run_underlying Tryz.underlying63, sizeOf, typeInfo, hi, Builtin.lenOf, Builtin.firstCells, loadCells, hc, storeCells]

/-- 'append([]byte{c}, out...)', out the call's own bytes. -/
theorem wpList_prepend_byte {ops : Array Oper} {rest : List Oper} {o : Oper} {a : Act} {Q : Exit → Act → World → Prop} (hgd : o.guard = none) (s x : Operand)
    (ho : o.op = .call { callee := .builtin .append, args := #[s, x], argTypes := #[63, 63] })
    {B : Nat} {v : Value} {l : List UInt8} {wr : World} {c : Int} (b : UInt8) (hc : c = (b.toNat : Int))
    (hs : a.eval s = .slice (some ⟨wr.heap.size, 0, none⟩) 1 1) (hx : a.eval x = v)
    (hown : wr.ownsRow B 5 1 v l.length (Vi.cells l)) (hlen : l.length ≤ 21) (hB : B ≤ wr.heap.size)
    (h : ∀ v' w', w'.ownsRow B 5 1 v' (b :: l).length (Vi.cells (b :: l)) → Below B wr w' → wpList Tryz.prog ops Q rest (a.put o.dst v') w') :
    wpList Tryz.prog ops Q (o :: rest) a (wr.alloc (.cells #[.int .u8 c] 5)) := by
  obtain ⟨i0, hi, hz0, hz1, hz2⟩ := info_parts Tryz.infoByte
  have O : (wr.alloc (.cells #[.int .u8 c] 5)).ownsRow B 5 1 (.slice (some ⟨wr.heap.size, 0, none⟩) 1 1) 1 [.int .u8 c] := by
    simpa using World.ownsRow_lit wr #[.int .u8 c] 1 (base := B) (e := 5) (size := 1) hB (by unfold maxLen; omega) (by simp)
  have hcs : Vi.cells (b :: l) = [.int .u8 c] ++ Vi.cells l := by rw [hc]; rfl
  have hbel : Below B wr (wr.alloc (.cells #[.int .u8 c] 5)) := (Below.refl _ _).alloc hB _
  have hown2 := hown.alloc (.cells #[.int .u8 c] 5)
  have hcase := hown.2
  rcases hcase with ⟨rfl, h0⟩ | ⟨g, cap, cur, rfl, _⟩
  · have hl : l = [] := List.eq_nil_of_length_eq_zero h0
    subst hl
    have h' := h _ _ (by rw [hcs]; exact O) hbel
    refine wpList_plain hgd fun K hK => ?_
    unfold Oper.wp execOp
    have hr := run_append_bnone (wr.alloc (.cells #[.int .u8 c] 5)) o.type wr.heap.size 1 1 0 (Nat.le_refl _)
    simp only [ho, resolve, invoke, builtin, Sem.run_bind, Sem.run_pure, Result.andThen_ok, List.map_toArray, List.map_cons, List.map_nil, hs, hx, hr]
    exact hK _ _ h'
  · refine wpList_append_own _ hgd s x 63 ho B 5 i0 (.int .u8 0) 1 1 Tryz.underlying63 hi hz0 hz1 hz2 rfl (by decide) _ 1 [.int .u8 c] hs O ⟨g, 0, none⟩ l.length cap (Vi.cells l) hx (by simp [Vi.cells]) ?_ ?_ ?_ ?_ (by simp; omega) ?_
    · intro j u hj
      have := hown2.cells (g := g) rfl j u hj
      rcases j with _ | j
      · simpa [Addr.add] using this
      · simpa [Addr.add] using this
    · intro u hu
      simp only [Vi.cells, List.mem_map] at hu
      obtain ⟨z, _, rfl⟩ := hu
      rfl
    · unfold maxLen; omega
    · omega
    · intro v' w' hown' hgrow _
      refine h v' w' ?_ ?_
      · rw [hcs]
        have e : (b :: l).length = 1 + l.length := by simp; omega
        rw [e]; exact hown'
      · refine hbel.grown hgrow (by simp; omega) ?_
        intro k hk
        simp [Value.ownBlock] at hk; omega

theorem own_form {w : World} {B n : Nat} {e : TypeId} {k : Nat} {v : Value} {xs : List Value} (hown : w.ownsRow B e k v n xs) : ∃ ao cap, v = .slice ao n cap := by
  rcases hown.2 with ⟨rfl, h0⟩ | ⟨g, cap, cur, rfl, _⟩
  · exact ⟨none, 0, by rw [h0]⟩
  · exact ⟨_, _, rfl⟩

theorem digit_byte (s : Nat) : (48 + (s : Int) % 10) = ((UInt8.ofNat (48 + s % 10)).toNat : Int) := by
  rw [UInt8.toNat_ofNat']; omega

set_option maxHeartbeats 1000000 in
set_option maxRecDepth 100000 in
theorem deci_any (x : Nat) (w : World) (hx : x < 9223372036854775808) :
    Calls Tryz.prog 89 #[.int .i64 x] w fun e w' => e = .returned (.string ⟨(Lib.decDigits x).toArray⟩) ∧ Below w.heap.size w w' := by
  have hneg : ¬ (x : Int) < 0 := by omega
  go_enter Tryz.func89, Tryz.ntmps89
  go_wp2
  go_loopg [3, 4] (x + 1) (fun m sv v wr => ∃ (s : Nat) (l : List UInt8), (∃ ao cap, v = .slice ao l.length cap) ∧ s ≤ x ∧ m = s + (if l.length = 0 then 1 else 0) ∧ Hid (DecInv x s l) ∧ sv = .int .u64 s ∧ wr.ownsRow w.heap.size 5 1 v l.length (Vi.cells l) ∧ Below w.heap.size w wr)
  case atStart => exact ⟨x, [], ⟨none, 0, rfl⟩, Nat.le_refl _, by simp, Or.inl ⟨rfl, rfl⟩, by first | rfl | go_num, World.ownsRow_nil _ _ _ _, Below.refl _ _⟩
  case round =>
    obtain ⟨s, l, ⟨ao, cap, rfl⟩, hsx, hm, HI, rfl, hown, hbel⟩ := hrel
    have hsz : w.heap.size ≤ wr.heap.size := hbel.size
    have hsh := HI.out.short hx
    have HM : Hid (gk = s + (if l.length = 0 then 1 else 0)) := hm
    clear hm
    by_cases hs0 : 0 < s
    · have hd : decide ((0 : Int) < (s : Int)) = true := by simp; omega
      go_wp2_with (at_builtin; refine wpList_prepend_byte rfl _ _ rfl (UInt8.ofNat (48 + s % 10)) (digit_byte s) rfl rfl hown hsh hsz ?_; intro v' w' hown' hbel')
      go_roundg (s / 10)
      case measure => have := HM.out; split at this <;> omega
      case rel => exact ⟨s / 10, UInt8.ofNat (48 + s % 10) :: l, own_form hown', by omega, by simp, HI.out.step (Or.inl hs0), by go_num, hown', hbel.trans hbel'⟩
    · have hs : s = 0 := by omega
      subst hs
      by_cases hl0 : l.length = 0
      · have hl : l = [] := List.eq_nil_of_length_eq_zero hl0
        subst hl
        go_wp2_with (at_builtin; refine wpList_prepend_byte rfl _ _ rfl (l := []) (UInt8.ofNat (48 + 0 % 10)) (by rfl) rfl rfl hown (by simp) hsz ?_; intro v' w' hown' hbel')
        go_roundg 0
        case measure => have := HM.out; simp at this; omega
        case rel => exact ⟨0, UInt8.ofNat (48 + 0 % 10) :: [], own_form hown', by omega, by simp, HI.out.step (Or.inr rfl), by go_num, hown', hbel.trans hbel'⟩
      · have HD : Hid (l = Lib.decDigits x) := HI.out.last (fun h => hl0 (by rw [h]; rfl))
        have hd : ((l.length : Int) == 0) = false := by simp; intro e; exact hl0 (by rw [e]; rfl)
        have hstr := run_string_own hown
        go_wp2_with fail
        go_ret
        exact ⟨by rw [← HD.out]; rfl, hbel⟩

end Go.Proofs.YtgkddimijmnpcaaGreatDoor

/-
  Lists of elements: where one goes, what is gone, what stands: plain mathematics of layer 10.
-/
namespace Go.Proofs.YtgkddimijmnpcaaGreatDoor
open Go.RowKit
set_option linter.unusedVariables false
set_option linter.unusedSimpArgs false

/-- An element's dot. -/
abbrev dotX (x : L5) : D2 := (x.node, x.seq)
/-- The place of the first element of that dot. -/
def atD : List L5 → D2 → Option Nat
  | [], _ => none
  | x :: l, d => if dotX x = d then some 0 else (atD l d).map (· + 1)
/-- Has an element that dot? -/
def hasX (l : List L5) (d : D2) : Bool := l.any fun x => decide (dotX x = d)
/-- How many, one behind the other, have a stamp that (t, n) is less than. -/
def pastL (t n : Int) : List L5 → Nat
  | [] => 0
  | x :: l => if lessB t n x.time x.node = true then pastL t n l + 1 else 0
/-- Right behind that dot's; the first place of the zero dot. -/
def behindL (l : List L5) (d : D2) : Option Nat := if d = (0, 0) then some 0 else (atD l d).map (· + 1)
/-- e put at place k. -/
def putX (l : List L5) (k : Nat) (e : L5) : List L5 := l.take k ++ e :: l.drop k
/-- e put behind d's. -/
def insL (l : List L5) (e : L5) (d : D2) : Option (List L5) := (behindL l d).map fun k => putX l (k + pastL e.time e.node (l.drop k)) e
/-- May it be put? -/
def okX (l : List L5) (e : L5) : Bool := mayB e.node e.seq 16 && (decide (1 ≤ e.time ∧ e.time ≤ 16777215) && (decide (e.val.size ≤ 256) && (!e.gone && !hasX l (dotX e))))
/-- Gone. -/
def markX (x : L5) : L5 := ⟨x.node, x.seq, x.time, ByteArray.empty, true⟩
/-- The element of that dot is gone. -/
def eraL (l : List L5) (d : D2) : Option (List L5) := (atD l d).map fun k => l.modify k markX
/-- Those that are not gone. -/
def liveL (l : List L5) : List L5 := l.filter fun x => !x.gone
def valsX (l : List L5) : List ByteArray := (liveL l).map (·.val)
def atX (l : List L5) (k : Nat) : Option D2 := (liveL l)[k]?.map dotX

/-! What holds of all of them. -/

theorem atD_iff {l : List L5} {d : D2} : (atD l d).isSome = hasX l d := by
  induction l with
  | nil => rfl
  | cons x l ih =>
    rw [show atD (x :: l) d = if dotX x = d then some 0 else (atD l d).map (· + 1) from rfl, show hasX (x :: l) d = (decide (dotX x = d) || hasX l d) from rfl]
    by_cases h : dotX x = d
    · rw [if_pos h, decide_eq_true h]; rfl
    · rw [if_neg h, decide_eq_false h, ← ih]; simp
theorem hasX_iff {l : List L5} {d : D2} : hasX l d = true ↔ ∃ x ∈ l, dotX x = d := by
  unfold hasX
  rw [List.any_eq_true]
  simp
theorem hasX_no {l : List L5} {d : D2} (h : ∀ x ∈ l, dotX x ≠ d) : hasX l d = false := by
  cases e : hasX l d with
  | false => rfl
  | true =>
    obtain ⟨x, hx, h2⟩ := hasX_iff.1 e
    exact absurd h2 (h x hx)
theorem atD_lt {l : List L5} {d : D2} {k : Nat} (h : atD l d = some k) : k < l.length := by
  induction l generalizing k with
  | nil => simp [atD] at h
  | cons x l ih =>
    unfold atD at h
    split at h
    · simp at h; subst h; simp
    · obtain ⟨j, hj, rfl⟩ := Option.map_eq_some_iff.1 h
      have := ih hj
      simp
      omega
theorem behind_le {l : List L5} {d : D2} {k : Nat} (h : behindL l d = some k) : k ≤ l.length := by
  unfold behindL at h
  split at h
  · simp at h; omega
  · obtain ⟨j, hj, rfl⟩ := Option.map_eq_some_iff.1 h
    exact atD_lt hj
theorem past_le (t n : Int) (l : List L5) : pastL t n l ≤ l.length := by
  induction l with
  | nil => simp [pastL]
  | cons x l ih =>
    unfold pastL
    split <;> simp
    omega
theorem putX_len {l : List L5} {k : Nat} (e : L5) (h : k ≤ l.length) : (putX l k e).length = l.length + 1 := by
  unfold putX
  simp
  omega
theorem insK_le {l : List L5} {d : D2} {k : Nat} {t n : Int} (h : behindL l d = some k) : k + pastL t n (l.drop k) ≤ l.length := by
  have h1 := behind_le h
  have h2 := past_le t n (l.drop k)
  rw [List.length_drop] at h2
  omega
theorem insL_len {l m : List L5} {e : L5} {d : D2} (h : insL l e d = some m) : m.length = l.length + 1 := by
  obtain ⟨k, hk, rfl⟩ := Option.map_eq_some_iff.1 h
  exact putX_len e (insK_le hk)
theorem putX_mem {l : List L5} {k : Nat} {e x : L5} : x ∈ putX l k e ↔ x ∈ l ∨ x = e := by
  unfold putX
  constructor
  · intro h
    rcases List.mem_append.1 h with h | h
    · exact Or.inl (List.mem_of_mem_take h)
    · rcases List.mem_cons.1 h with h | h
      · exact Or.inr h
      · exact Or.inl (List.mem_of_mem_drop h)
  · intro h
    rcases h with h | h
    · rw [← List.take_append_drop k l] at h
      rcases List.mem_append.1 h with h | h
      · exact List.mem_append.2 (Or.inl h)
      · exact List.mem_append.2 (Or.inr (List.mem_cons_of_mem _ h))
    · exact List.mem_append.2 (Or.inr (by rw [h]; simp))
theorem insL_mem {l m : List L5} {e x : L5} {d : D2} (h : insL l e d = some m) : x ∈ m ↔ x ∈ l ∨ x = e := by
  obtain ⟨k, hk, rfl⟩ := Option.map_eq_some_iff.1 h
  exact putX_mem

/-- Each dot once. -/
def OnceX (l : List L5) : Prop := l.Pairwise fun x y => dotX x ≠ dotX y
theorem once_put {l : List L5} {k : Nat} {e : L5} (h : OnceX l) (he : hasX l (dotX e) = false) : OnceX (putX l k e) := by
  have hne : ∀ x ∈ l, dotX x ≠ dotX e := fun x hx h2 => by rw [hasX_iff.2 ⟨x, hx, h2⟩] at he; simp at he
  unfold OnceX putX
  have h0 := h
  unfold OnceX at h0
  rw [← List.take_append_drop k l, List.pairwise_append] at h0
  rw [List.pairwise_append]
  refine ⟨h0.1, List.pairwise_cons.2 ⟨fun x hx => (hne x (List.mem_of_mem_drop hx)).symm, h0.2.1⟩, fun x hx y hy => ?_⟩
  rcases List.mem_cons.1 hy with rfl | hy
  · exact hne x (List.mem_of_mem_take hx)
  · exact h0.2.2 x hx y hy
theorem once_ins {l m : List L5} {e : L5} {d : D2} (h : insL l e d = some m) (hl : OnceX l) (he : hasX l (dotX e) = false) : OnceX m := by
  obtain ⟨k, hk, rfl⟩ := Option.map_eq_some_iff.1 h
  exact once_put hl he
theorem mem_mark {l : List L5} {k : Nat} {x : L5} (h : x ∈ l.modify k markX) : x ∈ l ∨ ∃ y ∈ l, x = markX y := by
  obtain ⟨i, hi⟩ := List.getElem?_of_mem h
  rw [List.getElem?_modify] at hi
  cases e : l[i]? with
  | none => rw [e] at hi; simp at hi
  | some y =>
    rw [e] at hi
    have hy := List.mem_of_getElem? e
    by_cases hk : k = i
    · simp [hk] at hi
      exact Or.inr ⟨y, hy, hi.symm⟩
    · simp [hk] at hi
      exact Or.inl (hi ▸ hy)
theorem dots_mark (l : List L5) (k : Nat) : (l.modify k markX).map dotX = l.map dotX := by
  apply List.ext_getElem?
  intro i
  rw [List.getElem?_map, List.getElem?_map, List.getElem?_modify]
  cases l[i]? with
  | none => rfl
  | some y => by_cases h : k = i <;> simp [h, markX]
theorem once_dots {l : List L5} : OnceX l ↔ (l.map dotX).Pairwise (· ≠ ·) := by
  unfold OnceX
  rw [List.pairwise_map]
theorem once_mark {l : List L5} {k : Nat} (h : OnceX l) : OnceX (l.modify k markX) := by rw [once_dots, dots_mark, ← once_dots]; exact h
theorem once_live {l : List L5} (h : OnceX l) : OnceX (liveL l) := List.Pairwise.sublist List.filter_sublist h

/-- Where one stands whose dot is its own. -/
theorem atD_split {A B : List L5} {x : L5} (h : OnceX (A ++ x :: B)) : atD (A ++ x :: B) (dotX x) = some A.length := by
  induction A with
  | nil => simp [atD]
  | cons a A ih =>
    obtain ⟨h1, h2⟩ := List.pairwise_cons.1 h
    have hne : dotX a ≠ dotX x := h1 x (by simp)
    show (if dotX a = dotX x then some 0 else (atD (A ++ x :: B) (dotX x)).map (· + 1)) = _
    rw [if_neg hne, ih h2]
    rfl
/-- The k-th of those that are not gone. -/
theorem live_split : ∀ {l : List L5} {k : Nat} {x : L5}, (liveL l)[k]? = some x → ∃ A B, l = A ++ x :: B ∧ (liveL A).length = k ∧ x.gone = false
  | [], k, x, h => by simp [liveL] at h
  | a :: l, k, x, h => by
    unfold liveL at h
    rw [List.filter_cons] at h
    cases hg : a.gone with
    | true =>
      simp [hg] at h
      obtain ⟨A, B, h1, h2, h3⟩ := live_split (l := l) (k := k) (x := x) h
      exact ⟨a :: A, B, by rw [h1]; rfl, by simp [liveL, hg]; exact h2, h3⟩
    | false =>
      simp [hg] at h
      cases k with
      | zero =>
        simp at h
        subst h
        exact ⟨[], l, rfl, rfl, hg⟩
      | succ k =>
        obtain ⟨A, B, h1, h2, h3⟩ := live_split (l := l) (k := k) (x := x) (by rw [List.getElem?_cons_succ] at h; exact h)
        exact ⟨a :: A, B, by rw [h1]; rfl, by
          have : liveL (a :: A) = a :: liveL A := by simp [liveL, hg]
          rw [this]
          simp [h2], h3⟩
theorem live_append (A B : List L5) : liveL (A ++ B) = liveL A ++ liveL B := by simp [liveL]
theorem live_cons {x : L5} (h : x.gone = false) (B : List L5) : liveL (x :: B) = x :: liveL B := by simp [liveL, h]
theorem live_gone {x : L5} (h : x.gone = true) (B : List L5) : liveL (x :: B) = liveL B := by simp [liveL, h]
theorem putX_split (A B : List L5) (e : L5) : putX (A ++ B) A.length e = A ++ e :: B := by simp [putX]

/-- Right behind the k-th that stands. -/
theorem behind_split {A B : List L5} {x : L5} (h : OnceX (A ++ x :: B)) (hz : dotX x ≠ (0, 0)) : behindL (A ++ x :: B) (dotX x) = some (A.length + 1) := by
  unfold behindL
  rw [if_neg hz, atD_split h]
  rfl
theorem past_none {t n : Int} {l : List L5} (h : ∀ x ∈ l, lessB t n x.time x.node = false) : pastL t n l = 0 := by
  cases l with
  | nil => rfl
  | cons x l => unfold pastL; rw [if_neg (by rw [h x (by simp)]; simp)]

/-! One that writes alone: its times grow. -/

theorem ins_last {l : List L5} {e : L5} (hm : ∀ x ∈ l, x.time < e.time) (d : D2) : insL l e d = (behindL l d).map fun k => putX l k e := by
  unfold insL
  congr
  funext k
  rw [past_none fun x hx => ?_]
  · rfl
  · have := hm x (List.mem_of_mem_drop hx)
    unfold lessB
    simp
    omega
theorem ins_first {l : List L5} {e : L5} (hm : ∀ x ∈ l, x.time < e.time) : insL l e (0, 0) = some (e :: l) := by
  rw [ins_last hm]
  simp [behindL, putX]
/-- Behind the k-th that stands: what stands then. -/
theorem ins_serial {l : List L5} {e x : L5} {k : Nat} (h : OnceX l) (hx : (liveL l)[k]? = some x) (hz : dotX x ≠ (0, 0)) (hm : ∀ x ∈ l, x.time < e.time) (he : e.gone = false) :
    ∃ m, insL l e (dotX x) = some m ∧ liveL m = (liveL l).take (k + 1) ++ e :: (liveL l).drop (k + 1) := by
  obtain ⟨A, B, rfl, hk, hg⟩ := live_split hx
  refine ⟨_, by rw [ins_last hm, behind_split h hz]; rfl, ?_⟩
  have e1 : A ++ x :: B = (A ++ [x]) ++ B := by simp
  have e2 : A.length + 1 = (A ++ [x]).length := by simp
  show liveL (putX (A ++ x :: B) (A.length + 1) e) = _
  rw [e1, e2, putX_split]
  rw [live_append, live_cons he, live_append (A ++ [x]) B]
  have e3 : (liveL (A ++ [x])).length = k + 1 := by rw [live_append, live_cons hg]; simp [liveL, ← hk]
  rw [← e3, List.take_left, List.drop_left]
theorem ins_serial0 {l : List L5} {e : L5} (hm : ∀ x ∈ l, x.time < e.time) (he : e.gone = false) : ∃ m, insL l e (0, 0) = some m ∧ liveL m = e :: liveL l :=
  ⟨_, ins_first hm, live_cons he l⟩
theorem modify_split (A B : List L5) (x : L5) : (A ++ x :: B).modify A.length markX = A ++ markX x :: B := by
  apply List.ext_getElem?
  intro i
  rw [List.getElem?_modify]
  rcases Nat.lt_trichotomy i A.length with h | h | h
  · rw [List.getElem?_append_left h, List.getElem?_append_left h]
    have : A.length ≠ i := by omega
    simp [this]
  · subst h
    simp
  · have h1 : A.length ≤ i := by omega
    rw [List.getElem?_append_right h1, List.getElem?_append_right h1]
    have h2 : A.length ≠ i := by omega
    obtain ⟨j, hj⟩ : ∃ j, i - A.length = j + 1 := ⟨i - A.length - 1, by omega⟩
    rw [hj]
    simp [h2]
/-- The k-th that stands is erased. -/
theorem era_serial {l : List L5} {x : L5} {k : Nat} (h : OnceX l) (hx : (liveL l)[k]? = some x) :
    ∃ m, eraL l (dotX x) = some m ∧ liveL m = (liveL l).take k ++ (liveL l).drop (k + 1) := by
  obtain ⟨A, B, rfl, hk, hg⟩ := live_split hx
  refine ⟨_, by unfold eraL; rw [atD_split h]; rfl, ?_⟩
  show liveL ((A ++ x :: B).modify A.length markX) = _
  rw [modify_split, live_append, live_gone rfl, live_append, live_cons hg, ← hk, List.take_left]
  congr 1
  rw [List.drop_append]
  simp
theorem live_live (l : List L5) : liveL (liveL l) = liveL l := by simp [liveL]
theorem live_le (l : List L5) : (liveL l).length ≤ l.length := List.length_filter_le _ _

/-! Marks: what is new stands behind nothing that is gone. -/

/-- Nothing new right behind what is gone; g: is what stands ahead gone? -/
def OldL : Bool → List L5 → Prop
  | _, [] => True
  | g, y :: l => (g = true → y.time < 30) ∧ OldL y.gone l
/-- Is the last one gone? -/
def lastG : Bool → List L5 → Bool
  | g, [] => g
  | _, y :: l => lastG y.gone l
theorem old_append : ∀ (g : Bool) (A C : List L5), OldL g (A ++ C) ↔ OldL g A ∧ OldL (lastG g A) C
  | g, [], C => by simp [OldL, lastG]
  | g, y :: A, C => by
    show (g = true → y.time < 30) ∧ OldL y.gone (A ++ C) ↔ ((g = true → y.time < 30) ∧ OldL y.gone A) ∧ OldL (lastG y.gone A) C
    rw [old_append y.gone A C, and_assoc]
theorem last_append : ∀ (g : Bool) (A C : List L5), lastG g (A ++ C) = lastG (lastG g A) C
  | g, [], C => rfl
  | g, y :: A, C => last_append y.gone A C
theorem last_live : ∀ {P : List L5}, (∀ y ∈ P, y.gone = false) → lastG false P = false
  | [], _ => rfl
  | y :: P, h => by
    show lastG y.gone P = false
    rw [h y (by simp)]
    exact last_live fun z hz => h z (by simp [hz])
theorem old_all : ∀ {g : Bool} {l : List L5}, (∀ x ∈ l, x.time < 30) → OldL g l
  | _, [], _ => trivial
  | _, y :: l, h => ⟨fun _ => h y (by simp), old_all fun z hz => h z (by simp [hz])⟩

theorem past_gone {t n : Int} (ht : 30 ≤ t) : ∀ {B : List L5}, OldL true B → pastL t n (liveL B) = 0
  | [], _ => rfl
  | y :: B, h => by
    have hy : y.time < 30 := h.1 rfl
    cases hg : y.gone with
    | true =>
      rw [live_gone hg]
      exact past_gone ht (by have := h.2; rw [hg] at this; exact this)
    | false =>
      rw [live_cons hg]
      unfold pastL
      rw [if_neg]
      unfold lessB
      simp
      omega
/-- What is passed is not gone, and of those that are not gone the same are passed. -/
theorem past_chain {t n : Int} (ht : 30 ≤ t) : ∀ {B : List L5}, OldL false B → (∀ y ∈ B, y.gone = true → y.time < 30) → ∃ P R, B = P ++ R ∧ (∀ y ∈ P, y.gone = false) ∧ pastL t n B = P.length ∧ pastL t n (liveL B) = P.length
  | [], _, _ => ⟨[], [], rfl, by simp, rfl, rfl⟩
  | y :: B, h, hg => by
    by_cases hl : lessB t n y.time y.node = true
    · have hy : y.gone = false := by
        cases e : y.gone with
        | false => rfl
        | true =>
          have := hg y (by simp) e
          unfold lessB at hl
          simp at hl
          omega
      obtain ⟨P, R, h1, h2, h3, h4⟩ := past_chain ht (B := B) (by have := h.2; rw [hy] at this; exact this) fun z hz => hg z (by simp [hz])
      refine ⟨y :: P, R, by rw [h1]; rfl, fun z hz => ?_, ?_, ?_⟩
      · rcases List.mem_cons.1 hz with rfl | hz
        · exact hy
        · exact h2 z hz
      · rw [pastL, if_pos hl, h3]; rfl
      · rw [live_cons hy, pastL, if_pos hl, h4]; rfl
    · refine ⟨[], y :: B, rfl, by simp, by rw [pastL, if_neg hl]; rfl, ?_⟩
      cases hy : y.gone with
      | false => rw [live_cons hy, pastL, if_neg hl]; rfl
      | true =>
        rw [live_gone hy]
        exact past_gone ht (by have := h.2; rw [hy] at this; exact this)

theorem live_all {P : List L5} (h : ∀ y ∈ P, y.gone = false) : liveL P = P := by
  unfold liveL
  rw [List.filter_eq_self]
  intro y hy
  simp [h y hy]
theorem putX_three (A P R : List L5) (e : L5) : putX (A ++ (P ++ R)) (A.length + P.length) e = A ++ (P ++ e :: R) := by
  have := putX_split (A ++ P) R e
  simpa using this

/-- What the second loop keeps: with the marks and without. -/
structure Marks (l : List L5) : Prop where
  once : OnceX l
  old : OldL false l
  gone : ∀ y ∈ l, y.gone = true → y.time < 30
  zero : ∀ y ∈ l, dotX y ≠ (0, 0)

theorem marks_end {l A B : List L5} {z : L5} (H : Marks l) (hl : l = A ++ B) (hA : lastG false A = false) (hz : z.gone = false) (ht : 30 ≤ z.time) (hn : hasX l (dotX z) = false) (hz0 : dotX z ≠ (0, 0)) :
    ∃ m, putX l (A.length + pastL z.time z.node B) z = m ∧ putX (liveL l) ((liveL A).length + pastL z.time z.node (liveL B)) z = liveL m ∧ Marks m := by
  subst hl
  have ho := (old_append false A B).1 H.old
  rw [hA] at ho
  obtain ⟨P, R, rfl, h2, h3, h4⟩ := past_chain (n := z.node) ht ho.2 fun y hy => H.gone y (by simp [hy])
  have ho2 := (old_append false P R).1 ho.2
  rw [last_live h2] at ho2
  refine ⟨_, rfl, ?_, ?_, ?_, ?_, ?_⟩
  · rw [h3, h4, putX_three, live_append, live_append P R, live_all h2, putX_three, live_append, live_append P, live_cons hz, live_all h2]
  · exact once_put H.once hn
  · rw [h3, putX_three, old_append, hA, old_append, last_live h2]
    exact ⟨ho.1, ho2.1, fun h => by simp at h, by rw [hz]; exact ho2.2⟩
  · intro y hy hg
    rcases putX_mem.1 hy with hy | rfl
    · exact H.gone y hy hg
    · rw [hz] at hg; simp at hg
  · intro y hy
    rcases putX_mem.1 hy with hy | rfl
    · exact H.zero y hy
    · exact hz0
theorem last_cons {A : List L5} {x : L5} (h : x.gone = false) : lastG false (A ++ [x]) = false := by
  rw [last_append]
  exact h
/-- A new one at the begin. -/
theorem marks_first {l : List L5} {z : L5} (H : Marks l) (hz : z.gone = false) (ht : 30 ≤ z.time) (hn : hasX l (dotX z) = false) (hz0 : dotX z ≠ (0, 0)) : ∃ m, insL l z (0, 0) = some m ∧ insL (liveL l) z (0, 0) = some (liveL m) ∧ Marks m := by
  obtain ⟨m, h1, h2, h3⟩ := marks_end (A := []) (B := l) H rfl rfl hz ht hn hz0
  have h1' : putX l (0 + pastL z.time z.node l) z = m := h1
  have h2' : putX (liveL l) (0 + pastL z.time z.node (liveL l)) z = liveL m := h2
  exact ⟨m, by rw [← h1']; rfl, by rw [← h2']; rfl, h3⟩
/-- A new one behind the k-th that stands. -/
theorem marks_behind {l : List L5} {z x : L5} {k : Nat} (H : Marks l) (hx : (liveL l)[k]? = some x) (hz : z.gone = false) (ht : 30 ≤ z.time) (hn : hasX l (dotX z) = false) (hz0 : dotX z ≠ (0, 0)) : ∃ m, insL l z (dotX x) = some m ∧ insL (liveL l) z (dotX x) = some (liveL m) ∧ Marks m := by
  obtain ⟨A, B, rfl, hk, hg⟩ := live_split hx
  have hx0 : dotX x ≠ (0, 0) := H.zero x (by simp)
  obtain ⟨m, h1, h2, h3⟩ := marks_end (A := A ++ [x]) (B := B) H (by simp) (last_cons hg) hz ht hn hz0
  have hlive : liveL (A ++ x :: B) = liveL A ++ x :: liveL B := by rw [live_append, live_cons hg]
  have ho : OnceX (liveL A ++ x :: liveL B) := hlive ▸ once_live H.once
  have e1 : (A ++ x :: B).drop (A.length + 1) = B := by
    have : A ++ x :: B = (A ++ [x]) ++ B := by simp
    rw [this, show A.length + 1 = (A ++ [x]).length by simp, List.drop_left]
  have e2 : (liveL A ++ x :: liveL B).drop ((liveL A).length + 1) = liveL B := by
    have : liveL A ++ x :: liveL B = (liveL A ++ [x]) ++ liveL B := by simp
    rw [this, show (liveL A).length + 1 = (liveL A ++ [x]).length by simp, List.drop_left]
  refine ⟨m, ?_, ?_, h3⟩
  · unfold insL
    rw [behind_split H.once hx0]
    show some (putX (A ++ x :: B) (A.length + 1 + pastL z.time z.node ((A ++ x :: B).drop (A.length + 1))) z) = _
    rw [e1, ← h1]
    simp
  · rw [hlive]
    unfold insL
    rw [behind_split ho hx0]
    show some (putX (liveL A ++ x :: liveL B) ((liveL A).length + 1 + pastL z.time z.node ((liveL A ++ x :: liveL B).drop ((liveL A).length + 1))) z) = _
    rw [e2, ← h2, hlive, live_append, live_cons hg]
    simp [liveL]

/-! The first loop of marks: elements of node 0, times as their numbers. -/

/-- What the first loop keeps. -/
structure First (i : Nat) (l : List L5) : Prop where
  once : OnceX l
  mem : ∀ x ∈ l, x.node = 0 ∧ x.time = x.seq ∧ 1 ≤ x.seq ∧ x.seq ≤ i
  all : ∀ s : Nat, 1 ≤ s → s ≤ i → hasX l (0, (s : Int)) = true
  len : l.length = i
theorem first_nil : First 0 [] := ⟨List.Pairwise.nil, by simp, fun s h1 h2 => by omega, rfl⟩
theorem hasX_mark {l : List L5} {k : Nat} {d : D2} : hasX (l.modify k markX) d = hasX l d := by
  have h : ∀ l : List L5, hasX l d = (l.map dotX).any fun x => decide (x = d) := fun l => by
    unfold hasX
    rw [List.any_map]
    rfl
  rw [h, h, dots_mark]
theorem first_mark {i k : Nat} {l : List L5} (H : First i l) : First i (l.modify k markX) := by
  refine ⟨once_mark H.once, fun x hx => ?_, fun s h1 h2 => by rw [hasX_mark]; exact H.all s h1 h2, by rw [List.length_modify]; exact H.len⟩
  rcases mem_mark hx with hx | ⟨y, hy, rfl⟩
  · exact H.mem x hx
  · exact H.mem y hy
theorem first_new {i : Nat} {l : List L5} (H : First i l) : hasX l (0, ((i + 1 : Nat) : Int)) = false := by
  refine hasX_no fun x hx h => ?_
  have h1 := (H.mem x hx).2.2.2
  have h2 : x.seq = ((i + 1 : Nat) : Int) := congrArg Prod.snd h
  omega
theorem first_ins {i : Nat} {l : List L5} {v : ByteArray} (H : First i l) {r : Nat} (hr : r ≤ i) :
    ∃ m, insL l ⟨0, ((i + 1 : Nat) : Int), ((i + 1 : Nat) : Int), v, false⟩ (0, (r : Int)) = some m ∧ First (i + 1) m := by
  obtain ⟨k, hk⟩ : ∃ k, behindL l (0, (r : Int)) = some k := by
    unfold behindL
    by_cases h0 : r = 0
    · subst h0
      exact ⟨0, by simp⟩
    · rw [if_neg (by simp; omega)]
      have := H.all r (by omega) hr
      rw [← atD_iff] at this
      obtain ⟨j, hj⟩ := Option.isSome_iff_exists.1 this
      exact ⟨j + 1, by rw [hj]; rfl⟩
  obtain ⟨m, hi⟩ : ∃ m, insL l ⟨0, ((i + 1 : Nat) : Int), ((i + 1 : Nat) : Int), v, false⟩ (0, (r : Int)) = some m := ⟨_, by unfold insL; rw [hk]; rfl⟩
  refine ⟨m, hi, once_ins hi H.once (first_new H), fun x hx => ?_, fun s h1 h2 => ?_, by rw [insL_len hi, H.len]⟩
  · rcases (insL_mem hi).1 hx with hx | rfl
    · have := H.mem x hx
      exact ⟨this.1, this.2.1, this.2.2.1, by have := this.2.2.2; omega⟩
    · exact ⟨rfl, rfl, by show (1 : Int) ≤ ((i + 1 : Nat) : Int); omega, by show ((i + 1 : Nat) : Int) ≤ ((i + 1 : Nat) : Int); omega⟩
  · by_cases h : s = i + 1
    · subst h
      exact hasX_iff.2 ⟨_, (insL_mem hi).2 (Or.inr rfl), rfl⟩
    · obtain ⟨x, hx, h3⟩ := hasX_iff.1 (H.all s h1 (by omega))
      exact hasX_iff.2 ⟨x, (insL_mem hi).2 (Or.inl hx), h3⟩
theorem first_marks {i : Nat} {l : List L5} (H : First i l) (hi : i ≤ 20) : Marks l :=
  ⟨H.once, old_all fun x hx => by have := H.mem x hx; omega, fun y hy _ => by have := H.mem y hy; omega, fun y hy h => by
    have := H.mem y hy
    have h2 : y.seq = 0 := congrArg Prod.snd h
    omega⟩
/-- Erasing at the zero dot: there is none. -/
theorem first_zero {i : Nat} {l : List L5} (H : First i l) : eraL l (0, 0) = none := by
  have : hasX l (0, 0) = false := hasX_no fun x hx h => by
    have := (H.mem x hx).2.2.1
    have h2 : x.seq = 0 := congrArg Prod.snd h
    omega
  rw [← atD_iff] at this
  unfold eraL
  rw [Option.isSome_eq_false_iff, Option.isNone_iff_eq_none] at this
  rw [this]
  rfl
theorem first_era {i r : Nat} {l : List L5} (H : First i l) (h1 : 1 ≤ r) (hr : r ≤ i) : ∃ m, eraL l (0, (r : Int)) = some m ∧ First i m := by
  have := H.all r h1 hr
  rw [← atD_iff] at this
  obtain ⟨j, hj⟩ := Option.isSome_iff_exists.1 this
  exact ⟨_, by unfold eraL; rw [hj]; rfl, first_mark H⟩

/-! Many at the begin, at one time. -/

/-- Those of ns, by f. -/
def ofN (f : Nat → ByteArray) (n : Nat) : L5 := ⟨(n : Int), 1, 1, f n, false⟩
def DescN (ns : List Nat) : Prop := ns.Pairwise (· > ·)
/-- n put among them. -/
def insN (n : Nat) : List Nat → List Nat
  | [] => [n]
  | m :: ns => if n < m then m :: insN n ns else n :: m :: ns
theorem insN_mem {n x : Nat} : ∀ {ns : List Nat}, x ∈ insN n ns ↔ x ∈ ns ∨ x = n
  | [] => by simp [insN]
  | m :: ns => by
    unfold insN
    split
    · rw [List.mem_cons, insN_mem, List.mem_cons, or_assoc]
    · rw [List.mem_cons]
      exact Or.comm
theorem insN_desc {n : Nat} : ∀ {ns : List Nat}, DescN ns → n ∉ ns → DescN (insN n ns)
  | [], _, _ => List.pairwise_singleton _ _
  | m :: ns, h, hn => by
    obtain ⟨h1, h2⟩ := List.pairwise_cons.1 h
    unfold insN
    split
    · rename_i hlt
      refine List.pairwise_cons.2 ⟨fun x hx => ?_, insN_desc h2 fun hx => hn (by simp [hx])⟩
      rcases insN_mem.1 hx with hx | rfl
      · exact h1 x hx
      · exact hlt
    · rename_i hlt
      have hne : n ≠ m := fun e => hn (by simp [e])
      refine List.pairwise_cons.2 ⟨fun x hx => ?_, h⟩
      rcases List.mem_cons.1 hx with rfl | hx
      · show n > x; omega
      · have := h1 x hx
        show n > x
        omega
theorem insN_len (n : Nat) (ns : List Nat) : (insN n ns).length = ns.length + 1 := by
  induction ns with
  | nil => rfl
  | cons m ns ih =>
    unfold insN
    split <;> simp [ih]
theorem ins_many (f : Nat → ByteArray) (n : Nat) (ns : List Nat) : insL (ns.map (ofN f)) (ofN f n) (0, 0) = some ((insN n ns).map (ofN f)) := by
  unfold insL
  rw [show behindL (ns.map (ofN f)) (0, 0) = some 0 by simp [behindL]]
  show some (putX (ns.map (ofN f)) (0 + pastL 1 (n : Int) ((ns.map (ofN f)).drop 0)) (ofN f n)) = _
  congr 1
  rw [Nat.zero_add, List.drop_zero]
  induction ns with
  | nil => rfl
  | cons m ns ih =>
    rw [List.map_cons]
    unfold pastL insN
    by_cases h : n < m
    · rw [if_pos h, if_pos (by unfold lessB ofN; simp; exact h), List.map_cons, ← ih]
      rfl
    · rw [if_neg h, if_neg (by unfold lessB ofN; simp; omega)]
      rfl
theorem desc_one : ∀ {a b : List Nat}, DescN a → DescN b → (∀ x, x ∈ a ↔ x ∈ b) → a = b
  | [], [], _, _, _ => rfl
  | [], y :: m, _, _, h => by have := (h y).2 (by simp); simp at this
  | x :: l, [], _, _, h => by have := (h x).1 (by simp); simp at this
  | x :: l, y :: m, hl, hm, h => by
    obtain ⟨hl1, hl2⟩ := List.pairwise_cons.1 hl
    obtain ⟨hm1, hm2⟩ := List.pairwise_cons.1 hm
    have e : x = y := by
      rcases List.mem_cons.1 ((h x).1 (by simp)) with h1 | h1
      · exact h1
      · rcases List.mem_cons.1 ((h y).2 (by simp)) with h2 | h2
        · exact h2.symm
        · have := hl1 y h2
          have := hm1 x h1
          omega
    subst e
    rw [desc_one hl2 hm2 fun z => ⟨fun hz => ?_, fun hz => ?_⟩]
    · rcases List.mem_cons.1 ((h z).1 (List.mem_cons_of_mem _ hz)) with h1 | h1
      · have := hl1 z hz
        omega
      · exact h1
    · rcases List.mem_cons.1 ((h z).2 (List.mem_cons_of_mem _ hz)) with h1 | h1
      · have := hm1 z hz
        omega
      · exact h1
/-- From the greatest down. -/
def downN : Nat → List Nat
  | 0 => []
  | k + 1 => k :: downN k
theorem downN_mem (k x : Nat) : x ∈ downN k ↔ x < k := by
  induction k with
  | zero => simp [downN]
  | succ k ih => rw [downN, List.mem_cons, ih]; omega
theorem downN_desc (k : Nat) : DescN (downN k) := by
  induction k with
  | zero => exact List.Pairwise.nil
  | succ k ih => exact List.pairwise_cons.2 ⟨fun x hx => (downN_mem k x).1 hx, ih⟩
theorem downN_at (k i : Nat) (h : i < k) : (downN k)[i]? = some (k - 1 - i) := by
  induction k generalizing i with
  | zero => omega
  | succ k ih =>
    cases i with
    | zero => simp [downN]
    | succ i =>
      rw [downN, List.getElem?_cons_succ, ih i (by omega)]
      congr 1
      omega
theorem downN_len (k : Nat) : (downN k).length = k := by
  induction k with
  | zero => rfl
  | succ k ih => simp [downN, ih]

/-- What is left, and what is put. -/
structure Many (k : Nat) (left ns : List Nat) : Prop where
  desc : DescN ns
  once : left.Pairwise (· ≠ ·)
  part : ∀ x, x < k ↔ (x ∈ ns ∨ x ∈ left)
  apart : ∀ x, x ∈ ns → x ∉ left
theorem many_start (k : Nat) : Many k (List.range k) [] := ⟨List.Pairwise.nil, List.nodup_range, fun x => by simp, fun x hx => by simp at hx⟩
theorem many_step {k a x : Nat} {left ns : List Nat} (H : Many k left ns) (hx : left[a]? = some x) : x < k ∧ x ∉ ns ∧ Many k (left.take a ++ left.drop (a + 1)) (insN x ns) := by
  have hm := List.mem_of_getElem? hx
  have hn : x ∉ ns := fun h => H.apart x h hm
  have ha := (List.getElem?_eq_some_iff.1 hx).1
  have hs : left = left.take a ++ x :: left.drop (a + 1) := by
    have e : left.drop a = x :: left.drop (a + 1) := by
      rw [List.drop_eq_getElem_cons ha, (List.getElem?_eq_some_iff.1 hx).2]
    rw [← e, List.take_append_drop]
  have ho := H.once
  rw [hs, List.pairwise_append] at ho
  obtain ⟨o1, o2, o3⟩ := ho
  obtain ⟨o4, o5⟩ := List.pairwise_cons.1 o2
  have hmem : ∀ y, y ∈ left ↔ y ∈ left.take a ++ left.drop (a + 1) ∨ y = x := fun y => by
    constructor
    · intro h
      rw [hs] at h
      rcases List.mem_append.1 h with h | h
      · exact Or.inl (List.mem_append.2 (Or.inl h))
      · rcases List.mem_cons.1 h with h | h
        · exact Or.inr h
        · exact Or.inl (List.mem_append.2 (Or.inr h))
    · rintro (h | rfl)
      · rcases List.mem_append.1 h with h | h
        · exact List.mem_of_mem_take h
        · exact List.mem_of_mem_drop h
      · exact hm
  have hno : x ∉ left.take a ++ left.drop (a + 1) := fun h => by
    rcases List.mem_append.1 h with h | h
    · exact o3 x h x (by simp) rfl
    · exact o4 x h rfl
  refine ⟨(H.part x).2 (Or.inr hm), hn, insN_desc H.desc hn, List.pairwise_append.2 ⟨o1, o5, fun y hy z hz => o3 y hy z (by simp [hz])⟩, fun y => ?_, fun y hy h => ?_⟩
  · rw [H.part y, hmem y, insN_mem]
    constructor
    · rintro (h | h | h)
      · exact Or.inl (Or.inl h)
      · exact Or.inr h
      · exact Or.inl (Or.inr h)
    · rintro ((h | h) | h)
      · exact Or.inl h
      · exact Or.inr (Or.inr h)
      · exact Or.inr (Or.inl h)
  · rcases insN_mem.1 hy with hy | rfl
    · exact H.apart y hy ((hmem y).2 (Or.inl h))
    · exact hno h
theorem many_end {k : Nat} {ns : List Nat} (H : Many k [] ns) : ns = downN k := desc_one H.desc (downN_desc k) fun x => by
  rw [downN_mem, H.part x]
  simp

/-! Two that write at one time. -/

/-- The writes of a node: the i-th, as many. -/
def runL (v : ByteArray) (node : Int) : Nat → Nat → D2 → List L5 → Option (List L5)
  | 0, _, _, l => some l
  | m + 1, i, d, l =>
    let e : L5 := ⟨node, (i : Int), 3 + (i : Int), v, false⟩
    if okX l e = true then
      match insL l e d with
      | none => none
      | some l' => runL v node m (i + 1) (node, (i : Int)) l'
    else none
def eqX (a b : L5) : Bool := decide (a.node = b.node) && (decide (a.seq = b.seq) && (decide (a.time = b.time) && (decide (a.val.data.toList = b.val.data.toList) && decide (a.gone = b.gone))))
theorem eqX_eq {a b : L5} (h : eqX a b = true) : a = b := by
  obtain ⟨a1, a2, a3, a4, a5⟩ := a
  obtain ⟨b1, b2, b3, b4, b5⟩ := b
  unfold eqX at h
  simp only [Bool.and_eq_true, decide_eq_true_eq] at h
  obtain ⟨rfl, rfl, rfl, h, rfl⟩ := h
  have : a4 = b4 := by
    apply ByteArray.ext
    simpa using h
  rw [this]
def eqXs : List L5 → List L5 → Bool
  | [], [] => true
  | a :: l, b :: m => eqX a b && eqXs l m
  | _, _ => false
theorem eqXs_eq : ∀ {l m : List L5}, eqXs l m = true → l = m
  | [], [], _ => rfl
  | [], _ :: _, h => by simp [eqXs] at h
  | _ :: _, [], h => by simp [eqXs] at h
  | a :: l, b :: m, h => by
    unfold eqXs at h
    simp only [Bool.and_eq_true] at h
    rw [eqX_eq h.1, eqXs_eq h.2]
abbrev cX : ByteArray := ⟨#[120]⟩
abbrev c0 : ByteArray := ⟨#[48]⟩
abbrev c1 : ByteArray := ⟨#[49]⟩
/-- Three of node 2. -/
def base3 : List L5 := [⟨2, 1, 1, cX, false⟩, ⟨2, 2, 2, cX, false⟩, ⟨2, 3, 3, cX, false⟩]
def refN (a : Nat) : D2 := if a = 0 then (0, 0) else (2, (a : Int))
/-- What they are, all texts one behind the other. -/
def joinX (l : List L5) : List UInt8 := (valsX l).flatMap fun v => v.data.toList
def wantX (a j k : Nat) : List UInt8 := List.replicate a 120 ++ (List.replicate k 49 ++ (List.replicate j 48 ++ List.replicate (3 - a) 120))
def twoB (a j k : Nat) : Bool :=
  match runL c0 0 j 1 (refN a) base3, runL c1 1 k 1 (refN a) base3 with
  | some x, some z =>
    match runL c1 1 k 1 (refN a) x, runL c0 0 j 1 (refN a) z with
    | some y, some w => eqXs y w && decide (joinX y = wantX a j k)
    | _, _ => false
  | _, _ => false
theorem two_all : ∀ a j k : Nat, a < 4 → j < 4 → k < 4 → twoB a (1 + j) (1 + k) = true := by
  have h : ∀ a j k : Fin 4, twoB a.val (1 + j.val) (1 + k.val) = true := by decide +kernel
  exact fun a j k h1 h2 h3 => h ⟨a, h1⟩ ⟨j, h2⟩ ⟨k, h3⟩
theorem two_yes (a j k : Nat) (h1 : a < 4) (h2 : j < 4) (h3 : k < 4) : ∃ x y z, runL c0 0 (1 + j) 1 (refN a) base3 = some x ∧ runL c1 1 (1 + k) 1 (refN a) x = some y ∧ runL c1 1 (1 + k) 1 (refN a) base3 = some z ∧ runL c0 0 (1 + j) 1 (refN a) z = some y ∧ joinX y = wantX a (1 + j) (1 + k) := by
  have h := two_all a j k h1 h2 h3
  unfold twoB at h
  cases ex : runL c0 0 (1 + j) 1 (refN a) base3 with
  | none => rw [ex] at h; simp at h
  | some x =>
    cases ez : runL c1 1 (1 + k) 1 (refN a) base3 with
    | none => rw [ex, ez] at h; simp at h
    | some z =>
      rw [ex, ez] at h
      simp only at h
      cases ey : runL c1 1 (1 + k) 1 (refN a) x with
      | none => rw [ey] at h; simp at h
      | some y =>
        cases ew : runL c0 0 (1 + j) 1 (refN a) z with
        | none => rw [ey, ew] at h; simp at h
        | some w =>
          rw [ey, ew] at h
          simp only [Bool.and_eq_true, decide_eq_true_eq] at h
          have := eqXs_eq h.1
          subst this
          exact ⟨x, y, z, rfl, ey, rfl, ew, h.2⟩

/-! One alone, held against a plain row. -/

structure Serial (i : Nat) (l : List L5) (row : List ByteArray) : Prop where
  once : OnceX l
  mem : ∀ x ∈ l, x.node = 0 ∧ x.time = x.seq ∧ 1 ≤ x.seq ∧ x.seq ≤ i
  row : valsX l = row
  len : l.length ≤ i
theorem serial_nil : Serial 0 [] [] := ⟨List.Pairwise.nil, by simp, rfl, by simp⟩
theorem Serial.live {i : Nat} {l : List L5} {row : List ByteArray} (H : Serial i l row) : (liveL l).length = row.length := by
  rw [← H.row]
  unfold valsX
  rw [List.length_map]
theorem serial_new {i : Nat} {l : List L5} {row : List ByteArray} (H : Serial i l row) : hasX l (0, ((i + 1 : Nat) : Int)) = false := by
  refine hasX_no fun x hx h => ?_
  have h1 := (H.mem x hx).2.2.2
  have h2 : x.seq = ((i + 1 : Nat) : Int) := congrArg Prod.snd h
  omega
theorem serial_more {i : Nat} {l : List L5} {row : List ByteArray} (H : Serial i l row) {v : ByteArray} {d : D2} {m : List L5} {row' : List ByteArray} (hi : insL l ⟨0, ((i + 1 : Nat) : Int), ((i + 1 : Nat) : Int), v, false⟩ d = some m) (hr : valsX m = row') : Serial (i + 1) m row' := by
  refine ⟨once_ins hi H.once (serial_new H), fun x hx => ?_, hr, by rw [insL_len hi]; have := H.len; omega⟩
  rcases (insL_mem hi).1 hx with hx | rfl
  · have := H.mem x hx
    exact ⟨this.1, this.2.1, this.2.2.1, by have := this.2.2.2; omega⟩
  · exact ⟨rfl, rfl, by show (1 : Int) ≤ ((i + 1 : Nat) : Int); omega, by show ((i + 1 : Nat) : Int) ≤ ((i + 1 : Nat) : Int); omega⟩
theorem serial_times {i : Nat} {l : List L5} {row : List ByteArray} (H : Serial i l row) (v : ByteArray) : ∀ x ∈ l, x.time < (⟨0, ((i + 1 : Nat) : Int), ((i + 1 : Nat) : Int), v, false⟩ : L5).time := fun x hx => by
  have := H.mem x hx
  show x.time < ((i + 1 : Nat) : Int)
  omega
theorem serial_first {i : Nat} {l : List L5} {row : List ByteArray} (H : Serial i l row) (v : ByteArray) : ∃ m, insL l ⟨0, ((i + 1 : Nat) : Int), ((i + 1 : Nat) : Int), v, false⟩ (0, 0) = some m ∧ Serial (i + 1) m (v :: row) := by
  obtain ⟨m, h1, h2⟩ := ins_serial0 (e := ⟨0, ((i + 1 : Nat) : Int), ((i + 1 : Nat) : Int), v, false⟩) (serial_times H v) rfl
  exact ⟨m, h1, serial_more H h1 (by unfold valsX; rw [h2, ← H.row]; rfl)⟩
theorem serial_behind {i k : Nat} {l : List L5} {row : List ByteArray} (H : Serial i l row) (v : ByteArray) (hk : k < row.length) : ∃ d m, atX l k = some d ∧ insL l ⟨0, ((i + 1 : Nat) : Int), ((i + 1 : Nat) : Int), v, false⟩ d = some m ∧ Serial (i + 1) m (row.take (k + 1) ++ v :: row.drop (k + 1)) := by
  obtain ⟨x, hx⟩ : ∃ x, (liveL l)[k]? = some x := ⟨_, List.getElem?_eq_getElem (by rw [H.live]; exact hk)⟩
  have hm : x ∈ l := (List.mem_filter.1 (List.mem_of_getElem? hx)).1
  have hz : dotX x ≠ (0, 0) := fun h => by
    have := (H.mem x hm).2.2.1
    have h2 : x.seq = 0 := congrArg Prod.snd h
    omega
  obtain ⟨m, h1, h2⟩ := ins_serial (e := ⟨0, ((i + 1 : Nat) : Int), ((i + 1 : Nat) : Int), v, false⟩) H.once hx hz (serial_times H v) rfl
  refine ⟨dotX x, m, by unfold atX; rw [hx]; rfl, h1, serial_more H h1 ?_⟩
  unfold valsX
  rw [h2, List.map_append, List.map_cons, List.map_take, List.map_drop]
  have : (liveL l).map (·.val) = row := H.row
  rw [this]
theorem serial_era {i k : Nat} {l : List L5} {row : List ByteArray} (H : Serial i l row) (hk : k < row.length) : ∃ d m, atX l k = some d ∧ eraL l d = some m ∧ Serial (i + 1) m (row.take k ++ row.drop (k + 1)) := by
  obtain ⟨x, hx⟩ : ∃ x, (liveL l)[k]? = some x := ⟨_, List.getElem?_eq_getElem (by rw [H.live]; exact hk)⟩
  obtain ⟨m, h1, h2⟩ := era_serial H.once hx
  refine ⟨dotX x, m, by unfold atX; rw [hx]; rfl, h1, ?_⟩
  have h1' := h1
  unfold eraL at h1'
  obtain ⟨j, hj, rfl⟩ := Option.map_eq_some_iff.1 h1'
  refine ⟨once_mark H.once, fun y hy => ?_, ?_, by rw [List.length_modify]; have := H.len; omega⟩
  · rcases mem_mark hy with hy | ⟨z, hz, rfl⟩
    · have := H.mem y hy
      exact ⟨this.1, this.2.1, this.2.2.1, by have := this.2.2.2; omega⟩
    · have := H.mem z hz
      exact ⟨this.1, this.2.1, this.2.2.1, by show z.seq ≤ ((i + 1 : Nat) : Int); have := this.2.2.2; omega⟩
  · unfold valsX
    rw [h2, List.map_append, List.map_take, List.map_drop]
    have : (liveL l).map (·.val) = row := H.row
    rw [this]

/-! Not many, no long texts. -/

def SmallX (l : List L5) : Prop := l.length ≤ 64 ∧ ∀ x ∈ l, x.val.size ≤ 256
theorem smallX_nil : SmallX [] := ⟨by simp, by simp⟩
theorem smallX_ins {l m : List L5} {e : L5} {d : D2} (h : SmallX l) (hl : l.length < 64) (he : e.val.size ≤ 256) (hi : insL l e d = some m) : SmallX m := by
  refine ⟨by rw [insL_len hi]; omega, fun x hx => ?_⟩
  rcases (insL_mem hi).1 hx with hx | rfl
  · exact h.2 x hx
  · exact he
theorem smallX_era {l m : List L5} {d : D2} (h : SmallX l) (hi : eraL l d = some m) : SmallX m := by
  unfold eraL at hi
  obtain ⟨j, hj, rfl⟩ := Option.map_eq_some_iff.1 hi
  refine ⟨by rw [List.length_modify]; exact h.1, fun x hx => ?_⟩
  rcases mem_mark hx with hx | ⟨y, hy, rfl⟩
  · exact h.2 x hx
  · show ByteArray.empty.size ≤ 256
    decide
theorem smallX_live {l : List L5} (h : SmallX l) : SmallX (liveL l) := ⟨Nat.le_trans (live_le l) h.1, fun x hx => h.2 x (List.mem_filter.1 hx).1⟩

end Go.Proofs.YtgkddimijmnpcaaGreatDoor

/-
  Looking through a row of elements: slices.IndexFunc at a predicate; package rga's indexOf, behind, placeOf, mayCome.
-/
namespace Go.Proofs.YtgkddimijmnpcaaGreatDoor
open Go.RowKit Go.Shelf
set_option linter.unusedVariables false
set_option linter.unusedSimpArgs false

abbrev lv (x : L5) : Value := .agg #[.int .i64 x.node, .int .i64 x.seq, .int .i64 x.time, .string x.val, .bool x.gone]

/-- What a predicate answers wherever all that lay below B lies still. -/
def PredL (B : Nat) (w : World) (g : Nat) (lb : Array Value) (p : L5 → Bool) : Prop :=
  ∀ (W : World) (x : L5), Below B w W → B ≤ W.heap.size → Calls Tryz.prog g (#[lv x] ++ lb) W fun e w' => e = .returned (.bool (p x)) ∧ Below W.heap.size W w'

/-- The first place at which p holds; -1: there is none. -/
def PlaceL (p : L5 → Bool) (l : List L5) (r : Int) : Prop :=
  (r = -1 ∧ ∀ (j : Nat) x, l[j]? = some x → p x = false) ∨ ∃ i : Nat, r = (i : Int) ∧ i < l.length ∧ (∃ x, l[i]? = some x ∧ p x = true) ∧ ∀ (j : Nat) x, j < i → l[j]? = some x → p x = false

set_option maxHeartbeats 1000000 in
set_option maxRecDepth 100000 in
theorem indexL_any (p : L5 → Bool) (g : Nat) (lb : Array Value) (eg : ∀ args w, (callFunc g args).run Tryz.prog w = .ok (.enter g args) w) (B : Nat) (ao : Option Addr) (ca : Nat) (l : List L5) (w : World) (hr : FRow w ao (flatL l)) (hl : l.length ≤ maxLen) (hB : B ≤ w.heap.size) (hp : PredL B w g lb p) :
    Calls Tryz.prog 147 #[.slice ao l.length ca, .func (.func g) #[] lb] w fun e w' => ∃ r : Int, e = .returned (.int .i64 r) ∧ PlaceL p l r ∧ Below w.heap.size w w' := by
  have HR : Hid (FRow w ao (flatL l) ∧ PredL B w g lb p ∧ B ≤ w.heap.size) := ⟨hr, hp, hB⟩
  clear hr hp hB
  unfold maxLen at hl
  go_enter Tryz.func147, Tryz.ntmps147
  go_wp2
  go_loopg [5, 8] l.length (fun n _ iv wr => ∃ i : Nat, i + n = l.length ∧ iv = .int .i64 i ∧ Below w.heap.size w wr ∧ Hid (∀ (j : Nat) x, j < i → l[j]? = some x → p x = false))
  case atStart => exact ⟨0, by omega, rfl, Below.refl _ _, fun j x hj => by omega⟩
  case round =>
    obtain ⟨i, hin, rfl, hbel, HA⟩ := hrel
    by_cases hi : i < l.length
    · obtain ⟨bk, off, rfl, hb, hc⟩ := HR.out.1 (by rw [flatL_len]; omega)
      obtain ⟨x, hx⟩ : ∃ x, l[i]? = some x := ⟨_, List.getElem?_eq_getElem hi⟩
      obtain ⟨g0, g1, g2, g3, g4⟩ := flatL_at l i hx
      have k0 := (hbel.cell (p := ⟨bk, off + i * 5, none⟩) (by exact hb)).trans (hc _ _ g0)
      have k1 := (hbel.cell (p := ⟨bk, off + i * 5 + 1, none⟩) (by exact hb)).trans (hc _ _ g1)
      have k2 := (hbel.cell (p := ⟨bk, off + i * 5 + 2, none⟩) (by exact hb)).trans (hc _ _ g2)
      have k3 := (hbel.cell (p := ⟨bk, off + i * 5 + 3, none⟩) (by exact hb)).trans (hc _ _ g3)
      have k4 := (hbel.cell (p := ⟨bk, off + i * 5 + 4, none⟩) (by exact hb)).trans (hc _ _ g4)
      have C := HR.out.2.1 wr x (hbel.mono HR.out.2.2) (Nat.le_trans HR.out.2.2 hbel.size)
      have HX : Hid (l[i]? = some x) := hx
      have HBel : Hid (Below w.heap.size w wr) := hbel
      clear hc hx g0 g1 g2 g3 g4 hbel
      cases hq : p x with
      | true =>
        rw [hq] at C
        have HQ : Hid (p x = true) := hq
        clear hq
        go_wp2_with (go_at_fn g; refine C.mono ?_; rintro e w1 ⟨rfl, b1⟩)
        go_ret
        exact ⟨_, rfl, Or.inr ⟨i, rfl, hi, ⟨x, HX.out, HQ.out⟩, HA.out⟩, thenB HBel.out b1⟩
      | false =>
        rw [hq] at C
        have HQ : Hid (p x = false) := hq
        clear hq
        go_wp2_with (go_at_fn g; refine C.mono ?_; rintro e w1 ⟨rfl, b1⟩)
        go_roundg (gk - 1)
        case measure => omega
        case rel =>
          refine ⟨i + 1, by omega, by go_num, thenB HBel.out b1, fun j y hj hy => ?_⟩
          by_cases e : j = i
          · subst e
            have := HX.out.symm.trans hy
            simp only [Option.some.injEq] at this
            subst this
            exact HQ.out
          · exact HA.out j y (by omega) hy
    · have hd : decide ((i : Int) < (l.length : Int)) = false := by simp; omega
      go_wp2
      go_ret
      exact ⟨-1, rfl, Or.inl ⟨rfl, fun j x hx => HA.out j x (by have := (List.getElem?_eq_some_iff.1 hx).1; omega) hx⟩, hbel⟩

theorem placeL_any {p : L5 → Bool} {l : List L5} {r : Int} (h : PlaceL p l r) : decide (0 ≤ r) = l.any p := by
  rcases h with ⟨rfl, h⟩ | ⟨i, rfl, hi, ⟨x, hx, hp⟩, _⟩
  · have : l.any p = false := by
      rw [List.any_eq_false]
      intro x hx
      obtain ⟨j, hj⟩ := List.getElem?_of_mem hx
      simp [h j x hj]
    rw [this]; decide
  · have : l.any p = true := List.any_eq_true.2 ⟨x, List.mem_of_getElem? hx, hp⟩
    rw [this]
    simp


/-- The place of that dot's element; -1: there is none. -/
def numD (l : List L5) (d : D2) : Int := match atD l d with
  | some k => (k : Int)
  | none => -1
theorem numD_ge (l : List L5) (d : D2) : decide (0 ≤ numD l d) = hasX l d := by
  rw [← atD_iff]
  unfold numD
  cases atD l d with
  | none => rfl
  | some k => simp
theorem numD_none {l : List L5} {d : D2} (h : atD l d = none) : numD l d = -1 := by unfold numD; rw [h]
theorem numD_some {l : List L5} {d : D2} {k : Nat} (h : atD l d = some k) : numD l d = (k : Int) := by unfold numD; rw [h]
theorem atD_at : ∀ {l : List L5} {d : D2} {k : Nat} {x : L5}, l[k]? = some x → dotX x = d → (∀ (j : Nat) y, j < k → l[j]? = some y → dotX y ≠ d) → atD l d = some k
  | [], d, k, x, h, _, _ => by simp at h
  | a :: l, d, 0, x, h, hx, _ => by
    simp only [List.getElem?_cons_zero, Option.some.injEq] at h
    subst h
    unfold atD
    rw [if_pos hx]
  | a :: l, d, k + 1, x, h, hx, ha => by
    unfold atD
    rw [if_neg (ha 0 a (by omega) rfl), atD_at (l := l) (k := k) (by simpa using h) hx fun j y hj hy => ha (j + 1) y (by omega) (by simpa using hy)]
    rfl
theorem atD_no : ∀ {l : List L5} {d : D2}, (∀ (j : Nat) y, l[j]? = some y → dotX y ≠ d) → atD l d = none
  | [], d, _ => rfl
  | a :: l, d, ha => by
    unfold atD
    rw [if_neg (ha 0 a rfl), atD_no fun j y hy => ha (j + 1) y (by simpa using hy)]
    rfl
theorem place_num {l : List L5} {d : D2} {r : Int} (h : PlaceL (fun x => decide (dotX x = d)) l r) : r = numD l d := by
  rcases h with ⟨rfl, h⟩ | ⟨i, rfl, hi, ⟨x, hx, hp⟩, h⟩
  · rw [numD_none (atD_no fun j y hy => by simpa using h j y hy)]
  · rw [numD_some (atD_at hx (by simpa using hp) fun j y hj hy => by simpa using h j y hj hy)]

/-- The closure of indexOf: is it that dot? -/
theorem isDot_any (d : D2) (k : Nat) (W : World) (x : L5) (h0 : W.cell? ⟨k, 0, none⟩ = some (.int .i64 d.1)) (h1 : W.cell? ⟨k, 1, none⟩ = some (.int .i64 d.2)) (hk : k < W.heap.size) :
    Calls Tryz.prog 148 #[lv x, .pointer (some ⟨k, 0, none⟩)] W fun e w' => e = .returned (.bool (decide (dotX x = d))) ∧ Below W.heap.size W w' := by
  have hne : k ≠ W.heap.size := by omega
  obtain ⟨d1, d2⟩ := d
  go_enter Tryz.func148, Tryz.ntmps148
  go_wp2
  all_goals (go_ret; exact ⟨ret_bool (by first | rfl | simp_all | (rw [Bool.eq_iff_iff]; simp_all)), (Below.refl _ _).alloc (Nat.le_refl _) _⟩)

theorem enters_isDot : ∀ args w, (callFunc 148 args).run Tryz.prog w = .ok (.enter 148 args) w := enters_of Tryz.func148 (by kernel_rfl) rfl

set_option maxHeartbeats 1000000 in
set_option maxRecDepth 100000 in
theorem indexOf_any (d : D2) (ao : Option Addr) (ca : Nat) (l : List L5) (w : World) (hr : FRow w ao (flatL l)) (hl : l.length ≤ maxLen) :
    Calls Tryz.prog 113 #[.slice ao l.length ca, dv d] w fun e w' => e = .returned (.int .i64 (numD l d)) ∧ Below w.heap.size w w' := by
  have H0 : Has (w.alloc (.cells #[.int .i64 d.1, .int .i64 d.2] 32)) w.heap.size [.int .i64 d.1, .int .i64 d.2] := has_new w [.int .i64 d.1, .int .i64 d.2] _
  have hal : Below w.heap.size w (w.alloc (.cells #[.int .i64 d.1, .int .i64 d.2] 32)) := (Below.refl _ _).alloc (Nat.le_refl _) _
  have C := indexL_any (fun x => decide (dotX x = d)) 148 #[.pointer (some ⟨w.heap.size, 0, none⟩)] enters_isDot (w.heap.size + 1) ao ca l (w.alloc (.cells #[.int .i64 d.1, .int .i64 d.2] 32)) (hr.later hal) hl (by simp) (fun W x hW hs => by
    have H1 := H0.under (by omega) hW
    exact isDot_any d w.heap.size W x (H1.at 0 rfl) (H1.at 1 rfl) (by omega))
  clear hr hl
  go_enter Tryz.func113, Tryz.ntmps113
  go_wp2_with fail
  refine C.mono ?_
  rintro e w1 ⟨r, rfl, hp, b1⟩
  have hr := place_num hp
  subst hr
  clear hp C
  go_wp2
  go_ret
  exact ⟨rfl, thenB hal b1⟩

/-- The place right behind, or the first one. -/
def behindN (l : List L5) (d : D2) : Nat := (behindL l d).getD 0
theorem behindL_zero (l : List L5) : behindL l (0, 0) = some 0 := by simp [behindL]
theorem behindL_else {l : List L5} {d : D2} (h : d ≠ (0, 0)) : behindL l d = (atD l d).map (· + 1) := by unfold behindL; rw [if_neg h]

set_option maxHeartbeats 1000000 in
set_option maxRecDepth 100000 in
theorem behind_any (d : D2) (ao : Option Addr) (ca : Nat) (l : List L5) (w : World) (hr : FRow w ao (flatL l)) (hl : l.length ≤ maxLen) :
    Calls Tryz.prog 114 #[.slice ao l.length ca, dv d] w fun e w' => e = .returned (.tuple #[.int .i64 (behindN l d : Nat), .bool (behindL l d).isSome]) ∧ Below w.heap.size w w' := by
  have hal : Below w.heap.size w (w.alloc (.cells #[.int .i64 d.1, .int .i64 d.2] 32)) := (Below.refl _ _).alloc (Nat.le_refl _) _
  obtain ⟨d1, d2⟩ := d
  by_cases h0 : d1 = 0 ∧ d2 = 0
  · obtain ⟨rfl, rfl⟩ := h0
    unfold behindN
    rw [behindL_zero]
    clear hr hl
    go_enter Tryz.func114, Tryz.ntmps114
    go_wp2
    go_ret2
    exact ⟨rfl, hal⟩
  · have C := indexOf_any (d1, d2) ao ca l _ (hr.later hal) hl
    unfold behindN
    rw [behindL_else (fun e => h0 (by simpa using e))]
    have hlen := hl
    unfold maxLen at hlen
    have hlt : ∀ k, atD l (d1, d2) = some k → k < l.length := fun k => atD_lt
    clear hr hl
    unfold numD at C
    by_cases h1 : d1 = 0
    · have e1 : (d1 == 0) = true := by simpa using h1
      have e2 : (d2 == 0) = false := by simpa using fun e => h0 ⟨h1, e⟩
      clear h0 h1
      cases ha : atD l (d1, d2) with
      | none =>
        rw [ha] at C
        clear hlt ha
        go_enter Tryz.func114, Tryz.ntmps114
        go_wp2_with fail
        refine C.mono ?_
        rintro e w1 ⟨rfl, b1⟩
        go_wp2
        go_ret2
        exact ⟨rfl, thenB hal b1⟩
      | some k =>
        rw [ha] at C
        have hk := hlt k ha
        have hw : IntKind.i64.wrap ((k : Int) + 1) = ((k + 1 : Nat) : Int) := by rw [IntKind.wrap_i64]; omega
        have hge : decide ((0 : Int) ≤ (k : Int)) = true := by simp
        clear hlt ha
        go_enter Tryz.func114, Tryz.ntmps114
        go_wp2_with fail
        refine C.mono ?_
        rintro e w1 ⟨rfl, b1⟩
        go_wp2
        go_ret2
        exact ⟨by simp, thenB hal b1⟩
    · have e1 : (d1 == 0) = false := by simpa using h1
      clear h0 h1
      cases ha : atD l (d1, d2) with
      | none =>
        rw [ha] at C
        clear hlt ha
        go_enter Tryz.func114, Tryz.ntmps114
        go_wp2_with fail
        refine C.mono ?_
        rintro e w1 ⟨rfl, b1⟩
        go_wp2
        go_ret2
        exact ⟨rfl, thenB hal b1⟩
      | some k =>
        rw [ha] at C
        have hk := hlt k ha
        have hw : IntKind.i64.wrap ((k : Int) + 1) = ((k + 1 : Nat) : Int) := by rw [IntKind.wrap_i64]; omega
        have hge : decide ((0 : Int) ≤ (k : Int)) = true := by simp
        clear hlt ha
        go_enter Tryz.func114, Tryz.ntmps114
        go_wp2_with fail
        refine C.mono ?_
        rintro e w1 ⟨rfl, b1⟩
        go_wp2
        go_ret2
        exact ⟨by simp, thenB hal b1⟩

/-- What a function answers whose answer is two numbers in a cell. -/
theorem ret_stamp {fn : Func} {tmps : Array Value} {t : Tmp} {w : World} {g : Nat} {u0 u1 : Value} (h : fn.results = #[.cell t 23]) (ht : tmps[t]? = some (.pointer (some ⟨g, 0, none⟩))) (hg : Has w g [u0, u1]) :
    (results fn tmps).run Tryz.prog w = .ok (.agg #[u0, u1]) w := by
  have h0 := hg.at 0 rfl
  have h1 := hg.at 1 rfl
  simp [results, h, ht, h0, h1, go_sem]

theorem stampOf_any (x : L5) (w : World) :
    Calls Tryz.prog 151 #[lv x] w fun e w' => e = .returned (.agg #[.int .i64 x.time, .int .i64 x.node]) ∧ Below w.heap.size w w' := by
  go_enter Tryz.func151, Tryz.ntmps151
  go_wp2
  have H : Has ((w.alloc (.cells (l5 x).toArray 59)).alloc (.cells #[.int .i64 x.time, .int .i64 x.node] 23)) (w.heap.size + 1) [.int .i64 x.time, .int .i64 x.node] := by
    have := has_new (w.alloc (.cells (l5 x).toArray 59)) [.int .i64 x.time, .int .i64 x.node] 23
    simpa using this
  exact bodyPost_ret (ret_stamp rfl rfl H) rfl ⟨rfl, ((Below.refl _ _).alloc (Nat.le_refl _) _).alloc (by simp) _⟩

/-- What a round of placeOf keeps: the element in its box, the one that it is held against. -/
abbrev HeldX (w1 : World) (h bk o : Nat) (e x : L5) (W : World) : Prop :=
  Hid (Below w1.heap.size w1 W) ∧ (W.cell? ⟨h, 0, none⟩ = some (.int .i64 e.node) ∧ W.cell? ⟨h, 1, none⟩ = some (.int .i64 e.seq) ∧ W.cell? ⟨h, 2, none⟩ = some (.int .i64 e.time) ∧ W.cell? ⟨h, 3, none⟩ = some (.string e.val) ∧ W.cell? ⟨h, 4, none⟩ = some (.bool e.gone)) ∧ W.cell? ⟨bk, o, none⟩ = some (.int .i64 x.node) ∧ W.cell? ⟨bk, o + 1, none⟩ = some (.int .i64 x.seq) ∧ W.cell? ⟨bk, o + 2, none⟩ = some (.int .i64 x.time) ∧ W.cell? ⟨bk, o + 3, none⟩ = some (.string x.val) ∧ W.cell? ⟨bk, o + 4, none⟩ = some (.bool x.gone)
structure SrcX (w1 : World) (h bk o : Nat) (e x : L5) : Prop where
  hh : Has w1 h (l5 e)
  hb : bk < w1.heap.size
  h0 : w1.cell? ⟨bk, o, none⟩ = some (.int .i64 x.node)
  h1 : w1.cell? ⟨bk, o + 1, none⟩ = some (.int .i64 x.seq)
  h2 : w1.cell? ⟨bk, o + 2, none⟩ = some (.int .i64 x.time)
  h3 : w1.cell? ⟨bk, o + 3, none⟩ = some (.string x.val)
  h4 : w1.cell? ⟨bk, o + 4, none⟩ = some (.bool x.gone)
section
variable {w1 W : World} {h bk o : Nat} {e x : L5}
theorem heldX_of (hs : SrcX w1 h bk o e x) (hb : Below w1.heap.size w1 W) : HeldX w1 h bk o e x W := by
  have H := hs.hh.later hb
  have c := fun j => hb.cell (p := ⟨bk, j, none⟩) (by exact hs.hb)
  exact ⟨hb, ⟨H.at 0 rfl, H.at 1 rfl, H.at 2 rfl, H.at 3 rfl, H.at 4 rfl⟩, (c _).trans hs.h0, (c _).trans hs.h1, (c _).trans hs.h2, (c _).trans hs.h3, (c _).trans hs.h4⟩
theorem heldX_later {W' : World} (hs : SrcX w1 h bk o e x) (hb : Below W.heap.size W W') (H : HeldX w1 h bk o e x W) : HeldX w1 h bk o e x W' := heldX_of hs (H.1.out.trans (hb.mono H.1.out.size))
theorem heldX_drew (hs : SrcX w1 h bk o e x) : HeldX w1 h bk o e x w1.drew := heldX_of hs (Below.refl _ _).drew
end

/-- A label at which a body begins, and the gotos back to it: what holds at each of them, and a measure. -/
theorem wp_goto_loop {P : Program} {a : Act} {w : World} {Q : Exit → Act → World → Prop} {rest : Code} (l : Nat) (J : Act → World → Prop) (μ : Act → World → Nat) (hJ : J a w)
    (pass : ∀ a w, J a w → rest.wp P (Exit.jump l (fun a' w' => J a' w' ∧ μ a' w' < μ a w) Q) a w) : (Code.scope ((Code.label l).seq rest)).wp P Q a w :=
  wp_scope_jumps l J μ (by simp [findLabel]) (wp_seq (wp_label (wp_mono (pass a w hJ) fun e a' w' h => by
    cases e with
    | goto l' => exact ⟨h.1, h.2.1⟩
    | _ => exact h))) fun a w hJ => wp_seq (wp_skip (pass a w hJ))

/-- Where the round stands. -/
def atOf : Value → Nat | .int _ q => q.toNat | _ => 0

/-- How far placeOf goes. -/
theorem pastL_at {t n : Int} {l : List L5} {k : Nat} {x : L5} (hx : l[k]? = some x) : pastL t n (l.drop k) = if lessB t n x.time x.node = true then pastL t n (l.drop (k + 1)) + 1 else 0 := by
  have hk := (List.getElem?_eq_some_iff.1 hx).1
  have e : l.drop k = x :: l.drop (k + 1) := by rw [List.drop_eq_getElem_cons hk, (List.getElem?_eq_some_iff.1 hx).2]
  rw [e, pastL]

set_option maxHeartbeats 1000000 in
set_option maxRecDepth 100000 in
theorem placeOfX_any (e : L5) (k : Nat) (ao : Option Addr) (ca : Nat) (l : List L5) (w : World) (hr : FRow w ao (flatL l)) (hl : l.length ≤ maxLen) (hk : k ≤ l.length) :
    Calls Tryz.prog 116 #[.slice ao l.length ca, lv e, .int .i64 (k : Nat)] w fun r w' => r = .returned (.int .i64 ((k + pastL e.time e.node (l.drop k) : Nat) : Int)) ∧ Below w.heap.size w w' := by
  obtain ⟨h, hh⟩ : ∃ h, w.heap.size = h := ⟨_, rfl⟩
  have H0 : Hid (Has (w.alloc (.cells (l5 e).toArray 59)) h (l5 e) ∧ Below h w (w.alloc (.cells (l5 e).toArray 59))) := ⟨hh ▸ has_new w (l5 e) _, hh ▸ (Below.refl _ _).alloc (Nat.le_refl _) _⟩
  have HR : Hid (FRow w ao (flatL l) ∧ w.heap.size = h) := ⟨hr, hh⟩
  rw [hh]
  clear hr
  unfold maxLen at hl
  go_enter Tryz.func116, Tryz.ntmps116
  go_wp2
  clear hh
  refine wp_goto_loop 0 (fun a' w' => ∃ (i : Nat) (u7 u8 u9 u10 u11 u12 u13 u14 u15 u16 u17 u18 u19 u20 u21 u22 u23 : Value), a' = { tmps := #[.slice ao l.length ca, lv e, .int .i64 (i : Nat), undef, .pointer (some ⟨h, 0, none⟩), undef, .int .i64 0, u7, u8, u9, u10, u11, u12, u13, u14, u15, u16, u17, u18, u19, u20, u21, u22, u23], defers := [] } ∧ Hid (Has w' h (l5 e) ∧ Below h w w') ∧ i ≤ l.length ∧ Hid (i + pastL e.time e.node (l.drop i) = k + pastL e.time e.node (l.drop k))) (fun a' _ => l.length - atOf (a'.tmps.getD 2 undef)) ?_ ?_
  · exact ⟨k, _, _, _, _, _, _, _, _, _, _, _, _, _, _, _, _, _, rfl, H0.out, hk, rfl⟩
  · clear H0
    rintro a' wr ⟨i, u7, u8, u9, u10, u11, u12, u13, u14, u15, u16, u17, u18, u19, u20, u21, u22, u23, rfl, HB, hil, HP⟩
    by_cases hi : i < l.length
    · have hd : decide ((i : Int) < (l.length : Int)) = true := by simpa using hi
      obtain ⟨bk, off, rfl, hb, hc⟩ := HR.out.1 (by rw [flatL_len]; omega)
      obtain ⟨x, hx⟩ : ∃ x, l[i]? = some x := ⟨_, List.getElem?_eq_getElem hi⟩
      obtain ⟨g0, g1, g2, g3, g4⟩ := flatL_at l i hx
      have hb1 : bk < h := HR.out.2 ▸ hb
      have HS : Hid (SrcX wr h bk (off + i * 5) e x) := by
        have c := fun j => HB.out.2.cell (p := ⟨bk, j, none⟩) (by exact hb1)
        exact ⟨HB.out.1, by have := HB.out.1.1; omega, (c _).trans (hc _ _ g0), (c _).trans (hc _ _ g1), (c _).trans (hc _ _ g2), (c _).trans (hc _ _ g3), (c _).trans (hc _ _ g4)⟩
      have HX : Hid (l[i]? = some x) := hx
      clear hc hx g0 g1 g2 g3 g4 hb hb1
      cases hq : lessB e.time e.node x.time x.node with
      | true =>
        have HQ : Hid ((i + 1) + pastL e.time e.node (l.drop (i + 1)) = k + pastL e.time e.node (l.drop k)) := by
          have := HP.out
          rw [pastL_at HX.out, hq, if_pos rfl] at this
          show (i + 1) + pastL e.time e.node (l.drop (i + 1)) = _
          omega
        go_wp2_with fail
        go_region_held3 (HeldX wr h bk (off + i * 5) e x) (first | (with_reducible apply heldX_later HS.out hb2; assumption) | (with_reducible exact heldX_drew HS.out))
          (first
            | (go_at_call 151; with_reducible refine (stampOf_any _ _).mono ?_; rintro r w3 ⟨rfl, hb2⟩)
            | (go_at_call 101; with_reducible refine (less_any _ _ _ _ _).mono ?_; rintro r w3 ⟨rfl, hb2⟩))
        have HE : Hid (Has w3 h (l5 e) ∧ Below h w w3) := by
          have b : Below wr.heap.size wr w3 := (show HeldX wr h bk (off + i * 5) e x w3 by assumption).1.out
          exact ⟨HB.out.1.later b, HB.out.2.trans (b.mono (by have := HB.out.1.1; omega))⟩
        go_wp2
        go_step3
        refine ⟨rfl, ⟨i + 1, _, _, _, _, _, _, _, _, _, _, _, _, _, _, _, _, _, rfl, HE.out, by omega, HQ.out⟩, ?_⟩
        show l.length - ((i : Int) + 1).toNat < l.length - ((i : Int)).toNat
        omega
      | false =>
        have HQ : Hid (((k + pastL e.time e.node (l.drop k) : Nat) : Int) = (i : Int)) := by
          have := HP.out
          rw [pastL_at HX.out, hq, if_neg (by simp)] at this
          show ((k + pastL e.time e.node (l.drop k) : Nat) : Int) = _
          omega
        go_wp2_with fail
        go_region_held3 (HeldX wr h bk (off + i * 5) e x) (first | (with_reducible apply heldX_later HS.out hb2; assumption) | (with_reducible exact heldX_drew HS.out))
          (first
            | (go_at_call 151; with_reducible refine (stampOf_any _ _).mono ?_; rintro r w3 ⟨rfl, hb2⟩)
            | (go_at_call 101; with_reducible refine (less_any _ _ _ _ _).mono ?_; rintro r w3 ⟨rfl, hb2⟩))
        have HE : Hid (Below h w w3) := by
          have b : Below wr.heap.size wr w3 := (show HeldX wr h bk (off + i * 5) e x w3 by assumption).1.out
          exact HB.out.2.trans (b.mono (by have := HB.out.1.1; omega))
        go_wp2
        simp only [Exit.jump]
        go_ret
        rw [HQ.out]
        exact ⟨rfl, HE.out⟩
    · have hd : decide ((i : Int) < (l.length : Int)) = false := by simp; omega
      have HQ : Hid (((k + pastL e.time e.node (l.drop k) : Nat) : Int) = (i : Int)) := by
        have := HP.out
        rw [List.drop_eq_nil_of_le (by omega : l.length ≤ i)] at this
        show ((k + pastL e.time e.node (l.drop k) : Nat) : Int) = _
        simp only [pastL] at this
        omega
      go_wp2_with fail
      refine wp_region_held_drew (S := fun W => Below h w W) (by kernel_rfl) HB.out.2.drew (fun hHeld => ?_)
      refine take_at 0 7 (v := .int .i64 (i : Nat)) rfl (by kernel_rfl) (by kernel_rfl) (by kernel_rfl) (fun _ _ _ h => h) rfl (by rfl) (fun w hSw => ?hy) hHeld ?_
      case hy =>
        try dsimp only at hSw
        go_simp
      simp only [List.set_cons_zero, List.set_cons_succ]
      refine take_at 1 8 (v := .slice ao l.length ca) rfl (by kernel_rfl) (by kernel_rfl) (by kernel_rfl) (fun _ _ _ h => h) rfl (by rfl) (fun w hSw => ?hy) hHeld ?_
      case hy =>
        try dsimp only at hSw
        go_simp
      simp only [List.set_cons_zero, List.set_cons_succ]
      refine take_at 2 9 (v := .int .i64 (l.length : Nat)) rfl (by kernel_rfl) (by kernel_rfl) (by kernel_rfl) (fun _ _ _ h => h) rfl (by rfl) (fun w hSw => ?hy) hHeld ?_
      case hy =>
        try dsimp only at hSw
        go_simp
      simp only [List.set_cons_zero, List.set_cons_succ]
      refine take_at 3 10 (v := .bool false) rfl (by kernel_rfl) (by kernel_rfl) (by kernel_rfl) (fun _ _ _ h => h) rfl (by rfl) (fun w hSw => ?hy) hHeld ?_
      case hy =>
        try dsimp only at hSw
        go_simp
      simp only [List.set_cons_zero, List.set_cons_succ]
      refine take_at 4 11 (v := .bool false) rfl (by kernel_rfl) (by kernel_rfl) (by kernel_rfl) (fun _ _ _ h => h) rfl (by rfl) (fun w hSw => ?hy) hHeld ?_
      case hy =>
        try dsimp only at hSw
        go_simp
      simp only [List.set_cons_zero, List.set_cons_succ]
      refine skip_at 5 12 rfl (by kernel_rfl) (by kernel_rfl) (by kernel_rfl) (fun _ _ _ h => h) rfl (by rfl) hHeld ?_
      simp only [List.set_cons_zero, List.set_cons_succ]
      refine skip_at 7 14 rfl (by kernel_rfl) (by kernel_rfl) (by kernel_rfl) (fun _ _ _ h => h) rfl (by rfl) hHeld ?_
      simp only [List.set_cons_zero, List.set_cons_succ]
      refine skip_at 8 15 rfl (by kernel_rfl) (by kernel_rfl) (by kernel_rfl) (fun _ _ _ h => h) rfl (by rfl) hHeld ?_
      simp only [List.set_cons_zero, List.set_cons_succ]
      refine skip_at 9 16 rfl (by kernel_rfl) (by kernel_rfl) (by kernel_rfl) (fun _ _ _ h => h) rfl (by rfl) hHeld ?_
      simp only [List.set_cons_zero, List.set_cons_succ]
      refine skip_at 10 17 rfl (by kernel_rfl) (by kernel_rfl) (by kernel_rfl) (fun _ _ _ h => h) rfl (by rfl) hHeld ?_
      simp only [List.set_cons_zero, List.set_cons_succ]
      refine wpAnyH_ready (rs := [6]) (by kernel_rfl) (by simp) ?_
      refine AllReadyH.cons rfl (fun K hK => ?_) AllReadyH.nil
      go_simp
      refine hK.out _ _ hHeld (fun hHeld => ?_)
      clear hK K
      try simp only [Act.put, List.setIfInBounds_toArray, List.set_cons_zero, List.set_cons_succ]
      refine wpAnyH_ready (rs := [11]) (by kernel_rfl) (by simp) ?_
      refine AllReadyH.cons rfl (fun K hK => ?_) AllReadyH.nil
      go_simp
      refine hK.out _ _ hHeld (fun hHeld => ?_)
      clear hK K
      try simp only [Act.put, List.setIfInBounds_toArray, List.set_cons_zero, List.set_cons_succ]
      refine wpAnyH_ready (rs := [12]) (by kernel_rfl) (by simp) ?_
      refine AllReadyH.cons rfl (fun K hK => ?_) AllReadyH.nil
      go_simp
      refine hK.out _ _ hHeld (fun hHeld => ?_)
      clear hK K
      try simp only [Act.put, List.setIfInBounds_toArray, List.set_cons_zero, List.set_cons_succ]
      refine wpAnyH_ready (rs := [13]) (by kernel_rfl) (by simp) ?_
      refine AllReadyH.cons rfl (fun K hK => ?_) AllReadyH.nil
      go_simp
      refine hK.out _ _ hHeld (fun hHeld => ?_)
      clear hK K
      try simp only [Act.put, List.setIfInBounds_toArray, List.set_cons_zero, List.set_cons_succ]
      refine wpAnyH_done (by kernel_rfl) ?_ _
      go_wp2
      simp only [Exit.jump]
      go_ret
      rw [HQ.out]
      exact ⟨rfl, hHeld⟩

end Go.Proofs.YtgkddimijmnpcaaGreatDoor

/-
  Package rga's Values and At, by contracts.
-/
namespace Go.Proofs.YtgkddimijmnpcaaGreatDoor
open Go.RowKit Go.Shelf
set_option linter.unusedVariables false
set_option linter.unusedSimpArgs false

theorem liveL_step {l : List L5} {i : Nat} {x : L5} (hx : l[i]? = some x) : liveL (l.take (i + 1)) = liveL (l.take i) ++ (if x.gone then [] else [x]) := by
  unfold liveL
  rw [List.take_add_one, hx, List.filter_append]
  cases h : x.gone <;> simp [h]
theorem valsX_step {l : List L5} {i : Nat} {x : L5} (hx : l[i]? = some x) : valsX (l.take (i + 1)) = valsX (l.take i) ++ (if x.gone then [] else [x.val]) := by
  unfold valsX
  rw [liveL_step hx]
  cases h : x.gone <;> simp
theorem valsX_len (l : List L5) : (valsX l).length = (liveL l).length := by simp [valsX]
theorem valsX_le (l : List L5) : (valsX l).length ≤ l.length := by rw [valsX_len]; exact live_le l

set_option maxHeartbeats 400000 in
set_option maxRecDepth 100000 in
/-- Values refuses. -/
theorem xvals_no (c : Ce) (p : Pl) (w : World) (hk : (c.kind != 3) = true) :
    Calls Tryz.prog 129 #[ceV c p] w fun e w' => e = .returned (.tuple #[.slice none 0 0, .int .i64 1000]) ∧ Below w.heap.size w w' := by
  go_enter Tryz.func129, Tryz.ntmps129
  go_wp2
  go_ret2
  exact ⟨rfl, (Below.refl _ _).alloc (Nat.le_refl _) _⟩

/-- What the loop keeps. -/
def Wl (w : World) (h : Nat) (c : Ce) (p : Pl) (l : List ByteArray) (ao : Option Addr) (ca : Nat) (wr : World) : Prop :=
  Below h w wr ∧ Has wr h (ceL c p) ∧ wr.ownsRow (h + 1) 9 1 (.slice ao l.length ca) l.length (flatT l)
theorem wl_later {w wr w2 : World} {h : Nat} {c : Ce} {p : Pl} {l : List ByteArray} {ao : Option Addr} {ca : Nat} (H : Wl w h c p l ao ca wr) (hb : Below wr.heap.size wr w2) : Wl w h c p l ao ca w2 :=
  ⟨H.1.trans (hb.mono (by have := H.2.1.1; omega)), H.2.1.later hb, own_later H.2.2 hb⟩
theorem wl_grown {w wr w2 : World} {h : Nat} {c : Ce} {p : Pl} {l : List ByteArray} {x : ByteArray} {ao bo : Option Addr} {ca cb : Nat} {o : Obj} (H : Wl w h c p l ao ca wr) (o2 : w2.ownsRow (h + 1) 9 1 (.slice bo (l.length + 1) cb) (l.length + 1) (flatT l ++ [.string x])) (b2 : Below (h + 1) (wr.alloc o) w2) : Wl w h c p (l ++ [x]) bo cb w2 := by
  have hs := H.2.1.1
  have hal : Below (h + 1) wr (wr.alloc o) := (Below.refl _ _).alloc (by omega) _
  refine ⟨H.1.trans ((hal.trans b2).mono (by omega)), H.2.1.under (by omega) (hal.trans b2), ?_⟩
  rw [flatT_append, List.length_append]
  exact o2

set_option maxHeartbeats 2000000 in
set_option maxRecDepth 100000 in
/-- Values takes it. -/
theorem xvals_yes (c : Ce) (p : Pl) (w : World) (hr : CRow w c p) (hf : Fit c) (hk : (c.kind != 3) = false) :
    Calls Tryz.prog 129 #[ceV c p] w fun e w' => ∃ ao ca, e = .returned (.tuple #[.slice ao (valsX c.elems).length ca, .int .i64 0]) ∧ FOwn w.heap.size w' ao (flatT (valsX c.elems)) ∧ Below w.heap.size w w' := by
  obtain ⟨h, hh⟩ : ∃ h, w.heap.size = h := ⟨_, rfl⟩
  obtain ⟨eo, ec, lo, lc, so, sc⟩ := p
  have H0 : Hid (Wl w h c ⟨eo, ec, lo, lc, so, sc⟩ [] none 0 (w.alloc (.cells (ceL c ⟨eo, ec, lo, lc, so, sc⟩).toArray 30))) := ⟨hh ▸ (Below.refl _ _).alloc (Nat.le_refl _) _, hh ▸ has_new w (ceL c ⟨eo, ec, lo, lc, so, sc⟩) _, own_nil _ _ _ _⟩
  have HR : Hid (FRow w lo (flatL c.elems) ∧ w.heap.size = h ∧ (∀ (i : Nat) x, c.elems[i]? = some x → x.val.size ≤ 140737488351232)) := ⟨hr.2.1, hh, hf.2.2.2.2.2⟩
  have hl := hf.2.1
  obtain ⟨m, hm⟩ : ∃ m, valsX c.elems = m := ⟨_, rfl⟩
  rw [hh, hm]
  have HMV : Hid (valsX c.elems = m) := hm
  clear hr hf hm
  go_enter Tryz.func129, Tryz.ntmps129
  go_wp2
  clear hh
  go_loopg [4, 6, 13] c.elems.length (fun n s4 _ iv wr => ∃ (i j : Nat) (ao : Option Addr) (ca : Nat), i + n = c.elems.length ∧ iv = .int .i64 i ∧ s4 = .slice ao j ca ∧ Hid (Wl w h c ⟨eo, ec, lo, lc, so, sc⟩ (valsX (c.elems.take i)) ao ca wr ∧ (valsX (c.elems.take i)).length = j) ∧ j ≤ i)
  case atStart => exact ⟨0, 0, none, 0, by omega, rfl, rfl, ⟨H0.out, rfl⟩, Nat.le_refl _⟩
  case round =>
    clear H0
    obtain ⟨i, j, ao, ca, hin, rfl, rfl, HD, hji⟩ := hrel
    by_cases hi : i < c.elems.length
    · obtain ⟨bk, off, rfl, hb, hc⟩ := HR.out.1 (by rw [flatL_len]; omega)
      obtain ⟨⟨xn, xs, xt, xv, xg⟩, hx⟩ : ∃ x, c.elems[i]? = some x := ⟨_, List.getElem?_eq_getElem hi⟩
      obtain ⟨g0, g1, g2, g3, g4⟩ := flatL_at c.elems i hx
      have hb1 : bk < h := HR.out.2.1 ▸ hb
      have k0 := (HD.out.1.1.cell (p := ⟨bk, off + i * 5, none⟩) (by exact hb1)).trans (hc _ _ g0)
      have k1 := (HD.out.1.1.cell (p := ⟨bk, off + i * 5 + 1, none⟩) (by exact hb1)).trans (hc _ _ g1)
      have k2 := (HD.out.1.1.cell (p := ⟨bk, off + i * 5 + 2, none⟩) (by exact hb1)).trans (hc _ _ g2)
      have k3 := (HD.out.1.1.cell (p := ⟨bk, off + i * 5 + 3, none⟩) (by exact hb1)).trans (hc _ _ g3)
      have k4 := (HD.out.1.1.cell (p := ⟨bk, off + i * 5 + 4, none⟩) (by exact hb1)).trans (hc _ _ g4)
      obtain ⟨n1, hn1⟩ : ∃ n, wr.heap.size = n := ⟨_, rfl⟩
      have hbn : bk < n1 := by have := HD.out.1.2.1.1; omega
      have hal : Below wr.heap.size wr (wr.alloc (.cells (l5 ⟨xn, xs, xt, xv, xg⟩).toArray 59)) := (Below.refl _ _).alloc (Nat.le_refl _) _
      have HE : Hid (Wl w h c ⟨eo, ec, some ⟨bk, off, none⟩, lc, so, sc⟩ (valsX (c.elems.take i)) ao ca (wr.alloc (.cells (l5 ⟨xn, xs, xt, xv, xg⟩).toArray 59)) ∧ Has (wr.alloc (.cells (l5 ⟨xn, xs, xt, xv, xg⟩).toArray 59)) n1 (l5 ⟨xn, xs, xt, xv, xg⟩)) := ⟨wl_later HD.out.1 hal, hn1 ▸ has_new wr (l5 ⟨xn, xs, xt, xv, xg⟩) _⟩
      have HV : Hid (valsX (c.elems.take (i + 1)) = valsX (c.elems.take i) ++ (if xg then [] else [xv]) ∧ (valsX (c.elems.take i)).length = j) := ⟨valsX_step hx, HD.out.2⟩
      have hxs := HR.out.2.2 i _ hx
      clear hc hx g0 g1 g2 g3 g4 hal hb
      generalize valsX (c.elems.take i) = l at *
      simp only at k0 k1 k2 k3 k4 hxs
      cases xg with
      | true =>
        have HV2 : Hid (valsX (c.elems.take (i + 1)) = l) := by
          have := HV.out.1
          simp at this
          exact this
        go_wp2
        go_roundg (gk - 1)
        case measure => omega
        case rel => exact ⟨i + 1, j, ao, ca, by omega, by go_num, rfl, by rw [HV2.out]; exact ⟨HE.out.1, HV.out.2⟩, by omega⟩
      | false =>
        have HV2 : Hid (valsX (c.elems.take (i + 1)) = l ++ [xv]) := by
          have := HV.out.1
          simp at this
          exact this
        go_wp2_with fail
        refine (clone_any xv _ (by omega)).mono ?_
        rintro e w1 ⟨rfl, b1⟩
        have H1 : Hid (Wl w h c ⟨eo, ec, some ⟨bk, off, none⟩, lc, so, sc⟩ l ao ca w1) := wl_later HE.out.1 b1
        obtain ⟨n2, hn2⟩ : ∃ n, w1.heap.size = n := ⟨_, rfl⟩
        have R2 : FRow (w1.alloc (.cells #[.string xv] 9)) (some ⟨n2, 0, none⟩) [.string xv] := frow_newAt hn2 [.string xv] _
        have HO : Hid (w1.ownsRow (h + 1) 9 1 (.slice ao j ca) j (flatT l)) := by
          have := H1.out.2.2
          rw [HV.out.2] at this
          exact this
        clear b1 k0 k1 k2 k3 k4 HE HD
        go_wp2_with (first
          | (at_builtin
             refine wpList_onto rfl _ _ 65 rfl Tryz.underlying65 Tryz.infoText rfl (by decide) (by decide) (B := h + 1) rfl rfl (own_later HO.out ((Below.refl _ _).alloc (Nat.le_refl _) _)) R2 rfl (fun u hu => by obtain rfl := List.mem_singleton.1 hu; rfl) (by omega) (by have := H1.out.2.1.1; simp at this ⊢; omega) ?_
             intro bo cb w2 o2 n2 b2
             have H2 : Hid (Wl w h c ⟨eo, ec, some ⟨bk, off, none⟩, lc, so, sc⟩ (l ++ [xv]) bo cb w2) := wl_grown H1.out (by rw [HV.out.2]; exact o2) b2
             clear o2 n2 b2))
        go_roundg (gk - 1)
        case measure => omega
        case rel => exact ⟨i + 1, j + 1, bo, cb, by omega, by go_num, rfl, by rw [HV2.out]; exact ⟨H2.out, by simp [HV.out.2]⟩, by omega⟩
    · have hd : decide ((i : Int) < (c.elems.length : Int)) = false := by simp; omega
      have e : i = c.elems.length := by omega
      have HE : Hid (Wl w h c ⟨eo, ec, lo, lc, so, sc⟩ m ao ca wr ∧ m.length = j) := by
        have := HD.out
        rw [e, List.take_length, HMV.out] at this
        exact this
      clear HD
      go_wp2
      go_ret2
      rw [← HE.out.2]
      exact ⟨ao, ca, rfl, (own_row HE.out.1.2.2).mono (by omega), HE.out.1.1⟩

/-! At. -/

/-- The dot of the k-th that is not gone. -/
def atI (l : List L5) (k : Int) : Option D2 := if 0 ≤ k then atX l k.toNat else none
theorem atI_found {l : List L5} {i : Nat} {x : L5} (hx : l[i]? = some x) (hg : x.gone = false) : atI l ((liveL (l.take i)).length : Int) = some (dotX x) := by
  unfold atI atX
  rw [if_pos (by omega), Int.toNat_natCast]
  have hi := (List.getElem?_eq_some_iff.1 hx).1
  have e : l = l.take i ++ x :: l.drop (i + 1) := by
    have : l.drop i = x :: l.drop (i + 1) := by rw [List.drop_eq_getElem_cons hi, (List.getElem?_eq_some_iff.1 hx).2]
    rw [← this, List.take_append_drop]
  have e2 : liveL l = liveL (l.take i) ++ x :: liveL (l.drop (i + 1)) := by
    conv => lhs; rw [e]
    rw [live_append, live_cons hg]
  rw [e2, List.getElem?_append_right (Nat.le_refl _)]
  simp
theorem atI_none {l : List L5} {k : Int} (h : k < 0 ∨ ((liveL l).length : Int) ≤ k) : atI l k = none := by
  unfold atI atX
  split
  · rw [List.getElem?_eq_none (by omega)]
    rfl
  · rfl

/-- What At begins with and keeps. -/
def AtW (w : World) (h : Nat) (c : Ce) (p : Pl) (wr : World) : Prop := Below h w wr ∧ Has wr h (ceL c p) ∧ Has wr (h + 1) [.int .i64 0, .int .i64 0]
theorem atW_later {w wr w2 : World} {h : Nat} {c : Ce} {p : Pl} (H : AtW w h c p wr) (hb : Below wr.heap.size wr w2) : AtW w h c p w2 := ⟨H.1.trans (hb.mono (by have := H.2.1.1; omega)), H.2.1.later hb, H.2.2.later hb⟩
theorem atW_new (w : World) (c : Ce) (p : Pl) (t1 t2 : TypeId) : AtW w w.heap.size c p ((w.alloc (.cells (ceL c p).toArray t1)).alloc (.cells #[.int .i64 0, .int .i64 0] t2)) := by
  refine ⟨((Below.refl _ _).alloc (Nat.le_refl _) _).alloc (by simp) _, (has_new _ _ _).alloc _, ?_⟩
  have := has_new (w.alloc (.cells (ceL c p).toArray t1)) [.int .i64 0, .int .i64 0] t2
  simpa using this
/-- What a function answers whose answers are a dot and a number. -/
theorem ret_dot2 {fn : Func} {tmps : Array Value} {t u : Tmp} {w : World} {g : Nat} {v u0 u1 : Value} (h : fn.results = #[.cell t 32, .tmp u]) (ht : tmps[t]? = some (.pointer (some ⟨g, 0, none⟩))) (hu : tmps[u]? = some v) (hg : Has w g [u0, u1]) :
    (results fn tmps).run Tryz.prog w = .ok (.tuple #[.agg #[u0, u1], v]) w := by
  have h0 := hg.at 0 rfl
  have h1 := hg.at 1 rfl
  simp [results, h, ht, hu, h0, h1, go_sem]
theorem at_end {fn : Func} {act : Act} {w wr : World} {h : Nat} {c : Ce} {p : Pl} {d : D2} {z : Int} (H : AtW w h c p wr) (hr : fn.results = #[.cell 4 32, .tmp 5]) (h4 : act.tmps[4]? = some (.pointer (some ⟨h + 1, 0, none⟩))) (h5 : act.tmps[5]? = some (.int .i64 z)) (hd : act.defers = []) :
    bodyPost Tryz.prog fn (fun e w' => e = .returned (.tuple #[dv d, .int .i64 z]) ∧ Below h w w') Exit.ret act ((wr.setCell ⟨h + 1, 0, none⟩ (.int .i64 d.1)).setCell ⟨h + 1, 1, none⟩ (.int .i64 d.2)) :=
  bodyPost_ret (ret_dot2 hr h4 h5 ((H.2.2.put 0 _).put 1 _)) hd ⟨rfl, (H.1.setCell (p := ⟨h + 1, 0, none⟩) (by show h ≤ h + 1; omega) _).setCell (p := ⟨h + 1, 1, none⟩) (by show h ≤ h + 1; omega) _⟩
theorem at_end2 {fn : Func} {act : Act} {w wr : World} {h : Nat} {c : Ce} {p : Pl} {d : D2} {z : Int} {o : Obj} (H : AtW w h c p wr) (hr : fn.results = #[.cell 4 32, .tmp 5]) (h4 : act.tmps[4]? = some (.pointer (some ⟨h + 1, 0, none⟩))) (h5 : act.tmps[5]? = some (.int .i64 z)) (hd : act.defers = []) :
    bodyPost Tryz.prog fn (fun e w' => e = .returned (.tuple #[dv d, .int .i64 z]) ∧ Below h w w') Exit.ret act (((wr.setCell ⟨h + 1, 0, none⟩ (.int .i64 d.1)).setCell ⟨h + 1, 1, none⟩ (.int .i64 d.2)).alloc o) :=
  bodyPost_ret (ret_dot2 hr h4 h5 (((H.2.2.put 0 _).put 1 _).alloc o)) hd ⟨rfl, ((H.1.setCell (p := ⟨h + 1, 0, none⟩) (by show h ≤ h + 1; omega) _).setCell (p := ⟨h + 1, 1, none⟩) (by show h ≤ h + 1; omega) _).alloc (by have := H.2.1.1; simp; omega) _⟩

/-- What At answers. -/
def atNum (l : List L5) (k : Int) : D2 × Int := match atI l k with
  | some d => (d, 0)
  | none => ((0, 0), 1001)
theorem atNum_some {l : List L5} {k : Int} {d : D2} (h : atI l k = some d) : atNum l k = (d, 0) := by unfold atNum; rw [h]
theorem atNum_none {l : List L5} {k : Int} (h : atI l k = none) : atNum l k = ((0, 0), 1001) := by unfold atNum; rw [h]

end Go.Proofs.YtgkddimijmnpcaaGreatDoor

/-
  slices.Insert at a row of elements of the call's own: flat rows.
-/
namespace Go.Proofs.YtgkddimijmnpcaaGreatDoor
open Go.RowKit Go.Shelf
set_option linter.unusedVariables false
set_option linter.unusedSimpArgs false

theorem flatL_append (l m : List L5) : flatL (l ++ m) = flatL l ++ flatL m := by simp [flatL]
theorem flatL_take (l : List L5) (i : Nat) : flatL (l.take i) = (flatL l).take (i * 5) := by
  induction l generalizing i with
  | nil => simp [flatL]
  | cons a l ih =>
    cases i with
    | zero => simp [flatL]
    | succ i =>
      have := ih i
      have e : (i + 1) * 5 = i * 5 + 1 + 1 + 1 + 1 + 1 := by omega
      simp only [flatL, l5, List.flatMap_cons, List.take_succ_cons, e, List.cons_append, List.nil_append] at this ⊢
      rw [this]
theorem flatL_drop (l : List L5) (i : Nat) : flatL (l.drop i) = (flatL l).drop (i * 5) := by
  induction l generalizing i with
  | nil => simp [flatL]
  | cons a l ih =>
    cases i with
    | zero => simp [flatL]
    | succ i =>
      have := ih i
      have e : (i + 1) * 5 = i * 5 + 1 + 1 + 1 + 1 + 1 := by omega
      simp only [flatL, l5, List.flatMap_cons, List.drop_succ_cons, e, List.cons_append, List.nil_append] at this ⊢
      rw [this]
theorem putX_flat (l : List L5) (i : Nat) (x : L5) : flatL (putX l i x) = (flatL l).take (i * 5) ++ (l5 x ++ (flatL l).drop (i * 5)) := by
  have : putX l i x = l.take i ++ ([x] ++ l.drop i) := rfl
  rw [this, flatL_append, flatL_append, flatL_take, flatL_drop]
  simp [flatL]
theorem Tryz.sizeElem : (Tryz.prog.info? 59).map (·.size) = some 5 := by
  obtain ⟨i0, hi, _, hz1, _⟩ := info_parts Tryz.infoElem
  rw [hi]; simp [hz1]

end Go.Proofs.YtgkddimijmnpcaaGreatDoor

/-
  slices.DeleteFunc at a row of elements of the call's own, by contract.
-/
namespace Go.Proofs.YtgkddimijmnpcaaGreatDoor
open Go.RowKit Go.Shelf
set_option linter.unusedVariables false
set_option linter.unusedSimpArgs false

theorem flatL_set (l : List L5) (i : Nat) (x : L5) : flatL (l.set i x) = (((((flatL l).set (i * 5) (.int .i64 x.node)).set (i * 5 + 1) (.int .i64 x.seq)).set (i * 5 + 2) (.int .i64 x.time)).set (i * 5 + 3) (.string x.val)).set (i * 5 + 4) (.bool x.gone) := by
  induction l generalizing i with
  | nil => simp [flatL]
  | cons a l ih =>
    cases i with
    | zero => simp [flatL]
    | succ i =>
      have := ih i
      have e : (i + 1) * 5 = i * 5 + 1 + 1 + 1 + 1 + 1 := by omega
      simp only [flatL, l5, List.flatMap_cons, List.set_cons_succ, e, List.cons_append, List.nil_append] at this ⊢
      rw [this]

/-- Five cells stored. -/
abbrev put5 (w : World) (g o : Nat) (x : L5) : World := ((((w.setCell ⟨g, o, none⟩ (.int .i64 x.node)).setCell ⟨g, o + 1, none⟩ (.int .i64 x.seq)).setCell ⟨g, o + 2, none⟩ (.int .i64 x.time)).setCell ⟨g, o + 3, none⟩ (.string x.val)).setCell ⟨g, o + 4, none⟩ (.bool x.gone)

theorem own_put5 {C g n c : Nat} {e : TypeId} {w : World} {l : List L5} (h : w.ownsRow C e 5 (.slice (some ⟨g, 0, none⟩) n c) n (flatL l)) (i : Nat) (x : L5) : (put5 w g (i * 5) x).ownsRow C e 5 (.slice (some ⟨g, 0, none⟩) n c) n (flatL (l.set i x)) := by
  rw [flatL_set]
  exact ((((((h.stored (i * 5) _).1).stored (i * 5 + 1) _).1.stored (i * 5 + 2) _).1.stored (i * 5 + 3) _).1.stored (i * 5 + 4) _).1

/-- What the row holds while it is gone through: what is kept of the first j, anything, the rest. -/
def KeptL (p : L5 → Bool) (l m : List L5) (i j : Nat) : Prop := m.length = l.length ∧ i < j ∧ j ≤ l.length ∧ m.take i = (l.take j).filter (fun x => !p x) ∧ m.drop j = l.drop j

theorem keptL_skip {p : L5 → Bool} {l m : List L5} {i j : Nat} (h : KeptL p l m i j) {x : L5} (hx : l[j]? = some x) (hp : p x = true) : KeptL p l m i (j + 1) := by
  obtain ⟨h1, h2, h3, h4, h5⟩ := h
  have hj := (List.getElem?_eq_some_iff.1 hx).1
  refine ⟨h1, by omega, by omega, ?_, ?_⟩
  · rw [h4, List.take_add_one, hx]
    simp [List.filter_append, hp]
  · have := congrArg (List.drop 1) h5
    simpa [List.drop_drop, Nat.add_comm] using this

theorem keptL_keep {p : L5 → Bool} {l m : List L5} {i j : Nat} (h : KeptL p l m i j) {x : L5} (hx : l[j]? = some x) (hp : p x = false) : KeptL p l (m.set i x) (i + 1) (j + 1) := by
  obtain ⟨h1, h2, h3, h4, h5⟩ := h
  have hj := (List.getElem?_eq_some_iff.1 hx).1
  refine ⟨by simpa using h1, by omega, by omega, ?_, ?_⟩
  · have e : (m.set i x).take (i + 1) = m.take i ++ [x] := by
      rw [List.take_add_one, List.getElem?_set_self (by omega), List.take_set, List.set_eq_of_length_le (by simp; omega)]
      rfl
    rw [e, h4, List.take_add_one, hx]
    simp [List.filter_append, hp]
  · have := congrArg (List.drop 1) h5
    rw [List.drop_set_of_lt (by omega)]
    simpa [List.drop_drop, Nat.add_comm] using this

theorem zero5_len (n : Nat) : (Builtin.zeroCells (.agg #[.int .i64 0, .int .i64 0, .int .i64 0, .string ByteArray.empty, .bool false] : Value).cells n).toList.length = n * 5 := by
  simp [Builtin.zeroCells, Value.cells]

theorem zero5_one (n : Nat) : ∀ v ∈ (Builtin.zeroCells (.agg #[.int .i64 0, .int .i64 0, .int .i64 0, .string ByteArray.empty, .bool false] : Value).cells n).toList, v.oneCell' = true := by
  intro v hv
  simp only [Builtin.zeroCells, Value.cells, Array.toList_map, List.mem_map] at hv
  obtain ⟨k, _, rfl⟩ := hv
  have : k % 5 < 5 := Nat.mod_lt _ (by decide)
  have h3 : (#[.int .i64 0, .int .i64 0, .int .i64 0, .string ByteArray.empty, .bool false] : Array Value).size = 5 := rfl
  rw [h3]
  match k % 5, this with
  | 0, _ => rfl
  | 1, _ => rfl
  | 2, _ => rfl
  | 3, _ => rfl
  | 4, _ => rfl

end Go.Proofs.YtgkddimijmnpcaaGreatDoor

/-
  Small equations: a string's bytes as a list; answers of a string and two numbers.
-/
namespace Go.Proofs.YtgkddimijmnpcaaGreatDoor
open Go.RowKit
set_option linter.unusedVariables false

theorem size_list (s : ByteArray) : s.data.toList.length = s.size := by simp

theorem list_string (s : ByteArray) : (⟨s.data.toList.toArray⟩ : ByteArray) = s := by simp

theorem ret_sii {s s' : ByteArray} {a a' b b' : Int} (h1 : s = s') (h2 : a = a') (h3 : b = b') :
    Ending.returned (.tuple #[.string s, .int .i64 a, .int .i64 b]) = .returned (.tuple #[.string s', .int .i64 a', .int .i64 b']) := by rw [h1, h2, h3]

theorem join3 (a b : List UInt8) (s : ByteArray) : ((⟨a.toArray⟩ : ByteArray) ++ (⟨b.toArray⟩ : ByteArray) ++ s) = ⟨(a ++ (b ++ s.data.toList)).toArray⟩ := by
  apply ByteArray.ext
  simp [ByteArray.data_append]

theorem join2 (a b : List UInt8) : ((⟨a.toArray⟩ : ByteArray) ++ (⟨b.toArray⟩ : ByteArray)) = ⟨(a ++ b).toArray⟩ := by
  apply ByteArray.ext
  simp [ByteArray.data_append]

end Go.Proofs.YtgkddimijmnpcaaGreatDoor

/-
  Package varint's Get, by a contract: what it answers for every text and every place.
-/
namespace Go.Proofs.YtgkddimijmnpcaaGreatDoor
open Go.RowKit
set_option linter.unusedVariables false

theorem ret3 {a b c a' b' c' : Int} (h1 : a = a') (h2 : b = b') (h3 : c = c') :
    Ending.returned (.tuple #[.int .i64 a, .int .i64 b, .int .i64 c]) = .returned (.tuple #[.int .i64 a', .int .i64 b', .int .i64 c']) := by rw [h1, h2, h3]

end Go.Proofs.YtgkddimijmnpcaaGreatDoor

/-
  The document's own answer GetNum (the reference package), by a contract: the same plain function as varint's Get.
-/
namespace Go.Proofs.YtgkddimijmnpcaaGreatDoor
open Go.RowKit
set_option linter.unusedVariables false

end Go.Proofs.YtgkddimijmnpcaaGreatDoor

