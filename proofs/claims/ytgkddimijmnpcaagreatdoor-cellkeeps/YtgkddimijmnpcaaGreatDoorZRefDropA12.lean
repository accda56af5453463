/-
  the document's DropEntries: the answer's Seen lies apart.
-/
import Derived.Test.YtgkddimijmnpcaaGreatDoorZPack2
import Derived.Test.YtgkddimijmnpcaaGreatDoorZPutA12
namespace Go.Proofs.YtgkddimijmnpcaaGreatDoor
open Go.RowKit Go.Shelf
set_option linter.unusedVariables false
set_option linter.unusedSimpArgs false

/-- The end of the document's calls. -/
theorem ref_endA {fn : Func} {act : Act} {w W : World} {h a B r : Nat} {d : Ce} {q : Pl} (hB : Below h w W) (HA : Has W a (ceL ce0 pl0)) (HO : COwnE B W d q) (ha : h ≤ a) (haB : a < B) (hr : fn.results = #[.cell r 30, .tmp (r + 1)]) (h6 : act.tmps[r]? = some (.pointer (some ⟨a, 0, none⟩))) (h7 : act.tmps[r + 1]? = some (.int .i64 0)) (hd : act.defers = []) :
    bodyPost Tryz.prog fn (fun e w' => ∃ q, e = .returned (.tuple #[ceV d q, .int .i64 0]) ∧ COwnE h w' d q ∧ Below h w w') Exit.ret act (put10 W a (.int .i64 d.kind) (.bool d.set) (.int .i64 d.time) (.int .i64 d.node) (.string d.val) (.int .i64 d.re) (.int .i64 d.im) (.slice q.eo d.ents.length q.ec) (.slice q.lo d.elems.length q.lc) (.slice q.so d.seen.length q.sc)) :=
  bodyPost_ret (ret_cell2 hr h6 h7 (HA.put10 _ _ _ _ _ _ _ _ _ _)) hd ⟨q, rfl, ⟨(HO.1.put10 haB _ _ _ _ _ _ _ _ _ _).mono (by omega), HO.2⟩, below_put10 hB ha _ _ _ _ _ _ _ _ _ _⟩

/-- Behind the document's copy, once it is stored: the new entries, the copy's other lists. -/
def CpA (w : World) (h B a : Nat) (c : Ce) (q : Pl) (l : List E3) (ao : Option Addr) (ca : Nat) (w3 : World) : Prop :=
  Below h w w3 ∧ Has w3 h (ceL c q) ∧ Has w3 a (ceL ce0 pl0) ∧ COwnE B w3 (cE c l) ⟨ao, ca, q.lo, q.lc, q.so, q.sc⟩

theorem cp_ofA {w w1 w2 : World} {h B a : Nat} {c : Ce} {p q : Pl} {l : List E3} {ao : Option Addr} {ca : Nat} (H : El w h B a c p l ao ca w1) (hB : B ≤ w1.heap.size) (o2 : COwn w1.heap.size w2 c q) (b2 : Below w1.heap.size w1 w2) :
    CpA w h B a c q l ao ca (put10 w2 h (.int .i64 c.kind) (.bool c.set) (.int .i64 c.time) (.int .i64 c.node) (.string c.val) (.int .i64 c.re) (.int .i64 c.im) (.slice q.eo c.ents.length q.ec) (.slice q.lo c.elems.length q.lc) (.slice q.so c.seen.length q.sc)) := by
  have H2 := H.later b2
  have h1 := H.2.2.2.2
  refine ⟨below_put10 H2.1 (Nat.le_refl _) _ _ _ _ _ _ _ _ _ _, H2.2.1.put10 _ _ _ _ _ _ _ _ _ _, ?_, ⟨(own_row H2.2.2.2.1).put10 (by omega) _ _ _ _ _ _ _ _ _ _, (o2.2.1.mono hB).put10 (by omega) _ _ _ _ _ _ _ _ _ _, (o2.2.2.mono hB).put10 (by omega) _ _ _ _ _ _ _ _ _ _⟩, fun g hg _ hs hl => by
    have hs' : 0 < (flatI c.seen).length := by rw [flatI_len]; have : 0 < c.seen.length := hs; omega
    have h3 := fown_lt o2.2.2 hs' hg
    have h4 := H.2.2.2.1.lt g (by rw [show ao = some ⟨g, 0, none⟩ from hl]; rfl)
    omega⟩
  repeat apply Has.other (hk := by omega)
  exact H2.2.2.1

theorem CpA.set {w w3 : World} {h B a : Nat} {c : Ce} {q : Pl} {l : List E3} {ao : Option Addr} {ca : Nat} (H : CpA w h B a c q l ao ca w3) (ha : h < a) (hB : a < B) (u : Value) : Below h w (w3.setCell ⟨h, 7, none⟩ u) ∧ Has (w3.setCell ⟨h, 7, none⟩ u) a (ceL ce0 pl0) ∧ COwnE B (w3.setCell ⟨h, 7, none⟩ u) (cE c l) ⟨ao, ca, q.lo, q.lc, q.so, q.sc⟩ :=
  ⟨H.1.setCell (p := ⟨h, 7, none⟩) (Nat.le_refl _) _, H.2.2.1.other (by omega) _ _, ⟨H.2.2.2.1.off (by omega) _ _, H.2.2.2.2⟩⟩

set_option maxHeartbeats 1000000 in
set_option maxRecDepth 100000 in
/-- The document's Drop takes it. -/
theorem rdrop_yesA (c : Ce) (p : Pl) (bo : Option Addr) (cb : Nat) (ds : List D2) (w : World) (hr : CRow w c p) (hf : Fit c) (hds : FRow w bo (flatD ds)) (hl2 : ds.length * 16 ≤ 140737488355328) (hk : (c.kind != 2) = false) :
    Calls Tryz.prog 74 #[ceV c p, .slice bo ds.length cb] w fun e w' => ∃ q, e = .returned (.tuple #[ceV (cE c (dropL c.ents ds)) q, .int .i64 0]) ∧ COwnE w.heap.size w' (cE c (dropL c.ents ds)) q ∧ Below w.heap.size w w' := by
  have H00 := copy0_new w c p 30
  obtain ⟨h, hh⟩ : ∃ h, w.heap.size = h := ⟨_, rfl⟩
  rw [hh] at H00
  have H0 : Hid (El w h (h + 2) (h + 1) c p [] none 0 (((w.alloc (.cells (ceL c p).toArray 30)).alloc (.cells (ceL ce0 pl0).toArray 30)))) := ⟨H00.1, H00.2.1, H00.2.2, own_nil _ _ _ _, by omega, by omega⟩
  have HR : Hid (CRow w c p ∧ Fit c ∧ FRow w bo (flatD ds) ∧ w.heap.size = h) := ⟨hr, hf, hds, hh⟩
  have hl := hf.1
  obtain ⟨L, hL⟩ : ∃ L, dropL c.ents ds = L := ⟨_, rfl⟩
  rw [hL, hh]
  have HL : Hid (dropL c.ents ds = L) := hL
  clear hr hf hds hL H00
  go_enter Tryz.func74, Tryz.ntmps74
  go_wp2
  clear hh
  go_loopg [6, 7] c.ents.length (fun n s6 iv wr => ∃ (i : Nat) (ao : Option Addr) (ca : Nat), i + n = c.ents.length ∧ iv = .int .i64 i ∧ s6 = .slice ao (dropL (c.ents.take i) ds).length ca ∧ Hid (El w h (h + 2) (h + 1) c p (dropL (c.ents.take i) ds) ao ca wr))
  case atStart => exact ⟨0, none, 0, by omega, rfl, rfl, H0.out⟩
  case round =>
    clear H0
    obtain ⟨i, ao, ca, hin, rfl, rfl, HD⟩ := hrel
    have t7 := HD.out.2.1.at 7 rfl
    by_cases hi : i < c.ents.length
    · obtain ⟨bk, off, ea, hb, hc⟩ := HR.out.1.1 (by rw [flatE_len]; omega)
      obtain ⟨x, hx⟩ : ∃ x, c.ents[i]? = some x := ⟨_, List.getElem?_eq_getElem hi⟩
      obtain ⟨g0, g1, g2⟩ := flatE_at c.ents i hx
      have hb1 : bk < h := HR.out.2.2.2 ▸ hb
      have HC : Hid (∀ W, Below h w W → W.cell? ⟨bk, off + i * 3, none⟩ = some (.int .i64 x.node) ∧ W.cell? ⟨bk, off + i * 3 + 1, none⟩ = some (.int .i64 x.seq) ∧ W.cell? ⟨bk, off + i * 3 + 2, none⟩ = some (.string x.val)) := fun W hW =>
        ⟨(hW.cell (p := ⟨bk, off + i * 3, none⟩) (by exact hb1)).trans (hc _ _ g0), (hW.cell (p := ⟨bk, off + i * 3 + 1, none⟩) (by exact hb1)).trans (hc _ _ g1), (hW.cell (p := ⟨bk, off + i * 3 + 2, none⟩) (by exact hb1)).trans (hc _ _ g2)⟩
      rw [ea] at t7
      obtain ⟨k0, k1, k2⟩ := HC.out wr HD.out.1
      have HX : Hid (c.ents[i]? = some x ∧ p.eo = some ⟨bk, off, none⟩) := ⟨hx, ea⟩
      have hle : (dropL (c.ents.take i) ds).length ≤ i := by
        have := dropL_le (c.ents.take i) ds
        rw [List.length_take] at this
        omega
      have CA := among_any (dotE x) bo cb ds wr (HR.out.2.2.1.later (HR.out.2.2.2.symm ▸ HD.out.1)) hl2
      clear hc hx g0 g1 g2 hb ea
      cases hq : decide (dotE x ∈ ds) with
      | true =>
        have HS : Hid (dropL (c.ents.take (i + 1)) ds = dropL (c.ents.take i) ds) := by
          show dropL (c.ents.take (i + 1)) ds = _
          rw [dropL_step HX.out.1, hq]; simp
        rw [hq] at CA
        clear hq
        generalize dropL (c.ents.take i) ds = l at *
        go_wp2_with fail
        refine CA.mono ?_
        rintro e w1 ⟨rfl, b1⟩
        have H1 : Hid (El w h (h + 2) (h + 1) c p l ao ca w1) := HD.out.later b1
        clear b1 CA k0 k1 k2 t7 HD
        go_wp2
        go_roundg (gk - 1)
        case measure => omega
        case rel => exact ⟨i + 1, ao, ca, by omega, by go_num, by rw [HS.out], by rw [HS.out]; exact H1.out⟩
      | false =>
        have HS : Hid (dropL (c.ents.take (i + 1)) ds = dropL (c.ents.take i) ds ++ [x]) := by
          show dropL (c.ents.take (i + 1)) ds = _
          rw [dropL_step HX.out.1, hq]; rfl
        rw [hq] at CA
        clear hq
        generalize dropL (c.ents.take i) ds = l at *
        go_wp2_with fail
        refine CA.mono ?_
        rintro e w1 ⟨rfl, b1⟩
        have H1 : Hid (El w h (h + 2) (h + 1) c p l ao ca w1) := HD.out.later b1
        clear b1 CA k0 k1 k2 t7 HD
        obtain ⟨k0, k1, k2⟩ := HC.out w1 H1.out.1
        have t7 := H1.out.2.1.at 7 rfl
        rw [HX.out.2] at t7
        obtain ⟨n1, hn1⟩ : ∃ n, w1.heap.size = n := ⟨_, rfl⟩
        have R2 : FRow (w1.alloc (.cells #[.int .i64 x.node, .int .i64 x.seq, .string x.val] 62)) (some ⟨n1, 0, none⟩) [.int .i64 x.node, .int .i64 x.seq, .string x.val] := frow_newAt hn1 [.int .i64 x.node, .int .i64 x.seq, .string x.val] _
        have hsz : h + 2 ≤ w1.heap.size := by have := H1.out.2.2.1.1; omega
        go_wp2_with (first
          | (at_builtin
             refine wpList_onto rfl _ _ 26 rfl Tryz.underlying26 Tryz.infoEntry rfl (by decide) (by decide) (B := h + 2) rfl rfl (own_later H1.out.2.2.2.1 ((Below.refl _ _).alloc (Nat.le_refl _) _)) R2 rfl (fun u hu => oneE (l := [x]) (by simpa [flatE] using hu)) (by omega) (by simp; omega) ?_
             intro bo2 cb2 w2 o2 n2 b2
             have H2 : Hid (El w h (h + 2) (h + 1) c p (l ++ [x]) bo2 cb2 w2) := H1.out.grown (m := [x]) (k := 1) ((Below.refl _ _).alloc (Nat.le_refl _) _) hsz rfl o2 b2
             clear o2 n2 b2))
        go_roundg (gk - 1)
        case measure => omega
        case rel => exact ⟨i + 1, bo2, cb2, by omega, by go_num, by rw [HS.out]; simp, by rw [HS.out]; exact H2.out⟩
    · have hd : decide ((i : Int) < (c.ents.length : Int)) = false := by simp; omega
      have e : i = c.ents.length := by omega
      have HE : Hid (El w h (h + 2) (h + 1) c p L ao ca wr) := by
        have := HD.out
        rw [e, List.take_length, HL.out] at this
        exact this
      rw [e, List.take_length, HL.out]
      have hsz : h + 2 ≤ wr.heap.size := by have := HE.out.2.2.1.1; omega
      clear HD t7
      obtain ⟨t0, t1, t2, t3, t4, t5, t6, t7, t8, t9⟩ := HE.out.2.1.ten
      go_wp2_with fail
      refine (rcopy_any c p _ (HR.out.1.later (HR.out.2.2.2.symm ▸ HE.out.1)) HR.out.2.1).mono ?_
      rintro e w2 ⟨q, rfl, o2, b2⟩
      have HP : Hid (CpA w h (h + 2) (h + 1) c q L ao ca (put10 w2 h (.int .i64 c.kind) (.bool c.set) (.int .i64 c.time) (.int .i64 c.node) (.string c.val) (.int .i64 c.re) (.int .i64 c.im) (.slice q.eo c.ents.length q.ec) (.slice q.lo c.elems.length q.lc) (.slice q.so c.seen.length q.sc))) := cp_ofA HE.out hsz o2 b2
      have H2 := HE.out.2.1.later b2
      clear t0 t1 t2 t3 t4 t5 t6 t7 t8 t9 o2 b2 HE
      obtain ⟨t0, t1, t2, t3, t4, t5, t6, t7, t8, t9⟩ := H2.ten
      obtain ⟨f0, f1, f2, f3, f4, f5, f6, f7, f8, f9⟩ := H2.tenf
      clear H2
      go_upto_region 10 with fail
      dsimp only [put10] at HP
      clear t0 t1 t2 t3 t4 t5 t6 t7 t8 t9 f0 f1 f2 f3 f4 f5 f6 f7 f8 f9
      generalize hW : World.setCell _ (⟨h, 9, none⟩ : Addr) _ = w3 at HP ⊢
      clear hW
      obtain ⟨t0, t1, t2, t3, t4, t5, t6, t7, t8, t9⟩ := HP.out.2.1.ten
      have f7 := HP.out.2.1.free 7 rfl
      obtain ⟨s0, s1, s2, s3, s4, s5, s6, s7, s8, s9⟩ := HP.out.2.2.1.ten
      obtain ⟨z0, z1, z2, z3, z4, z5, z6, z7, z8, z9⟩ := HP.out.2.2.1.tenf
      have HZ := HP.out.set (by omega) (by omega) (.slice ao L.length ca)
      have HZ' : Hid _ := HZ
      clear HZ
      go_wp2_with fail
      exact ref_endA (d := cE c L) (q := ⟨ao, ca, q.lo, q.lc, q.so, q.sc⟩) (r := 4) HZ'.out.1 HZ'.out.2.1 HZ'.out.2.2 (by omega) (by omega) rfl rfl rfl rfl

end Go.Proofs.YtgkddimijmnpcaaGreatDoor

