/-
  the document's PutEntry: the answer's Seen lies apart.
-/
import Derived.Test.YtgkddimijmnpcaaGreatDoorZRefPut9
import Derived.Test.YtgkddimijmnpcaaGreatDoorZRefDropA12
namespace Go.Proofs.YtgkddimijmnpcaaGreatDoor
open Go.RowKit Go.Shelf
set_option linter.unusedVariables false
set_option linter.unusedSimpArgs false

theorem rput_endA {fn : Func} {act : Act} {w W : World} {h : Nat} {d : Ce} {q : Pl} {A : Prop} {R : Ending → World → Prop} (hB : Below h w W) (HA : Has W (h + 2) (ceL ce0 pl0)) (HO : COwnE (h + 3) W d q) (hA : A) (hr : fn.results = #[.cell 6 30, .tmp 7]) (h6 : act.tmps[6]? = some (.pointer (some ⟨h + 2, 0, none⟩))) (h7 : act.tmps[7]? = some (.int .i64 0)) (hd : act.defers = []) :
    bodyPost Tryz.prog fn (fun e w' => R e w' ∨ (A ∧ ∃ q, e = .returned (.tuple #[ceV d q, .int .i64 0]) ∧ COwnE h w' d q ∧ Below h w w')) Exit.ret act (put10 W (h + 2) (.int .i64 d.kind) (.bool d.set) (.int .i64 d.time) (.int .i64 d.node) (.string d.val) (.int .i64 d.re) (.int .i64 d.im) (.slice q.eo d.ents.length q.ec) (.slice q.lo d.elems.length q.lc) (.slice q.so d.seen.length q.sc)) :=
  bodyPost_ret (ret_cell2 hr h6 h7 (HA.put10 _ _ _ _ _ _ _ _ _ _)) hd (Or.inr ⟨hA, q, rfl, ⟨(HO.1.put10 (by omega) _ _ _ _ _ _ _ _ _ _).mono (by omega), HO.2⟩, below_put10 hB (by omega) _ _ _ _ _ _ _ _ _ _⟩)

set_option maxHeartbeats 2000000 in
set_option maxRecDepth 100000 in
/-- The document's Put, the loop through. -/
theorem rput_anyA (c : Ce) (p : Pl) (d : D2) (v : ByteArray) (w : World) (hr : CRow w c p) (hf : Fit c) (hcap : c.ents.length ≤ p.ec) (hv : v.size ≤ 256) (hm : mayB d.1 d.2 16 = true) (hk : (c.kind != 2) = false) :
    Calls Tryz.prog 73 #[ceV c p, dv d, .string v] w fun e w' =>
      (hasD c.ents d = true ∧ e = .returned (.tuple #[ceV ce0 pl0, .int .i64 900]) ∧ Below w.heap.size w w') ∨
      (hasD c.ents d = false ∧ ∃ q, e = .returned (.tuple #[ceV (cE c (putL c.ents d v)) q, .int .i64 0]) ∧ COwnE w.heap.size w' (cE c (putL c.ents d v)) q ∧ Below w.heap.size w w') := by
  have H0 : Hid (Set3 w w.heap.size c p d.1 d.2 (((w.alloc (.cells (ceL c p).toArray 30)).alloc (.cells #[.int .i64 d.1, .int .i64 d.2] 32)).alloc (.cells (ceL ce0 pl0).toArray 30))) := set3_new _ _ _ _ _ _ _ _
  obtain ⟨h, hh⟩ : ∃ h, w.heap.size = h := ⟨_, rfl⟩
  rw [hh] at H0 ⊢
  have hl := hf.1
  have HR : Hid (CRow w c p ∧ Fit c ∧ w.heap.size = h) := ⟨hr, hf, hh⟩
  have hs1 : decide ((256 : Int) < (v.size : Int)) = false := by simp; omega
  have C := fun W => refMay_any d.1 d.2 16 W
  rw [hm] at C
  obtain ⟨hasB, hhas⟩ : ∃ b, hasD c.ents d = b := ⟨_, rfl⟩
  obtain ⟨L, hL⟩ : ∃ L, putL c.ents d v = L := ⟨_, rfl⟩
  rw [hhas, hL]
  have HL : Hid (putL c.ents d v = L ∧ hasD c.ents d = hasB) := ⟨hL, hhas⟩
  clear hr hf hm hL hhas
  go_enter Tryz.func73, Tryz.ntmps73
  go_wp2_with fail
  refine (C _).mono ?_
  rintro e w1 ⟨rfl, b1⟩
  have H1 : Hid (Set3 w h c p d.1 d.2 w1) := H0.out.later b1
  clear b1 H0 C hh
  have t7 := H1.out.2.1.at 7 rfl
  go_wp2
  clear t7
  go_loopg [8, 9] c.ents.length (fun n s8 s9 wr => ∃ (m k : Nat) (z : Int), m = n ∧ m ≤ c.ents.length ∧ s9 = .int .i64 z ∧ z = (m : Int) - 1 ∧ s8 = .int .i64 k ∧ Hid (k = m + placeD (c.ents.drop m) d) ∧ Hid (∀ (j : Nat) x, m ≤ j → c.ents[j]? = some x → dotE x ≠ d) ∧ Hid (Set3 w h c p d.1 d.2 wr))
  case atStart => exact ⟨c.ents.length, c.ents.length, _, rfl, Nat.le_refl _, rfl, rfl, rfl, by show c.ents.length = _; simp [placeD], fun j x hj hx => by have := (List.getElem?_eq_some_iff.1 hx).1; omega, H1.out⟩
  case round =>
    clear H1
    obtain ⟨m, k, z, rfl, hml, rfl, hz, rfl, HK, HA, HS⟩ := hrel
    cases m with
    | zero =>
      obtain rfl : z = -1 := by omega
      clear hz
      have hkn : k ≤ c.ents.length := by
        have := HK.out
        have h2 := place_le (c.ents.drop 0) d
        rw [List.drop_zero] at *
        omega
      have HB : Hid (hasB = false ∧ insE c.ents k ⟨d.1, d.2, v⟩ = L) := by
        refine ⟨?_, ?_⟩
        · rw [← HL.out.2]
          show hasD c.ents d = false
          unfold hasD
          rw [List.any_eq_false]
          intro x hx
          obtain ⟨j, hj⟩ := List.getElem?_of_mem hx
          simpa using HA.out j x (Nat.zero_le _) hj
        · rw [← HL.out.1, HK.out, List.drop_zero, Nat.zero_add]
          rfl
      have HE0 : Hid (Set3 w h c p d.1 d.2 wr) := HS.out
      clear HK HA HS HL
      have t7 := HE0.out.2.1.at 7 rfl
      obtain ⟨n1, hn1⟩ : ∃ n, wr.heap.size = n := ⟨_, rfl⟩
      have hn3 : h + 3 ≤ n1 := by have := HE0.out.size; omega
      have HRow : Hid (FRow wr p.eo (flatE c.ents)) := (HR.out.1.later (HR.out.2.2.symm ▸ HE0.out.1)).1
      have HT : Hid (FRow (wr.alloc (.cells #[] 62)) p.eo (flatE (c.ents.take k))) := frow_take (HRow.out.later ((Below.refl _ _).alloc (Nat.le_refl _) _)) k
      have HO : Hid ((wr.alloc (.cells #[] 62)).ownsRow (h + 3) 62 3 (.slice (some ⟨n1, 0, none⟩) 0 0) 0 []) := own_mono (own_empty hn1) hn3
      have HA1 : Hid (Below wr.heap.size wr (wr.alloc (.cells #[] 62)) ∧ h + 3 ≤ wr.heap.size) := ⟨(Below.refl _ _).alloc (Nat.le_refl _) _, by omega⟩
      have hlt8 : h < n1 := by omega
      go_upto_region 11 with fail
      go_cut [10] from 11 to 77 (fun s wx => ∃ (ao : Option Addr) (ca : Nat), s = .slice ao k ca ∧ Hid (El w h (h + 3) (h + 2) c p (c.ents.take k) ao ca wx ∧ Has wx (h + 1) [.int .i64 d.1, .int .i64 d.2]))
      case first =>
        have hlk : (flatE (c.ents.take k)).length = k * 3 := by rw [flatE_len, List.length_take]; congr 1; omega
        cases hpe : p.eo with
        | none =>
          have HT2 : Hid (FRow (wr.alloc (.cells #[] 62)) none (flatE (c.ents.take k))) := hpe ▸ HT.out
          rw [hpe] at t7
          clear hpe
          go_wp2_with (first
          | (at_builtin
             refine wpList_onto rfl _ _ 26 rfl Tryz.underlying26 Tryz.infoEntry rfl (by decide) (by decide) (B := h + 3) rfl rfl HO.out HT2.out hlk (fun u hu => oneE hu) (by omega) (by simp [hn1]; omega) ?_
             intro ao ca w2 o2 n2 b2
             simp only [Nat.zero_add, List.nil_append] at o2 ⊢
             have H2 : Hid (El w h (h + 3) (h + 2) c p (c.ents.take k) ao ca w2 ∧ Has w2 (h + 1) [.int .i64 d.1, .int .i64 d.2]) := el_of HE0.out HA1.out.1 (by rw [List.length_take]; omega) o2 b2
             clear o2 n2 b2))
          go_meet
          case rel => exact ⟨ao, ca, rfl, H2.out⟩
        | some a =>
          have HT2 : Hid (FRow (wr.alloc (.cells #[] 62)) (some a) (flatE (c.ents.take k))) := hpe ▸ HT.out
          rw [hpe] at t7
          clear hpe
          obtain ⟨ab, aoff, asp⟩ := a
          go_wp2_with (first
          | (at_builtin
             refine wpList_onto rfl _ _ 26 rfl Tryz.underlying26 Tryz.infoEntry rfl (by decide) (by decide) (B := h + 3) rfl rfl HO.out HT2.out hlk (fun u hu => oneE hu) (by omega) (by simp [hn1]; omega) ?_
             intro ao ca w2 o2 n2 b2
             simp only [Nat.zero_add, List.nil_append] at o2 ⊢
             have H2 : Hid (El w h (h + 3) (h + 2) c p (c.ents.take k) ao ca w2 ∧ Has w2 (h + 1) [.int .i64 d.1, .int .i64 d.2]) := el_of HE0.out HA1.out.1 (by rw [List.length_take]; omega) o2 b2
             clear o2 n2 b2))
          go_meet
          case rel => exact ⟨ao, ca, rfl, H2.out⟩
      case rest =>
        obtain ⟨w2, rfl⟩ : ∃ z, z = wc := ⟨_, rfl⟩
        obtain ⟨ao, ca, rfl, HQ⟩ := hcut
        clear t7 HT HO HA1 hn1 hn3 hlt8 HRow HE0
        have r0 := HQ.out.2.at 0 rfl
        have r1 := HQ.out.2.at 1 rfl
        obtain ⟨n2, hn2⟩ : ∃ n, w2.heap.size = n := ⟨_, rfl⟩
        have hl2 : h + 1 < n2 := by have := HQ.out.2.1; omega
        have hsz2 : h + 3 ≤ w2.heap.size := by have := HQ.out.1.2.2.1.1; omega
        have R2 : FRow (w2.alloc (.cells #[.int .i64 d.1, .int .i64 d.2, .string v] 62)) (some ⟨n2, 0, none⟩) [.int .i64 d.1, .int .i64 d.2, .string v] := frow_newAt hn2 [.int .i64 d.1, .int .i64 d.2, .string v] _
        have hok : w2.ownsRow (h + 3) 62 3 (.slice ao k ca) k (flatE (c.ents.take k)) := by
          have := HQ.out.1.2.2.2.1
          rw [List.length_take, Nat.min_eq_left hkn] at this
          exact this
        have HOK : Hid (w2.ownsRow (h + 3) 62 3 (.slice ao k ca) k (flatE (c.ents.take k))) := hok
        clear hok
        go_upto_region 13 with (first
          | (at_builtin
             refine wpList_onto rfl _ _ 26 rfl Tryz.underlying26 Tryz.infoEntry rfl (by decide) (by decide) (B := h + 3) rfl rfl (own_later HOK.out ((Below.refl _ _).alloc (Nat.le_refl _) _)) R2 rfl (fun u hu => oneE (l := [⟨d.1, d.2, v⟩]) (by simpa [flatE] using hu)) (by omega) (by simp; omega) ?_
             intro ao3 ca3 w3 o3 n3 b3
             have H3 : Hid (El w h (h + 3) (h + 2) c p (c.ents.take k ++ [⟨d.1, d.2, v⟩]) ao3 ca3 w3 ∧ w3.ownsRow (h + 3) 62 3 (.slice ao3 (k + 1) ca3) (k + 1) (flatE (c.ents.take k ++ [⟨d.1, d.2, v⟩]))) := ⟨HQ.out.1.grown (m := [⟨d.1, d.2, v⟩]) (k := 1) ((Below.refl _ _).alloc (Nat.le_refl _) _) hsz2 rfl (by rw [List.length_take, Nat.min_eq_left hkn]; exact o3) b3, by rw [flatE_append]; exact o3⟩
             clear o3 n3 b3))
        clear R2 HOK HQ r0 r1 hn2 hl2
        have HRow : Hid (FRow w3 p.eo (flatE c.ents)) := (HR.out.1.later (HR.out.2.2.symm ▸ H3.out.1.1)).1
        have t7 := H3.out.1.2.1.at 7 rfl
        have hsz3 : h + 3 ≤ w3.heap.size := by have := H3.out.1.2.2.1.1; omega
        have hld : (flatE (c.ents.drop k)).length = (c.ents.length - k) * 3 := by rw [flatE_len, List.length_drop]
        have hLl : L.length = c.ents.length + 1 := by rw [← HB.out.2]; exact insE_len _ _ _ hkn
        go_cut [10] from 11 to 77 (fun s wx => ∃ (ao : Option Addr) (ca : Nat), s = .slice ao L.length ca ∧ Hid (El w h (h + 3) (h + 2) c p L ao ca wx))
        case first =>
          by_cases hlt : k < c.ents.length
          · obtain ⟨bk, off, ea, hb, _⟩ := HRow.out (by rw [flatE_len]; omega)
            have ROW : Hid (FRow w3 (some ⟨bk, off + k * 3, none⟩) (flatE (c.ents.drop k))) := frow_drop (ea ▸ HRow.out) k
            rw [ea] at t7
            have hck : ¬ (p.ec = k) := by omega
            clear ea hb HRow
            go_wp2_with (first
              | (at_builtin
                 refine wpList_onto rfl _ _ 26 rfl Tryz.underlying26 Tryz.infoEntry rfl (by decide) (by decide) (B := h + 3) rfl rfl H3.out.2 ROW.out hld (fun u hu => oneE hu) (by omega) hsz3 ?_
                 intro ao4 ca4 w4 o4 n4 b4
                 have H4 : Hid (El w h (h + 3) (h + 2) c p L ao4 ca4 w4) := by
                   have := H3.out.1.grown (m := c.ents.drop k) (k := c.ents.length - k) (Below.refl _ _) hsz3 (by rw [List.length_drop]) (by rw [List.length_append, List.length_take, Nat.min_eq_left hkn]; exact o4) b4
                   rw [List.append_assoc] at this
                   exact HB.out.2 ▸ this
                 clear o4 n4 b4))
            go_meet
            case rel => exact ⟨ao4, ca4, by congr 1; omega, H4.out⟩
          · have hnil : Hid (flatE (c.ents.drop k) = []) := by
              show flatE (c.ents.drop k) = []
              rw [List.drop_eq_nil_of_le (by omega)]; rfl
            have hld0 : (flatE (c.ents.drop k)).length = 0 * 3 := by rw [hnil.out]; rfl
            have hz0 : c.ents.length - k = 0 := by omega
            have hdl : Hid ((c.ents.drop k).length = 0) := by show (c.ents.drop k).length = 0; rw [List.length_drop]; omega
            clear HRow
            cases hpe : p.eo with
            | none =>
              rw [hpe] at t7
              clear hpe
              by_cases hck : p.ec = k
              · go_wp2_with (first
                  | (at_builtin
                     refine wpList_onto rfl _ _ 26 rfl Tryz.underlying26 Tryz.infoEntry rfl (by decide) (by decide) (B := h + 3) rfl rfl H3.out.2 (frow_nil hnil.out) hld0 (fun u hu => oneE hu) (by omega) hsz3 ?_
                     intro ao4 ca4 w4 o4 n4 b4
                     have H4 : Hid (El w h (h + 3) (h + 2) c p L ao4 ca4 w4) := by
                       have := H3.out.1.grown (m := c.ents.drop k) (k := 0) (Below.refl _ _) hsz3 hdl.out.symm (by rw [List.length_append, List.length_take, Nat.min_eq_left hkn]; exact o4) b4
                       rw [List.append_assoc] at this
                       exact HB.out.2 ▸ this
                     clear o4 n4 b4))
                go_meet
                case rel => exact ⟨ao4, ca4, by congr 1; omega, H4.out⟩
              · go_wp2_with (first
                  | (at_builtin
                     refine wpList_onto rfl _ _ 26 rfl Tryz.underlying26 Tryz.infoEntry rfl (by decide) (by decide) (B := h + 3) rfl rfl H3.out.2 (frow_nil hnil.out) hld0 (fun u hu => oneE hu) (by omega) hsz3 ?_
                     intro ao4 ca4 w4 o4 n4 b4
                     have H4 : Hid (El w h (h + 3) (h + 2) c p L ao4 ca4 w4) := by
                       have := H3.out.1.grown (m := c.ents.drop k) (k := 0) (Below.refl _ _) hsz3 hdl.out.symm (by rw [List.length_append, List.length_take, Nat.min_eq_left hkn]; exact o4) b4
                       rw [List.append_assoc] at this
                       exact HB.out.2 ▸ this
                     clear o4 n4 b4))
                go_meet
                case rel => exact ⟨ao4, ca4, by congr 1; omega, H4.out⟩
            | some ad =>
              rw [hpe] at t7
              clear hpe
              obtain ⟨ab, aoff, asp⟩ := ad
              by_cases hck : p.ec = k
              · go_wp2_with (first
                  | (at_builtin
                     refine wpList_onto rfl _ _ 26 rfl Tryz.underlying26 Tryz.infoEntry rfl (by decide) (by decide) (B := h + 3) rfl rfl H3.out.2 (frow_nil hnil.out) hld0 (fun u hu => oneE hu) (by omega) hsz3 ?_
                     intro ao4 ca4 w4 o4 n4 b4
                     have H4 : Hid (El w h (h + 3) (h + 2) c p L ao4 ca4 w4) := by
                       have := H3.out.1.grown (m := c.ents.drop k) (k := 0) (Below.refl _ _) hsz3 hdl.out.symm (by rw [List.length_append, List.length_take, Nat.min_eq_left hkn]; exact o4) b4
                       rw [List.append_assoc] at this
                       exact HB.out.2 ▸ this
                     clear o4 n4 b4))
                go_meet
                case rel => exact ⟨ao4, ca4, by congr 1; omega, H4.out⟩
              · go_wp2_with (first
                  | (at_builtin
                     refine wpList_onto rfl _ _ 26 rfl Tryz.underlying26 Tryz.infoEntry rfl (by decide) (by decide) (B := h + 3) rfl rfl H3.out.2 (frow_nil hnil.out) hld0 (fun u hu => oneE hu) (by omega) hsz3 ?_
                     intro ao4 ca4 w4 o4 n4 b4
                     have H4 : Hid (El w h (h + 3) (h + 2) c p L ao4 ca4 w4) := by
                       have := H3.out.1.grown (m := c.ents.drop k) (k := 0) (Below.refl _ _) hsz3 hdl.out.symm (by rw [List.length_append, List.length_take, Nat.min_eq_left hkn]; exact o4) b4
                       rw [List.append_assoc] at this
                       exact HB.out.2 ▸ this
                     clear o4 n4 b4))
                go_meet
                case rel => exact ⟨ao4, ca4, by congr 1; omega, H4.out⟩
        case rest =>
          obtain ⟨wr4, rfl⟩ : ∃ z, z = wc := ⟨_, rfl⟩
          obtain ⟨ao4, ca4, rfl, HE⟩ := hcut
          clear t7 HRow H3 hsz3 hld hLl
          have hsz : h + 3 ≤ wr4.heap.size := by have := HE.out.2.2.1.1; omega
          obtain ⟨t0, t1, t2, t3, t4, t5, t6, t7, t8, t9⟩ := HE.out.2.1.ten
          go_wp2_with fail
          refine (rcopy_any c p _ (HR.out.1.later (HR.out.2.2.symm ▸ HE.out.1)) HR.out.2.1).mono ?_
          rintro e w5 ⟨q, rfl, o2, b2⟩
          have HP : Hid (CpA w h (h + 3) (h + 2) c q L ao4 ca4 (put10 w5 h (.int .i64 c.kind) (.bool c.set) (.int .i64 c.time) (.int .i64 c.node) (.string c.val) (.int .i64 c.re) (.int .i64 c.im) (.slice q.eo c.ents.length q.ec) (.slice q.lo c.elems.length q.lc) (.slice q.so c.seen.length q.sc))) := cp_ofA HE.out hsz o2 b2
          have H2 := HE.out.2.1.later b2
          clear t0 t1 t2 t3 t4 t5 t6 t7 t8 t9 o2 b2 HE
          obtain ⟨t0, t1, t2, t3, t4, t5, t6, t7, t8, t9⟩ := H2.ten
          obtain ⟨f0, f1, f2, f3, f4, f5, f6, f7, f8, f9⟩ := H2.tenf
          clear H2
          go_upto_region 15 with fail
          dsimp only [put10] at HP
          clear t0 t1 t2 t3 t4 t5 t6 t7 t8 t9 f0 f1 f2 f3 f4 f5 f6 f7 f8 f9
          generalize hW : World.setCell _ (⟨h, 9, none⟩ : Addr) _ = w6 at HP ⊢
          clear hW
          obtain ⟨t0, t1, t2, t3, t4, t5, t6, t7, t8, t9⟩ := HP.out.2.1.ten
          have f7 := HP.out.2.1.free 7 rfl
          obtain ⟨s0, s1, s2, s3, s4, s5, s6, s7, s8, s9⟩ := HP.out.2.2.1.ten
          obtain ⟨z0, z1, z2, z3, z4, z5, z6, z7, z8, z9⟩ := HP.out.2.2.1.tenf
          have HZ := HP.out.set (by omega) (by omega) (.slice ao4 L.length ca4)
          have HZ' : Hid _ := HZ
          clear HZ
          go_wp2_with fail
          exact rput_endA (d := cE c L) (q := ⟨ao4, ca4, q.lo, q.lc, q.so, q.sc⟩) HZ'.out.1 HZ'.out.2.1 HZ'.out.2.2 HB.out.1 rfl rfl rfl rfl
    | succ i =>
      obtain rfl : z = (i : Int) := by omega
      clear hz
      have hi : i < c.ents.length := by omega
      obtain ⟨bk, off, ea, hb, hc⟩ := HR.out.1.1 (by rw [flatE_len]; omega)
      obtain ⟨x, hx⟩ : ∃ x, c.ents[i]? = some x := ⟨_, List.getElem?_eq_getElem hi⟩
      obtain ⟨g0, g1, g2⟩ := flatE_at c.ents i hx
      have hb1 : bk < h := HR.out.2.2 ▸ hb
      have t7 := HS.out.2.1.at 7 rfl
      rw [ea] at t7
      have hbel := HS.out.1
      have k0 := (hbel.cell (p := ⟨bk, off + i * 3, none⟩) (by exact hb1)).trans (hc _ _ g0)
      have k1 := (hbel.cell (p := ⟨bk, off + i * 3 + 1, none⟩) (by exact hb1)).trans (hc _ _ g1)
      have r0 := HS.out.2.2.1.at 0 rfl
      have r1 := HS.out.2.2.1.at 1 rfl
      have HX : Hid (c.ents[i]? = some x) := hx
      clear hc hx g0 g1 g2 hb ea hbel
      obtain ⟨x1, x2, xv⟩ := x
      obtain ⟨d1, d2⟩ := d
      simp only at k0 k1 r0 r1
      have hhw : h + 1 < wr.heap.size := by have := HS.out.size; omega
      have hbw : bk < wr.heap.size := by omega
      by_cases hq : x1 = d1 ∧ x2 = d2
      · obtain ⟨rfl, rfl⟩ := hq
        have HB : Hid (hasB = true) := by
          show hasB = true
          rw [← HL.out.2]
          exact List.any_eq_true.2 ⟨_, List.mem_of_getElem? HX.out, by simp⟩
        obtain ⟨s0, s1, s2, s3, s4, s5, s6, s7, s8, s9⟩ := HS.out.2.2.2.ten
        obtain ⟨z0, z1, z2, z3, z4, z5, z6, z7, z8, z9⟩ := HS.out.2.2.2.tenf
        clear hhw hbw
        go_wp2_with fail
        go_region
        all_goals go_wp2_with fail
        exact rput_no_end HS.out HB.out rfl rfl rfl rfl
      · have HQ : Hid (¬ (x1 = d1 ∧ x2 = d2)) := hq
        by_cases h1 : x1 = d1
        · have h1' : (x1 == d1) = true := by simpa using h1
          have h2' : (x2 == d2) = false := by simpa using fun e => hq ⟨h1, e⟩
          clear hq h1
          go_wp2_with fail
          go_region
          all_goals go_upto_region 9 with fail
          have HS2 : Hid (Set3 w h c p d1 d2 wr.drew) := HS.out.later (Below.refl _ _).drew
          have HW : Hid (HeldQ wr h bk (off + i * 3) (some ⟨bk, off, none⟩) c.ents.length p.ec (x1, x2) (d1, d2) wr.drew.drew) := ⟨(Below.refl _ _).drew.drew, t7, k0, k1, r0, r1⟩
          cases hlt : ltD (d1, d2) (x1, x2) with
          | true =>
            have CL := fun W => dotLess_any (d1, d2) (x1, x2) W
            rw [hlt] at CL
            have HT : Hid (ltD (d1, d2) (x1, x2) = true) := hlt
            clear hlt
            go_region_held3 (HeldQ wr h bk (off + i * 3) (some ⟨bk, off, none⟩) c.ents.length p.ec (x1, x2) (d1, d2)) (first | exact heldQ_later hbw hhw hb2 (by assumption) | exact HW.out)
              (first | (go_at_call 91; refine (CL _).mono ?_; rintro e w2 ⟨rfl, hb2⟩))
            all_goals go_wp2
            all_goals go_roundg i
            case measure => omega
            case rel =>
              refine ⟨i, i, _, rfl, by omega, rfl, by omega, rfl, ?_, ?_, HS.out.later (‹HeldQ wr h bk (off + i * 3) (some ⟨bk, off, none⟩) c.ents.length p.ec (x1, x2) (d1, d2) _›).1.out⟩
              · show i = i + placeD (c.ents.drop i) (d1, d2)
                rw [drop_cons HX.out, placeD_cons_yes HT.out]; rfl
              · exact hasnt_step HX.out (by simpa using HQ.out) HA.out
          | false =>
            have CL := fun W => dotLess_any (d1, d2) (x1, x2) W
            rw [hlt] at CL
            have HT : Hid (ltD (d1, d2) (x1, x2) = false) := hlt
            clear hlt
            go_region_held3 (HeldQ wr h bk (off + i * 3) (some ⟨bk, off, none⟩) c.ents.length p.ec (x1, x2) (d1, d2)) (first | exact heldQ_later hbw hhw hb2 (by assumption) | exact HW.out)
              (first | (go_at_call 91; refine (CL _).mono ?_; rintro e w2 ⟨rfl, hb2⟩))
            all_goals go_wp2
            all_goals go_roundg i
            case measure => omega
            case rel =>
              refine ⟨i, k, _, rfl, by omega, rfl, by omega, rfl, ?_, ?_, HS.out.later (‹HeldQ wr h bk (off + i * 3) (some ⟨bk, off, none⟩) c.ents.length p.ec (x1, x2) (d1, d2) _›).1.out⟩
              · show k = i + placeD (c.ents.drop i) (d1, d2)
                rw [drop_cons HX.out, placeD_cons_no HT.out, HK.out]; omega
              · exact hasnt_step HX.out (by simpa using HQ.out) HA.out
        · have h1' : (x1 == d1) = false := by simpa using h1
          clear hq h1
          go_wp2_with fail
          go_region
          all_goals go_upto_region 9 with fail
          have HS2 : Hid (Set3 w h c p d1 d2 wr.drew) := HS.out.later (Below.refl _ _).drew
          have HW : Hid (HeldQ wr h bk (off + i * 3) (some ⟨bk, off, none⟩) c.ents.length p.ec (x1, x2) (d1, d2) wr.drew.drew) := ⟨(Below.refl _ _).drew.drew, t7, k0, k1, r0, r1⟩
          cases hlt : ltD (d1, d2) (x1, x2) with
          | true =>
            have CL := fun W => dotLess_any (d1, d2) (x1, x2) W
            rw [hlt] at CL
            have HT : Hid (ltD (d1, d2) (x1, x2) = true) := hlt
            clear hlt
            go_region_held3 (HeldQ wr h bk (off + i * 3) (some ⟨bk, off, none⟩) c.ents.length p.ec (x1, x2) (d1, d2)) (first | exact heldQ_later hbw hhw hb2 (by assumption) | exact HW.out)
              (first | (go_at_call 91; refine (CL _).mono ?_; rintro e w2 ⟨rfl, hb2⟩))
            all_goals go_wp2
            all_goals go_roundg i
            case measure => omega
            case rel =>
              refine ⟨i, i, _, rfl, by omega, rfl, by omega, rfl, ?_, ?_, HS.out.later (‹HeldQ wr h bk (off + i * 3) (some ⟨bk, off, none⟩) c.ents.length p.ec (x1, x2) (d1, d2) _›).1.out⟩
              · show i = i + placeD (c.ents.drop i) (d1, d2)
                rw [drop_cons HX.out, placeD_cons_yes HT.out]; rfl
              · exact hasnt_step HX.out (by simpa using HQ.out) HA.out
          | false =>
            have CL := fun W => dotLess_any (d1, d2) (x1, x2) W
            rw [hlt] at CL
            have HT : Hid (ltD (d1, d2) (x1, x2) = false) := hlt
            clear hlt
            go_region_held3 (HeldQ wr h bk (off + i * 3) (some ⟨bk, off, none⟩) c.ents.length p.ec (x1, x2) (d1, d2)) (first | exact heldQ_later hbw hhw hb2 (by assumption) | exact HW.out)
              (first | (go_at_call 91; refine (CL _).mono ?_; rintro e w2 ⟨rfl, hb2⟩))
            all_goals go_wp2
            all_goals go_roundg i
            case measure => omega
            case rel =>
              refine ⟨i, k, _, rfl, by omega, rfl, by omega, rfl, ?_, ?_, HS.out.later (‹HeldQ wr h bk (off + i * 3) (some ⟨bk, off, none⟩) c.ents.length p.ec (x1, x2) (d1, d2) _›).1.out⟩
              · show k = i + placeD (c.ents.drop i) (d1, d2)
                rw [drop_cons HX.out, placeD_cons_no HT.out, HK.out]; omega
              · exact hasnt_step HX.out (by simpa using HQ.out) HA.out

end Go.Proofs.YtgkddimijmnpcaaGreatDoor

