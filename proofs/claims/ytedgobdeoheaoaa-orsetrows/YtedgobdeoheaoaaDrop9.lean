/-
  Package orset's Drop, by contract.
-/
import Derived.Test.YtedgobdeoheaoaaSort9
import Derived.Test.YtedgobdeoheaoaaDel9
import Derived.Test.YtedgobdeoheaoaaFreshOwn
import Derived.Test.YtedgobdeoheaoaaCeGen
namespace Go.Proofs.Ytedgobdeoheaoaa
open Go.RowKit Go.Shelf
set_option linter.unusedVariables false
set_option linter.unusedSimpArgs false

set_option maxHeartbeats 400000 in
set_option maxRecDepth 100000 in
/-- The closure of Drop: is the entry's dot among the sorted ones? -/
theorem dropIs_any (m : List D2) (so : Option Addr) (cs k : Nat) (W : World) (x : E3) (h0 : W.cell? ⟨k, 0, none⟩ = some (.slice so m.length cs)) (hk : k < W.heap.size) (hr : FRow W so (flatD m)) (hl : m.length * 16 ≤ 140737488355328) (hu : Up m) :
    Calls Try.prog 41 #[ev x, .pointer (some ⟨k, 0, none⟩)] W fun e w' => e = .returned (.bool (decide (dotE x ∈ m))) ∧ Below W.heap.size W w' := by
  have hal : Below W.heap.size W (W.alloc (.cells #[.int .i64 x.node, .int .i64 x.seq, .string x.val] 65)) := (Below.refl _ _).alloc (Nat.le_refl _) _
  have C := bsearch_any (dotE x) so cs m (W.alloc (.cells #[.int .i64 x.node, .int .i64 x.seq, .string x.val] 65)) (hr.later hal) hl hu
  have hne : k ≠ W.heap.size := by omega
  generalize decide (dotE x ∈ m) = q at C ⊢
  clear hr hu
  go_enter Try.func41, Try.ntmps41
  go_wp2_with fail
  refine C.mono ?_
  rintro e w1 ⟨r, rfl, b1⟩
  go_wp2
  go_ret
  exact ⟨rfl, thenB hal b1⟩

theorem enters_drop : ∀ args w, (callFunc 41 args).run Try.prog w = .ok (.enter 41 args) w := enters_of Try.func41 (by kernel_rfl) rfl

/-- A cell with other entries. -/
abbrev cE (c : Ce) (l : List E3) : Ce := ⟨c.kind, c.set, c.time, c.node, c.val, c.re, c.im, l, c.elems, c.seen⟩
/-- Without the entries of those dots. -/
def dropL (l : List E3) (ds : List D2) : List E3 := l.filter fun x => !decide (dotE x ∈ ds)

theorem drop_same {ds m : List D2} (h : ∀ t, t ∈ m ↔ t ∈ ds) (l : List E3) : (l.filter fun x => !decide (dotE x ∈ m)) = dropL l ds := by
  unfold dropL
  congr 1
  funext x
  simp [h]

set_option maxHeartbeats 400000 in
set_option maxRecDepth 100000 in
/-- Drop refuses. -/
theorem drop_no (c : Ce) (p : Pl) (v : Value) (w : World) (hk : (c.kind != 2) = true) :
    Calls Try.prog 12 #[ceV c p, v] w fun e w' => e = .returned (.tuple #[ceV ce0 pl0, .int .i64 900]) ∧ Below w.heap.size w w' := by
  have H0 : Hid (Copy0 w w.heap.size c p (((w.alloc (.cells (ceL c p).toArray 30)).alloc (.cells (ceL ce0 pl0).toArray 30)))) := copy0_new w c p 30
  obtain ⟨h, hh⟩ : ∃ h, w.heap.size = h := ⟨_, rfl⟩
  rw [hh] at H0 ⊢
  go_enter Try.func12, Try.ntmps12
  go_wp2_with fail
  exact bodyPost_ret (ret_cell2 rfl rfl rfl H0.out.2.2) rfl ⟨rfl, H0.out.1⟩

/-- A list stays while a cell of a block that is younger is set. -/
theorem fown_young {B C k o : Nat} {w1 w5 : World} {ao : Option Addr} {xs : List Value} (F1 : FOwn C w1 ao xs) (hk : w1.heap.size ≤ k) (F5 : FOwn B w5 ao xs) (v : Value) : FOwn B (w5.setCell ⟨k, o, none⟩ v) ao xs := fun h0 => by
  obtain ⟨b1, e1, _, l1, _⟩ := F1 h0
  obtain ⟨b, h1, h4, h2, h3⟩ := F5 h0
  rw [e1] at h1
  simp only [Option.some.injEq, Addr.mk.injEq, and_true] at h1
  subst h1
  refine ⟨b1, e1, h4, by simpa using h2, fun i u hu => ⟨?_, by rw [World.frozen?_setCell]; exact (h3 i u hu).2⟩⟩
  rw [World.cell?_setCell_other _ _ _ _ (fun e => by injection e with e _ _; omega)]
  exact (h3 i u hu).1

/-- .. if its block is another one. -/
theorem fown_apart {B k o : Nat} {w5 : World} {ao : Option Addr} {xs : List Value} (F5 : FOwn B w5 ao xs) (hk : ∀ b, ao = some ⟨b, 0, none⟩ → b ≠ k) (v : Value) : FOwn B (w5.setCell ⟨k, o, none⟩ v) ao xs := fun h0 => by
  obtain ⟨b, h1, h4, h2, h3⟩ := F5 h0
  have hb := hk b h1
  refine ⟨b, h1, h4, by simpa using h2, fun i u hu => ⟨?_, by rw [World.frozen?_setCell]; exact (h3 i u hu).2⟩⟩
  rw [World.cell?_setCell_other _ _ _ _ (fun e => by injection e with e _ _; first | exact hb e | exact hb e.symm)]
  exact (h3 i u hu).1

/-- The end of a call that is taken. -/
theorem drop_end {fn : Func} {act : Act} {w W : World} {h : Nat} {d : Ce} {q : Pl} {r4 : Nat} (hB : Below h w W) (HA : Has W (h + 1) (ceL ce0 pl0)) (HO : COwn (h + 2) W d q) (hr : fn.results = #[.cell r4 30, .tmp (r4 + 1)]) (h6 : act.tmps[r4]? = some (.pointer (some ⟨h + 1, 0, none⟩))) (h7 : act.tmps[r4 + 1]? = some (.int .i64 0)) (hd : act.defers = []) :
    bodyPost Try.prog fn (fun e w' => ∃ q, e = .returned (.tuple #[ceV d q, .int .i64 0]) ∧ COwn h w' d q ∧ Below h w w') Exit.ret act (put10 W (h + 1) (.int .i64 d.kind) (.bool d.set) (.int .i64 d.time) (.int .i64 d.node) (.string d.val) (.int .i64 d.re) (.int .i64 d.im) (.slice q.eo d.ents.length q.ec) (.slice q.lo d.elems.length q.lc) (.slice q.so d.seen.length q.sc)) :=
  bodyPost_ret (ret_cell2 hr h6 h7 (HA.put10 _ _ _ _ _ _ _ _ _ _)) hd ⟨q, rfl, (HO.put10 (by omega) _ _ _ _ _ _ _ _ _ _).mono (by omega), below_put10 hB (by omega) _ _ _ _ _ _ _ _ _ _⟩

set_option maxHeartbeats 1000000 in
set_option maxRecDepth 100000 in
/-- Drop takes it. -/
theorem drop_yes (c : Ce) (p : Pl) (ao : Option Addr) (ca : Nat) (ds : List D2) (w : World) (hr : CRow w c p) (hf : Fit c) (hds : FRow w ao (flatD ds)) (hl : ds.length * 16 ≤ 140737488355328) (hk : (c.kind != 2) = false) :
    Calls Try.prog 12 #[ceV c p, .slice ao ds.length ca] w fun e w' => ∃ q, e = .returned (.tuple #[ceV (cE c (dropL c.ents ds)) q, .int .i64 0]) ∧ COwn w.heap.size w' (cE c (dropL c.ents ds)) q ∧ Below w.heap.size w w' := by
  have H0 : Hid (Copy0 w w.heap.size c p (((w.alloc (.cells (ceL c p).toArray 30)).alloc (.cells (ceL ce0 pl0).toArray 30)))) := copy0_new w c p 30
  obtain ⟨h, hh⟩ : ∃ h, w.heap.size = h := ⟨_, rfl⟩
  rw [hh] at H0 ⊢
  have HR : Hid (CRow w c p ∧ Fit c ∧ FRow w ao (flatD ds) ∧ w.heap.size = h) := ⟨hr, hf, hds, hh⟩
  obtain ⟨L, hL⟩ : ∃ L, dropL c.ents ds = L := ⟨_, rfl⟩
  rw [hL]
  have HL : Hid (dropL c.ents ds = L) := hL
  clear hr hf hds hL
  go_enter Try.func12, Try.ntmps12
  go_wp2_with (first
    | (at_builtin
       refine wpList_onto rfl _ _ 33 rfl Try.underlying33 Try.infoDot rfl (by decide) (by decide) (B := h + 2) rfl rfl (own_nil _ (h + 2) _ _) (HR.out.2.2.1.later (HR.out.2.2.2.symm ▸ H0.out.1)) (flatD_len _) (fun u hu => oneD hu) (by omega) H0.out.size ?_
       intro so cs w1 o1 n1 b1
       clear n1
       simp only [Nat.zero_add, List.nil_append] at o1 ⊢
       have H1 : Hid (Copy0 w h c p w1 ∧ w1.ownsRow (h + 2) 32 2 (.slice so ds.length cs) ds.length (flatD ds)) := ⟨⟨H0.out.1.trans (b1.mono (by omega)), H0.out.2.1.under (by omega) b1, H0.out.2.2.under (by omega) b1⟩, o1⟩
       clear o1 b1 H0
       obtain ⟨k6, hk6⟩ : ∃ k, w1.heap.size = k := ⟨_, rfl⟩))
  have hal : Below w1.heap.size w1 (w1.alloc (.cells #[.slice so ds.length cs] 33)) := (Below.refl _ _).alloc (Nat.le_refl _) _
  have H2 : Hid (Copy0 w h c p (w1.alloc (.cells #[.slice so ds.length cs] 33)) ∧ (w1.alloc (.cells #[.slice so ds.length cs] 33)).ownsRow (h + 2) 32 2 (.slice so ds.length cs) ds.length (flatD ds) ∧ Has (w1.alloc (.cells #[.slice so ds.length cs] 33)) k6 [.slice so ds.length cs] ∧ h + 2 ≤ k6 ∧ (∀ g, (Value.slice so ds.length cs).ownBlock = some g → g < k6 ∧ h + 2 ≤ g)) :=
    ⟨H1.out.1.later hal, own_later H1.out.2 hal, hk6 ▸ has_new w1 [.slice so ds.length cs] _, by have := H1.out.1.size; omega, fun g hg => ⟨hk6 ▸ (H1.out.2.lt g hg).2, (H1.out.2.lt g hg).1⟩⟩
  clear H1 hal
  refine (sort_any (h + 2) so cs ds _ H2.out.2.1 hl H2.out.1.size).mono ?_
  rintro e w2 ⟨rfl, m, hml, hmem, hup, o2, g2⟩
  have H3 : Hid (Below h w w2 ∧ Has w2 h (ceL c p) ∧ Has w2 (h + 1) (ceL ce0 pl0) ∧ Has w2 k6 [.slice so ds.length cs] ∧ FRow w2 so (flatD m) ∧ Up m ∧ (∀ t, t ∈ m ↔ t ∈ ds) ∧ m.length = ds.length) := by
    have hn : ∀ g, g < h + 2 ∨ g = k6 → some g ≠ (Value.slice so ds.length cs).ownBlock := fun g hg e => by
      have := H2.out.2.2.2.2 g e.symm
      omega
    exact ⟨H2.out.1.1.trans (gb_to g2 (by have := H2.out.1.size; omega) fun k hk => by have := (H2.out.2.2.2.2 k hk).2; omega), gb_has g2 H2.out.1.2.1 (hn _ (Or.inl (by omega))), gb_has g2 H2.out.1.2.2 (hn _ (Or.inl (by omega))), gb_has g2 H2.out.2.2.1 (hn _ (Or.inr rfl)), o2.row, hup, hmem, hml⟩
  clear H2 hmem hup o2 g2 hml hk6
  obtain ⟨B, hB⟩ : ∃ B, w2.heap.size = B := ⟨_, rfl⟩
  have hB1 : h + 2 ≤ B := by have := H3.out.2.2.1.1; omega
  have hB6 : k6 < B := by have := H3.out.2.2.2.1.1; omega
  obtain ⟨t0, t1, t2, t3, t4, t5, t6, t7, t8, t9⟩ := H3.out.2.1.ten
  go_wp2_with fail
  refine (fcellO_any c p _ (HR.out.1.later (HR.out.2.2.2.symm ▸ H3.out.1)) HR.out.2.1).mono ?_
  rintro e w3 ⟨q, mid, rfl, P3, b3⟩
  rw [hB] at P3 b3
  obtain ⟨k7, hk7⟩ : ∃ k, w3.heap.size = k := ⟨_, rfl⟩
  have hal : Below w3.heap.size w3 (w3.alloc (.cells (ceL c q).toArray 30)) := (Below.refl _ _).alloc (Nat.le_refl _) _
  have H4 : Hid (Below B w2 (w3.alloc (.cells (ceL c q).toArray 30)) ∧ Has (w3.alloc (.cells (ceL c q).toArray 30)) k7 (ceL c q) ∧ Parts B mid (w3.alloc (.cells (ceL c q).toArray 30)) c q ∧ (∀ g, (Value.slice q.eo c.ents.length q.ec).ownBlock = some g → g < k7) ∧ B ≤ k7) :=
    ⟨b3.trans (hal.mono (by have := b3.size; omega)), hk7 ▸ has_new w3 (ceL c q) _, P3.later hal, fun g hg => hk7 ▸ (P3.1.lt g hg).2, by have := b3.size; omega⟩
  have hsz : (w3.alloc (.cells (ceL c q).toArray 30)).heap.size = k7 + 1 := by simp [hk7]
  have HP : Hid (Pred B (w3.alloc (.cells (ceL c q).toArray 30)) 41 #[.pointer (some ⟨k6, 0, none⟩)] (fun x => decide (dotE x ∈ m))) := fun W x hW hs => by
    have hb : Below B w2 W := H4.out.1.trans hW
    have hb2 : Below w2.heap.size w2 W := hB.symm ▸ hb
    have h6 := H3.out.2.2.2.1.under hB6 hb
    have e := H3.out.2.2.2.2.2.2.2
    exact dropIs_any m so cs k6 W x (by rw [e]; exact h6.at 0 rfl) (by omega) (H3.out.2.2.2.2.1.later hb2) (by rw [e]; exact hl) H3.out.2.2.2.2.2.1
  have HP3 : Hid (Parts B mid w3 c q ∧ w3.heap.size = k7) := ⟨P3, hk7⟩
  clear P3 b3 hal t0 t1 t2 t3 t4 t5 t6 t7 t8 t9
  go_wp2_with fail
  refine (delete_any (fun x => decide (dotE x ∈ m)) 41 #[.pointer (some ⟨k6, 0, none⟩)] enters_drop B B q.eo q.ec c.ents _ H4.out.2.2.1.1 (Nat.le_refl _) (by have := H4.out.2.2.2.2; omega) HP.out).mono ?_
  rintro e w5 ⟨rfl, o5, g5⟩
  rw [drop_same H3.out.2.2.2.2.2.2.1, HL.out] at o5 ⊢
  have hn7 : ∀ b, q.eo = some ⟨b, 0, none⟩ → b ≠ k7 := fun b hb e => by
    have := H4.out.2.2.2.1 b (by rw [hb]; rfl)
    omega
  have H5 : Hid (Has w5 k7 (ceL c q) ∧ Below h w w5 ∧ Has w5 (h + 1) (ceL ce0 pl0) ∧ FOwn B w5 q.eo (flatE L) ∧ FOwn B w5 q.lo (flatL c.elems) ∧ FOwn B w5 q.so (flatI c.seen)) := by
    have hn : some k7 ≠ (Value.slice q.eo c.ents.length q.ec).ownBlock := fun e => by
      have := H4.out.2.2.2.1 k7 e.symm
      omega
    have hb5 : Below B w2 w5 := H4.out.1.trans (gb_to g5 (by have := H4.out.2.2.2.2; omega) fun k hk => (H4.out.2.2.1.1.lt k hk).1)
    exact ⟨gb_has g5 H4.out.2.1 hn, H3.out.1.trans (hb5.mono (by omega)), H3.out.2.2.1.under (by omega) hb5, o5, (gb_fown g5 H4.out.2.2.1.2.1 H4.out.2.2.1.2.2.2.1).mono H4.out.2.2.1.2.2.1, (gb_fown g5 H4.out.2.2.1.2.1 H4.out.2.2.1.2.2.2.2).mono H4.out.2.2.1.2.2.1⟩
  have hk7B : B ≤ k7 := H4.out.2.2.2.2
  have E5 : Hid (Below h w (w5.setCell ⟨k7, 7, none⟩ (.slice q.eo L.length q.ec)) ∧ Has (w5.setCell ⟨k7, 7, none⟩ (.slice q.eo L.length q.ec)) (h + 1) (ceL ce0 pl0) ∧ COwn (h + 2) (w5.setCell ⟨k7, 7, none⟩ (.slice q.eo L.length q.ec)) (cE c L) q) :=
    ⟨H5.out.2.1.setCell (p := ⟨k7, 7, none⟩) (by show h ≤ k7; omega) _, H5.out.2.2.1.other (by omega) _ _, (fown_apart H5.out.2.2.2.1 hn7 _).mono hB1, (fown_young HP3.out.1.2.2.2.1 (by rw [HP3.out.2]; exact Nat.le_refl _) H5.out.2.2.2.2.1 _).mono hB1, (fown_young HP3.out.1.2.2.2.2 (by rw [HP3.out.2]; exact Nat.le_refl _) H5.out.2.2.2.2.2 _).mono hB1⟩
  clear H3 H4 HP HP3 o5 g5 hsz hB hk7 hn7
  obtain ⟨t0, t1, t2, t3, t4, t5, t6, t7, t8, t9⟩ := H5.out.1.ten
  have y7 := H5.out.1.free 7 rfl
  obtain ⟨s0, s1, s2, s3, s4, s5, s6, s7, s8, s9⟩ := H5.out.2.2.1.ten
  obtain ⟨z0, z1, z2, z3, z4, z5, z6, z7, z8, z9⟩ := H5.out.2.2.1.tenf
  have hne : h + 1 ≠ k7 := by omega
  go_wp2_with fail
  exact drop_end (d := cE c L) (q := q) (r4 := 4) E5.out.1 E5.out.2.1 E5.out.2.2 rfl rfl rfl rfl

end Go.Proofs.Ytedgobdeoheaoaa
