/-
  Package orset's Put, by contract.
-/
import Derived.Test.YtgkddimijmnpcaaGreatDoorZPack1
import Derived.Test.YtgkddimijmnpcaaGreatDoorZPack2
import Derived.Deep.RegionHeld3
import Derived.Deep.Cut
import Derived.Deep.CutRange
namespace Go.Proofs.YtgkddimijmnpcaaGreatDoor
open Go.RowKit Go.Shelf
set_option linter.unusedVariables false
set_option linter.unusedSimpArgs false

/-- Has an entry that dot? -/
def hasD (l : List E3) (d : D2) : Bool := l.any fun x => decide (dotE x = d)
/-- May it be put? -/
def putB (c : Ce) (d : D2) (v : ByteArray) : Bool := decide (c.kind = 2) && (mayB d.1 d.2 16 && (decide (v.size ≤ 256) && !hasD c.ents d))
/-- The entries once it was put. -/
def putL (l : List E3) (d : D2) (v : ByteArray) : List E3 := insE l (placeD l d) ⟨d.1, d.2, v⟩

theorem put_no_end {fn : Func} {act : Act} {w w2 : World} {h : Nat} {c : Ce} {p : Pl} {t n : Int} (H : Set3 w h c p t n w2) (hr : fn.results = #[.cell 6 30, .tmp 7]) (h6 : act.tmps[6]? = some (.pointer (some ⟨h + 2, 0, none⟩))) (h7 : act.tmps[7]? = some (.int .i64 900)) (hd : act.defers = []) :
    bodyPost Tryz.prog fn (fun e w' => e = .returned (.tuple #[ceV ce0 pl0, .int .i64 900]) ∧ Below h w w') Exit.ret act (put10 w2 (h + 2) (.int .i64 0) (.bool false) (.int .i64 0) (.int .i64 0) (.string ByteArray.empty) (.int .i64 0) (.int .i64 0) (.slice none 0 0) (.slice none 0 0) (.slice none 0 0)) :=
  bodyPost_ret (ret_cell2 hr h6 h7 (H.2.2.2.put10 _ _ _ _ _ _ _ _ _ _)) hd ⟨rfl, below_put10 H.1 (by omega) _ _ _ _ _ _ _ _ _ _⟩

set_option maxHeartbeats 1000000 in
set_option maxRecDepth 100000 in
/-- Put refuses. -/
theorem put_no (c : Ce) (p : Pl) (d : D2) (v : ByteArray) (w : World) (hr : CRow w c p) (hf : Fit c) (hv : v.size ≤ maxLen) (hb : putB c d v = false) :
    Calls Tryz.prog 59 #[ceV c p, dv d, .string v] w fun e w' => e = .returned (.tuple #[ceV ce0 pl0, .int .i64 900]) ∧ Below w.heap.size w w' := by
  have H0 : Hid (Set3 w w.heap.size c p d.1 d.2 (((w.alloc (.cells (ceL c p).toArray 30)).alloc (.cells #[.int .i64 d.1, .int .i64 d.2] 32)).alloc (.cells (ceL ce0 pl0).toArray 30))) := set3_new _ _ _ _ _ _ _ _
  have HR : Hid (CRow w c p ∧ Fit c) := ⟨hr, hf⟩
  have hlen : c.ents.length ≤ maxLen := by have := hf.1; unfold maxLen; omega
  obtain ⟨h, hh⟩ : ∃ h, w.heap.size = h := ⟨_, rfl⟩
  rw [hh] at H0 ⊢
  clear hr hf
  unfold maxLen at hv
  by_cases hk : c.kind = 2
  · have hk1 : (c.kind != 2) = false := by simpa using hk
    cases hm : mayB d.1 d.2 16 with
    | false =>
      have C := fun W => may_any d.1 d.2 16 W
      rw [hm] at C
      clear hb hk hm
      go_enter Tryz.func59, Tryz.ntmps59
      go_wp2_with fail
      refine (C _).mono ?_
      rintro e w1 ⟨rfl, b1⟩
      have H2 : Hid (Set3 w h c p d.1 d.2 w1) := H0.out.later b1
      clear b1 H0 C
      obtain ⟨s0, s1, s2, s3, s4, s5, s6, s7, s8, s9⟩ := H2.out.2.2.2.ten
      obtain ⟨z0, z1, z2, z3, z4, z5, z6, z7, z8, z9⟩ := H2.out.2.2.2.tenf
      go_wp2_with fail
      exact put_no_end H2.out rfl rfl rfl rfl
    | true =>
      have C := fun W => may_any d.1 d.2 16 W
      rw [hm] at C
      by_cases hs : v.size ≤ 256
      · have hs1 : decide ((256 : Int) < (v.size : Int)) = false := by simp; omega
        have hh2 : hasD c.ents d = true := by
          have : putB c d v = !hasD c.ents d := by simp [putB, hk, hm, hs]
          rw [this] at hb
          simpa using hb
        have HH : Hid (hasD c.ents d = true) := hh2
        clear hb hk hm hh2
        go_enter Tryz.func59, Tryz.ntmps59
        go_wp2_with fail
        refine (C _).mono ?_
        rintro e w1 ⟨rfl, b1⟩
        have H1 : Hid (Set3 w h c p d.1 d.2 w1) := H0.out.later b1
        clear b1 H0 C
        have t7 := H1.out.2.1.at 7 rfl
        have r0 := H1.out.2.2.1.at 0 rfl
        have r1 := H1.out.2.2.1.at 1 rfl
        have CH := fhas_any d p.eo p.ec c.ents w1 (HR.out.1.later (hh.symm ▸ H1.out.1)).1 hlen
        have e2 : (c.ents.any fun x => decide (dotE x = d)) = true := HH.out
        rw [e2] at CH
        clear e2
        go_wp2_with fail
        refine CH.mono ?_
        rintro e w2 ⟨rfl, b2⟩
        have H2 : Hid (Set3 w h c p d.1 d.2 w2) := H1.out.later b2
        clear b2 H1 CH t7 r0 r1
        obtain ⟨s0, s1, s2, s3, s4, s5, s6, s7, s8, s9⟩ := H2.out.2.2.2.ten
        obtain ⟨z0, z1, z2, z3, z4, z5, z6, z7, z8, z9⟩ := H2.out.2.2.2.tenf
        go_wp2_with fail
        exact put_no_end H2.out rfl rfl rfl rfl
      · have hs1 : decide ((256 : Int) < (v.size : Int)) = true := by simp; omega
        clear hb hk hm
        go_enter Tryz.func59, Tryz.ntmps59
        go_wp2_with fail
        refine (C _).mono ?_
        rintro e w1 ⟨rfl, b1⟩
        have H2 : Hid (Set3 w h c p d.1 d.2 w1) := H0.out.later b1
        clear b1 H0 C
        obtain ⟨s0, s1, s2, s3, s4, s5, s6, s7, s8, s9⟩ := H2.out.2.2.2.ten
        obtain ⟨z0, z1, z2, z3, z4, z5, z6, z7, z8, z9⟩ := H2.out.2.2.2.tenf
        go_wp2_with fail
        exact put_no_end H2.out rfl rfl rfl rfl
  · have hk1 : (c.kind != 2) = true := by simpa using hk
    go_enter Tryz.func59, Tryz.ntmps59
    go_wp2_with fail
    exact bodyPost_ret (ret_cell2 rfl rfl rfl H0.out.2.2.2) rfl ⟨rfl, H0.out.1⟩

/-- Where the entry is made: the dot, in its box. -/
def Src4 (w1 : World) (B k : Nat) (d : D2) : Prop := k < B ∧ Has w1 k [.int .i64 d.1, .int .i64 d.2] ∧ B ≤ w1.heap.size

abbrev Held4 (w1 : World) (B k : Nat) (d : D2) (W : World) : Prop :=
  Hid (Below B w1 W ∧ B ≤ W.heap.size) ∧ W.cell? ⟨k, 0, none⟩ = some (.int .i64 d.1) ∧ W.cell? ⟨k, 1, none⟩ = some (.int .i64 d.2)

section
variable {w1 W : World} {B k : Nat} {d : D2}

theorem held4_of (hs : Src4 w1 B k d) (hb : Below B w1 W ∧ B ≤ W.heap.size) : Held4 w1 B k d W := by
  have h2 := (hs.2.1.under hs.1 hb.1).two
  exact ⟨hb, h2.1, h2.2⟩

theorem held4_later {W' : World} (hs : Src4 w1 B k d) (hb : Below W.heap.size W W') (h : Held4 w1 B k d W) : Held4 w1 B k d W' :=
  held4_of hs ⟨h.1.out.1.trans (hb.mono h.1.out.2), Nat.le_trans h.1.out.2 hb.size⟩

theorem held4_alloc (hs : Src4 w1 B k d) (o : Obj) (h : Held4 w1 B k d W) : Held4 w1 B k d (W.alloc o) := held4_later hs ((Below.refl _ _).alloc (Nat.le_refl _) _) h

theorem held4_drew (hs : Src4 w1 B k d) : Held4 w1 B k d w1.drew := held4_of hs ⟨(Below.refl _ _).drew, hs.2.2⟩

theorem held4_first (hs : Src4 w1 B k d) (o : Obj) : Held4 w1 B k d (w1.alloc o).drew :=
  held4_of hs ⟨((Below.refl _ _).alloc hs.2.2 o).drew, by have e : (w1.alloc o).drew.heap.size = w1.heap.size + 1 := by simp
                                                          have := hs.2.2
                                                          omega⟩

/-- The place of the entry, made ahead of it. -/
def Three (B : Nat) (w : World) (q : Nat) : Prop := Has w q [.int .i64 0, .int .i64 0, .string ⟨#[]⟩] ∧ B ≤ q

theorem three_new {w w3 : World} {t : TypeId} (h : B ≤ w.heap.size) (hb : Below (w.alloc (.cells #[.int .i64 0, .int .i64 0, .string ⟨#[]⟩] t)).heap.size (w.alloc (.cells #[.int .i64 0, .int .i64 0, .string ⟨#[]⟩] t)) w3) : Three B w3 w.heap.size :=
  ⟨(has_new w [.int .i64 0, .int .i64 0, .string ⟨#[]⟩] t).later hb, h⟩

theorem three_newd {w w3 : World} {t : TypeId} (h : B ≤ w.heap.size) (hb : Below (w.alloc (.cells #[.int .i64 0, .int .i64 0, .string ⟨#[]⟩] t)).drew.heap.size (w.alloc (.cells #[.int .i64 0, .int .i64 0, .string ⟨#[]⟩] t)).drew w3) : Three B w3 w.heap.size :=
  ⟨((has_new w [.int .i64 0, .int .i64 0, .string ⟨#[]⟩] t).later (Below.refl _ _).drew).later hb, h⟩

theorem three_cells {w : World} {q : Nat} (h : Three B w q) : w.cell? ⟨q, 0, none⟩ = some (.int .i64 0) ∧ w.cell? ⟨q, 1, none⟩ = some (.int .i64 0) ∧ w.cell? ⟨q, 2, none⟩ = some (.string ⟨#[]⟩) ∧ w.frozen? ⟨q, 0, none⟩ = false ∧ w.frozen? ⟨q, 1, none⟩ = false ∧ w.frozen? ⟨q, 2, none⟩ = false :=
  ⟨h.1.at 0 rfl, h.1.at 1 rfl, h.1.at 2 rfl, h.1.free 0 rfl, h.1.free 1 rfl, h.1.free 2 rfl⟩

theorem held4_put {q : Nat} (hs : Src4 w1 B k d) (t : Three B W q) (h : Held4 w1 B k d W) (u0 u1 u2 : Value) : Held4 w1 B k d (((W.setCell ⟨q, 0, none⟩ u0).setCell ⟨q, 1, none⟩ u1).setCell ⟨q, 2, none⟩ u2) :=
  held4_of hs ⟨((h.1.out.1.setCell (p := ⟨q, 0, none⟩) t.2 _).setCell (p := ⟨q, 1, none⟩) t.2 _).setCell (p := ⟨q, 2, none⟩) t.2 _, by have := h.1.out.2; simpa using this⟩

theorem held4_swap {o : Obj} (hs : Src4 w1 B k d) (hB : B ≤ W.heap.size) (h : Held4 w1 B k d (W.alloc o)) (o' : Obj) : Held4 w1 B k d (W.alloc o') := by
  have h0 := h.1.out.1
  refine held4_of hs ⟨⟨h0.os, h0.tape, h0.output, by simpa using h0.size, fun i hi => ?_⟩, by simp; omega⟩
  rw [← h0.block i hi, Below.heap_alloc _ _ _ (by omega), Below.heap_alloc _ _ _ (by omega)]

theorem end4_put {q : Nat} (v : ByteArray) (t : Three B W q) (h : Held4 w1 B k d (((W.setCell ⟨q, 0, none⟩ (.int .i64 d.1)).setCell ⟨q, 1, none⟩ (.int .i64 d.2)).setCell ⟨q, 2, none⟩ (.string v))) :
    B ≤ q ∧ Has (((W.setCell ⟨q, 0, none⟩ (.int .i64 d.1)).setCell ⟨q, 1, none⟩ (.int .i64 d.2)).setCell ⟨q, 2, none⟩ (.string v)) q [.int .i64 d.1, .int .i64 d.2, .string v] ∧ Below B w1 (((W.setCell ⟨q, 0, none⟩ (.int .i64 d.1)).setCell ⟨q, 1, none⟩ (.int .i64 d.2)).setCell ⟨q, 2, none⟩ (.string v)) :=
  ⟨t.2, ((t.1.put 0 _).put 1 _).put 2 _, h.1.out.1⟩

theorem end4_new (v : ByteArray) (t : TypeId) (hB : B ≤ W.heap.size) (h : Held4 w1 B k d (W.alloc (.cells #[.int .i64 d.1, .int .i64 d.2, .string v] t))) :
    B ≤ W.heap.size ∧ Has (W.alloc (.cells #[.int .i64 d.1, .int .i64 d.2, .string v] t)) W.heap.size [.int .i64 d.1, .int .i64 d.2, .string v] ∧ Below B w1 (W.alloc (.cells #[.int .i64 d.1, .int .i64 d.2, .string v] t)) :=
  ⟨hB, has_new W [.int .i64 d.1, .int .i64 d.2, .string v] t, h.1.out.1⟩

end

/-- What Put has made ahead of the insertion: the copy in block k8, the entry in block k9. -/
def Fix (w w3 w5 : World) (h k8 k9 B mid : Nat) (c : Ce) (p q : Pl) (d : D2) (v : ByteArray) : Prop :=
  Set3 w h c p d.1 d.2 w5 ∧ Has w5 k8 (ceL c q) ∧ Parts B mid w5 c q ∧ Has w5 k9 [.int .i64 d.1, .int .i64 d.2, .string v] ∧ (∀ g, (Value.slice q.eo c.ents.length q.ec).ownBlock = some g → g < k8 ∧ B ≤ g) ∧ Parts B mid w3 c q ∧ w3.heap.size = k8 ∧ h + 3 ≤ B ∧ B ≤ k8 ∧ k8 < k9 ∧ (c.ents.length + 1) * 32 ≤ 140737488355328

/-- What the insertion leaves. -/
def Aft (w w7 : World) (h k8 : Nat) (c : Ce) (q : Pl) (L : List E3) (bo : Option Addr) (cb : Nat) : Prop :=
  Below h w w7 ∧ Has w7 (h + 2) (ceL ce0 pl0) ∧ Has w7 k8 (ceL c q) ∧ (∀ u, COwn (h + 3) (w7.setCell ⟨k8, 7, none⟩ u) (cE c L) ⟨bo, cb, q.lo, q.lc, q.so, q.sc⟩)

section
variable {w w3 w5 W : World} {h k8 k9 B mid : Nat} {c : Ce} {p q : Pl} {d : D2} {v : ByteArray}

/-- What the region keeps till the insertion. -/
abbrev Held6 (w5 : World) (h k8 k9 : Nat) (c : Ce) (q : Pl) (d : D2) (v : ByteArray) (W : World) : Prop :=
  Hid (Below w5.heap.size w5 W) ∧ W.cell? ⟨k8, 7, none⟩ = some (.slice q.eo c.ents.length q.ec) ∧ W.cell? ⟨h + 1, 0, none⟩ = some (.int .i64 d.1) ∧ W.cell? ⟨h + 1, 1, none⟩ = some (.int .i64 d.2) ∧ W.cell? ⟨k9, 0, none⟩ = some (.int .i64 d.1) ∧ W.cell? ⟨k9, 1, none⟩ = some (.int .i64 d.2) ∧ W.cell? ⟨k9, 2, none⟩ = some (.string v)

theorem held6_of (F : Fix w w3 w5 h k8 k9 B mid c p q d v) (hb : Below w5.heap.size w5 W) : Held6 w5 h k8 k9 c q d v W := by
  have h1 := (F.1.2.2.1.later hb).two
  have h2 := F.2.2.2.1.later hb
  exact ⟨hb, (F.2.1.later hb).at 7 rfl, h1.1, h1.2, h2.at 0 rfl, h2.at 1 rfl, h2.at 2 rfl⟩

theorem place_fix (F : Fix w w3 w5 h k8 k9 B mid c p q d v) (W : World) (hb : Below w5.heap.size w5 W) :
    Calls Tryz.prog 106 #[.slice q.eo c.ents.length q.ec, dv d] W fun e w' => e = .returned (.int .i64 (placeD c.ents d : Nat)) ∧ Below W.heap.size W w' := by
  refine Calls.mono (placeOf_any d q.eo q.ec c.ents W ((own_row F.2.2.1.1).row.later hb) (by have := F.2.2.2.2.2.2.2.2.2.2; unfold maxLen; omega)) ?_
  rintro e w' ⟨rfl, b⟩
  exact ⟨rfl, b⟩

theorem ins_fix (F : Fix w w3 w5 h k8 k9 B mid c p q d v) (W : World) (hb : Below w5.heap.size w5 W) (vb : Nat) (hv : W.ownsRow w5.heap.size 62 3 (.slice (some ⟨vb, 0, none⟩) 1 1) 1 [.int .i64 d.1, .int .i64 d.2, .string v]) :
    Calls Tryz.prog 105 #[.slice q.eo c.ents.length q.ec, .int .i64 (placeD c.ents d : Nat), .slice (some ⟨vb, 0, none⟩) 1 1] W fun e w' => ∃ bo cb, e = .returned (.slice bo (c.ents.length + 1) cb) ∧ Hid (Aft w w' h k8 c q (putL c.ents d v) bo cb) ∧ w'.cell? ⟨k8, 7, none⟩ = some (.slice q.eo c.ents.length q.ec) ∧ w'.frozen? ⟨k8, 7, none⟩ = false := by
  have hB5 : B ≤ w5.heap.size := by have := F.2.2.2.1.1; have := F.2.2.2.2.2.2.2.2.1; have := F.2.2.2.2.2.2.2.2.2.1; omega
  have hw5 : k9 < w5.heap.size := F.2.2.2.1.1
  have hsz := hb.size
  have hvb := hv.lt vb rfl
  obtain ⟨_, _, _, _, hown, _, _, h3B, hB8, h89, hbig⟩ := id F
  have hne : q.eo ≠ some ⟨vb, 0, none⟩ := fun e => by
    have := hown vb (by rw [e]; rfl)
    omega
  refine Calls.mono (insert_any B (placeD c.ents d) q.eo q.ec c.ents ⟨d.1, d.2, v⟩ vb W (own_later F.2.2.1.1 hb) (own_mono hv (by omega)) hne (by omega) hbig (place_le _ _)) ?_
  rintro e w7 ⟨bo, cb, rfl, o7, g7, f7⟩
  have hn : ∀ g, g < B ∨ k8 ≤ g → some g ≠ (Value.slice q.eo c.ents.length q.ec).ownBlock := fun g hg e => by
    have := hown g e.symm
    omega
  have h8 := gb_has g7 (F.2.1.later hb) (hn _ (Or.inr (Nat.le_refl _)))
  have ha := gb_has g7 (F.1.2.2.2.later hb) (hn _ (Or.inl (by omega)))
  have hbel : Below h w w7 := (F.1.1.trans (hb.mono (by omega))).trans (gb_to g7 (by omega) fun k hk => by have := hown k hk; omega)
  have hbo : ∀ b, bo = some ⟨b, 0, none⟩ → b ≠ k8 := fun b hbb e => by
    rcases f7 b hbb with e2 | e2
    · have := hown b e2; omega
    · omega
  have hP : Parts B mid W c q := F.2.2.1.later hb
  have P3 := F.2.2.2.2.2.1
  have hk3 := F.2.2.2.2.2.2.1
  refine ⟨bo, cb, rfl, ⟨hbel, ha, h8, fun u => ⟨(fown_apart o7 hbo u).mono (by omega), ((fown_young P3.2.2.2.1 (by omega) (gb_fown g7 (fun k hk => hP.2.1 k hk) hP.2.2.2.1) u).mono hP.2.2.1).mono (by omega), ((fown_young P3.2.2.2.2 (by omega) (gb_fown g7 (fun k hk => hP.2.1 k hk) hP.2.2.2.2) u).mono hP.2.2.1).mono (by omega)⟩⟩, h8.at 7 rfl, h8.free 7 rfl⟩

theorem aft_cut {w7 : World} {L : List E3} {bo : Option Addr} {cb : Nat} (A : Aft w w7 h k8 c q (putL c.ents d v) bo cb) (hL : putL c.ents d v = L) (h8 : h + 3 ≤ k8) :
    ∃ bo' cb', Below h w (w7.setCell ⟨k8, 7, none⟩ (.slice bo (c.ents.length + 1) cb)) ∧ Has (w7.setCell ⟨k8, 7, none⟩ (.slice bo (c.ents.length + 1) cb)) (h + 2) (ceL ce0 pl0) ∧ Has (w7.setCell ⟨k8, 7, none⟩ (.slice bo (c.ents.length + 1) cb)) k8 (ceL (cE c L) ⟨bo', cb', q.lo, q.lc, q.so, q.sc⟩) ∧ COwn (h + 3) (w7.setCell ⟨k8, 7, none⟩ (.slice bo (c.ents.length + 1) cb)) (cE c L) ⟨bo', cb', q.lo, q.lc, q.so, q.sc⟩ := by
  have e : L.length = c.ents.length + 1 := by rw [← hL]; exact insE_len _ _ _ (place_le _ _)
  subst hL
  refine ⟨bo, cb, A.1.setCell (p := ⟨k8, 7, none⟩) (by show h ≤ k8; omega) _, A.2.1.other (by omega) _ _, ?_, A.2.2.2 _⟩
  have := A.2.2.1.put 7 (.slice bo (c.ents.length + 1) cb)
  rw [← e] at this ⊢
  exact this

/-- The end of a call that is taken. -/
theorem put_end {fn : Func} {act : Act} {w W : World} {h : Nat} {d : Ce} {q : Pl} (hB : Below h w W) (HA : Has W (h + 2) (ceL ce0 pl0)) (HO : COwn (h + 3) W d q) (hr : fn.results = #[.cell 6 30, .tmp 7]) (h6 : act.tmps[6]? = some (.pointer (some ⟨h + 2, 0, none⟩))) (h7 : act.tmps[7]? = some (.int .i64 0)) (hd : act.defers = []) :
    bodyPost Tryz.prog fn (fun e w' => ∃ q, e = .returned (.tuple #[ceV d q, .int .i64 0]) ∧ COwn h w' d q ∧ Below h w w') Exit.ret act (put10 W (h + 2) (.int .i64 d.kind) (.bool d.set) (.int .i64 d.time) (.int .i64 d.node) (.string d.val) (.int .i64 d.re) (.int .i64 d.im) (.slice q.eo d.ents.length q.ec) (.slice q.lo d.elems.length q.lc) (.slice q.so d.seen.length q.sc)) :=
  bodyPost_ret (ret_cell2 hr h6 h7 (HA.put10 _ _ _ _ _ _ _ _ _ _)) hd ⟨q, rfl, (HO.put10 (by omega) _ _ _ _ _ _ _ _ _ _).mono (by omega), below_put10 hB (by omega) _ _ _ _ _ _ _ _ _ _⟩

/-- The entry as a row of one, made ahead of the look for its place, or behind it. -/
theorem one_new (W : World) {C : Nat} (hC : C ≤ W.heap.size) (d : D2) (v : ByteArray) : (W.alloc (.cells #[.int .i64 d.1, .int .i64 d.2, .string v] 62)).ownsRow C 62 3 (.slice (some ⟨W.heap.size, 0, none⟩) 1 1) 1 [.int .i64 d.1, .int .i64 d.2, .string v] := by
  simpa using World.ownsRow_lit W #[.int .i64 d.1, .int .i64 d.2, .string v] 1 (base := C) (e := 62) (size := 3) hC (by decide) rfl

end

set_option maxHeartbeats 1600000 in
set_option maxRecDepth 100000 in
/-- Put takes it. -/
theorem put_yes (c : Ce) (p : Pl) (d : D2) (v : ByteArray) (w : World) (hr : CRow w c p) (hf : Fit c) (hb : putB c d v = true) :
    Calls Tryz.prog 59 #[ceV c p, dv d, .string v] w fun e w' => ∃ q, e = .returned (.tuple #[ceV (cE c (putL c.ents d v)) q, .int .i64 0]) ∧ COwn w.heap.size w' (cE c (putL c.ents d v)) q ∧ Below w.heap.size w w' := by
  have H0 : Hid (Set3 w w.heap.size c p d.1 d.2 (((w.alloc (.cells (ceL c p).toArray 30)).alloc (.cells #[.int .i64 d.1, .int .i64 d.2] 32)).alloc (.cells (ceL ce0 pl0).toArray 30))) := set3_new _ _ _ _ _ _ _ _
  have hlen : c.ents.length ≤ maxLen := by have := hf.1; unfold maxLen; omega
  obtain ⟨h, hh⟩ : ∃ h, w.heap.size = h := ⟨_, rfl⟩
  rw [hh] at H0 ⊢
  simp only [putB, Bool.and_eq_true, decide_eq_true_eq, Bool.not_eq_true'] at hb
  obtain ⟨hk, hm, hs, hn⟩ := hb
  have hk1 : (c.kind != 2) = false := by simpa using hk
  have hs1 : decide ((256 : Int) < (v.size : Int)) = false := by simp; omega
  have C := fun W => may_any d.1 d.2 16 W
  rw [hm] at C
  obtain ⟨L, hL⟩ : ∃ L, putL c.ents d v = L := ⟨_, rfl⟩
  rw [hL]
  have HR : Hid (CRow w c p ∧ Fit c ∧ w.heap.size = h ∧ putL c.ents d v = L ∧ hasD c.ents d = false) := ⟨hr, hf, hh, hL, hn⟩
  clear hr hf hk hm hL hn
  go_enter Tryz.func59, Tryz.ntmps59
  go_wp2_with fail
  refine (C _).mono ?_
  rintro e w1 ⟨rfl, b1⟩
  have H1 : Hid (Set3 w h c p d.1 d.2 w1) := H0.out.later b1
  clear b1 H0 C
  have t7 := H1.out.2.1.at 7 rfl
  have r0 := H1.out.2.2.1.at 0 rfl
  have r1 := H1.out.2.2.1.at 1 rfl
  have CH := fhas_any d p.eo p.ec c.ents w1 (HR.out.1.later (HR.out.2.2.1.symm ▸ H1.out.1)).1 hlen
  have e2 : (c.ents.any fun x => decide (dotE x = d)) = false := HR.out.2.2.2.2
  rw [e2] at CH
  clear e2
  go_wp2_with fail
  refine CH.mono ?_
  rintro e w2 ⟨rfl, b2⟩
  have H2 : Hid (Set3 w h c p d.1 d.2 w2) := H1.out.later b2
  clear b2 H1 CH t7 r0 r1
  obtain ⟨B, hB⟩ : ∃ B, w2.heap.size = B := ⟨_, rfl⟩
  have hB3 : h + 3 ≤ B := by have := H2.out.size; omega
  obtain ⟨t0, t1, t2, t3, t4, t5, t6, t7, t8, t9⟩ := H2.out.2.1.ten
  go_wp2_with fail
  refine (fcellO_any c p _ (HR.out.1.later (HR.out.2.2.1.symm ▸ H2.out.1)) HR.out.2.1).mono ?_
  rintro e w3 ⟨q, mid, rfl, P3, b3⟩
  rw [hB] at P3 b3
  obtain ⟨k8, hk8⟩ : ∃ k, w3.heap.size = k := ⟨_, rfl⟩
  have hal : Below w3.heap.size w3 (w3.alloc (.cells (ceL c q).toArray 30)) := (Below.refl _ _).alloc (Nat.le_refl _) _
  have hk8B : B ≤ k8 := by have := b3.size; omega
  have H4 : Hid (Set3 w h c p d.1 d.2 (w3.alloc (.cells (ceL c q).toArray 30)) ∧ Has (w3.alloc (.cells (ceL c q).toArray 30)) k8 (ceL c q) ∧ Parts B mid (w3.alloc (.cells (ceL c q).toArray 30)) c q) :=
    ⟨(H2.out.later (hB.symm ▸ b3)).later hal, hk8 ▸ has_new w3 (ceL c q) _, P3.later hal⟩
  have HP3 : Hid (Parts B mid w3 c q ∧ w3.heap.size = k8 ∧ (∀ g, (Value.slice q.eo c.ents.length q.ec).ownBlock = some g → g < k8 ∧ B ≤ g)) := ⟨P3, hk8, fun g hg => ⟨hk8 ▸ (P3.1.lt g hg).2, (P3.1.lt g hg).1⟩⟩
  clear P3 b3 hal t0 t1 t2 t3 t4 t5 t6 t7 t8 t9 H2
  go_upto_region 4 with fail
  generalize hW : w3.alloc (.cells (ceL c q).toArray 30) = w4 at H4 ⊢
  obtain ⟨B4, hB4⟩ : ∃ B4, w4.heap.size = B4 := ⟨_, rfl⟩
  have hk84 : k8 < B4 := by rw [← hB4, ← hW]; simp [hk8]
  have HB4 : Hid (w4.heap.size = B4 ∧ h + 3 ≤ B ∧ B ≤ k8) := ⟨hB4, hB3, hk8B⟩
  have HS : Hid (Src4 w4 B4 (h + 1) d) := ⟨by omega, H4.out.1.2.2.1, by omega⟩
  have hz : B4 ≤ w4.heap.size := by omega
  have hzd : B4 ≤ w4.drew.heap.size := hz
  clear hW hB4 hB hk8
  go_cut [9] from 10 to 47 (fun r wx => ∃ k9 : Nat, r = .pointer (some ⟨k9, 0, none⟩) ∧ Hid (B4 ≤ k9 ∧ Has wx k9 [.int .i64 d.1, .int .i64 d.2, .string v] ∧ Below B4 w4 wx))
  case first =>
    go_region_held3 (Held4 w4 B4 (h + 1) d) (first | (with_reducible apply held4_later HS.out hb2; assumption) | with_reducible apply held4_put HS.out T6 (by assumption) | (with_reducible apply held4_swap HS.out (by omega) (by assumption)) | (with_reducible exact held4_drew HS.out) | (with_reducible exact held4_first HS.out _) | (with_reducible apply held4_alloc HS.out _ (by assumption)))
      (first
        | (go_at_call 102; with_reducible refine (clone_any _ _ (by omega)).mono ?_; rintro e w5 ⟨rfl, hb2⟩; have hz := hb2.size; first | (with_reducible have T6 := three_newd (B := B4) (by omega) hb2; obtain ⟨y0, y1, y2, z0, z1, z2⟩ := three_cells T6) | (with_reducible have T6 := three_new (B := B4) (by omega) hb2; obtain ⟨y0, y1, y2, z0, z1, z2⟩ := three_cells T6) | skip))
    all_goals
      (go_wp2_with fail
       go_meet
       case rel =>
         (first
           | (have E7 := end4_put (w1 := w4) (k := h + 1) v T6 (by assumption); exact ⟨_, rfl, E7⟩)
           | (have E7 := end4_new (w1 := w4) (W := w5) (B := B4) (k := h + 1) v 62 (by omega) (by assumption); exact ⟨_, rfl, E7⟩)))
  case rest =>
    obtain ⟨w5, rfl⟩ : ∃ z, z = wc := ⟨_, rfl⟩
    obtain ⟨k9, rfl, HQ⟩ := hcut
    have HF : Hid (Fix w w3 w5 h k8 k9 B mid c p q d v) := by
      have hb : Below w4.heap.size w4 w5 := HB4.out.1.symm ▸ HQ.out.2.2
      exact ⟨H4.out.1.later hb, H4.out.2.1.later hb, H4.out.2.2.later hb, HQ.out.2.1, HP3.out.2.2, HP3.out.1, HP3.out.2.1, HB4.out.2.1, HB4.out.2.2, by have := HQ.out.1; omega, by have := HR.out.2.1.1; omega⟩
    have h38 : h + 3 ≤ k8 := by omega
    have h89 : k8 < k9 := HF.out.2.2.2.2.2.2.2.2.2.1
    clear H4 HQ HS hz hzd HB4 HP3 hB3 hk8B hk84
    have c7 := HF.out.2.1.at 7 rfl
    go_upto_region 5 with fail
    go_cut [9] from 10 to 47 (fun r wx => r = .pointer (some ⟨k9, 0, none⟩) ∧ Hid (∃ bo cb, Below h w wx ∧ Has wx (h + 2) (ceL ce0 pl0) ∧ Has wx k8 (ceL (cE c L) ⟨bo, cb, q.lo, q.lc, q.so, q.sc⟩) ∧ COwn (h + 3) wx (cE c L) ⟨bo, cb, q.lo, q.lc, q.so, q.sc⟩))
    case first =>
      refine wp_region_till (Held6 w5 h k8 k9 c q d v) 8 (by kernel_rfl) (fun hcl => ?_)
      have hHeld : Held6 w5 h k8 k9 c q d v w5.drew := held6_of HF.out (Below.refl _ _).drew
      refine takeT 0 36 (v := .pointer (some ⟨k8, 7, none⟩)) rfl (by kernel_rfl) (by kernel_rfl) (by kernel_rfl) (fun _ _ _ h => h) (Waits.trans (waits_one (i := 1) (by kernel_rfl)) (waits_one (i := 0) (by kernel_rfl))) (by decide) hcl rfl (by rfl) (fun w hSw => ?hy) hHeld (fun hcl => ?_)
      case hy =>
        try dsimp only at hSw
        go_simp
      simp only [List.set_cons_zero, List.set_cons_succ]
      refine takeT 1 37 (v := .slice q.eo c.ents.length q.ec) rfl (by kernel_rfl) (by kernel_rfl) (by kernel_rfl) (fun _ _ _ h => h) (waits_one (i := 1) (by kernel_rfl)) (by decide) hcl rfl (by rfl) (fun w hSw => ?hy) hHeld (fun hcl => ?_)
      case hy =>
        try dsimp only at hSw
        go_simp
      simp only [List.set_cons_zero, List.set_cons_succ]
      refine takeT 2 38 (v := .pointer (some ⟨k8, 7, none⟩)) rfl (by kernel_rfl) (by kernel_rfl) (by kernel_rfl) (fun _ _ _ h => h) (Waits.trans (Waits.trans (waits_one (i := 5) (by kernel_rfl)) (waits_one (i := 3) (by kernel_rfl))) (waits_one (i := 2) (by kernel_rfl))) (by decide) hcl rfl (by rfl) (fun w hSw => ?hy) hHeld (fun hcl => ?_)
      case hy =>
        try dsimp only at hSw
        go_simp
      simp only [List.set_cons_zero, List.set_cons_succ]
      refine takeT 3 39 (v := .slice q.eo c.ents.length q.ec) rfl (by kernel_rfl) (by kernel_rfl) (by kernel_rfl) (fun _ _ _ h => h) (Waits.trans (waits_one (i := 5) (by kernel_rfl)) (waits_one (i := 3) (by kernel_rfl))) (by decide) hcl rfl (by rfl) (fun w hSw => ?hy) hHeld (fun hcl => ?_)
      case hy =>
        try dsimp only at hSw
        go_simp
      simp only [List.set_cons_zero, List.set_cons_succ]
      refine takeT 4 40 (v := .agg #[.int .i64 d.1, .int .i64 d.2]) rfl (by kernel_rfl) (by kernel_rfl) (by kernel_rfl) (fun _ _ _ h => h) (Waits.trans (waits_one (i := 5) (by kernel_rfl)) (waits_one (i := 4) (by kernel_rfl))) (by decide) hcl rfl (by rfl) (fun w hSw => ?hy) hHeld (fun hcl => ?_)
      case hy =>
        try dsimp only at hSw
        go_simp
      simp only [List.set_cons_zero, List.set_cons_succ]
      refine takeT 6 42 (v := .agg #[.int .i64 d.1, .int .i64 d.2, .string v]) rfl (by kernel_rfl) (by kernel_rfl) (by kernel_rfl) (fun _ _ _ h => h) (Waits.trans (waits_one (i := 7) (by kernel_rfl)) (waits_one (i := 6) (by kernel_rfl))) (by decide) hcl rfl (by rfl) (fun w hSw => ?hy) hHeld (fun hcl => ?_)
      case hy =>
        try dsimp only at hSw
        go_simp
      simp only [List.set_cons_zero, List.set_cons_succ]
      have HL : Hid (putL c.ents d v = L) := HR.out.2.2.2.1
      refine readyT (rs := [5, 7]) (by kernel_rfl) (by simp) ?_
      refine AllT.cons rfl (fun K hK => ?_) (AllT.cons rfl (fun K hK => ?_) AllT.nil)
      · go_simp
        refine (place_fix HF.out _ hHeld.1).mono ?_
        rintro e w6 ⟨rfl, b6⟩
        have B6 : Hid (Below w5.heap.size w5 w6) := thenB hHeld.1 b6
        first | go_simp | skip
        refine hK.out _ _ (held6_of HF.out B6.out) ?_
        clear hK K
        try simp only [Act.put, List.setIfInBounds_toArray, List.set_cons_zero, List.set_cons_succ]
        refine readyT (rs := [7]) (by kernel_rfl) (by simp) ?_
        refine AllT.cons rfl (fun K hK => ?_) AllT.nil
        go_simp
        have HB : Hid (Below w5.heap.size w5 (w6.alloc (.cells #[.int .i64 d.1, .int .i64 d.2, .string v] 62))) := thenB B6.out ((Below.refl _ _).alloc (Nat.le_refl _) _)
        have HO : Hid ((w6.alloc (.cells #[.int .i64 d.1, .int .i64 d.2, .string v] 62)).ownsRow w5.heap.size 62 3 (.slice (some ⟨w6.heap.size, 0, none⟩) 1 1) 1 [.int .i64 d.1, .int .i64 d.2, .string v]) := one_new w6 B6.out.size d v
        refine hK.out _ _ (held6_of HF.out HB.out) ?_
        clear hK K
        try simp only [Act.put, List.setIfInBounds_toArray, List.set_cons_zero, List.set_cons_succ]
        refine readyT (rs := [8]) (by kernel_rfl) (by simp) ?_
        refine AllT.late rfl (by kernel_rfl) (fun K hK => ?_) AllT.nil
        go_simp
        refine (ins_fix HF.out _ HB.out _ HO.out).mono ?_
        rintro e w7 ⟨bo, cb, rfl, HA, c7, f7⟩
        first | go_simp | skip
        refine hK.out _ _ ?_
        clear hK K
        try simp only [Act.put, List.setIfInBounds_toArray, List.set_cons_zero, List.set_cons_succ]
        refine readyT (rs := [9]) (by kernel_rfl) (by simp) ?_
        refine AllT.late rfl (by kernel_rfl) (fun K hK => ?_) AllT.nil
        go_simp
        refine hK.out _ _ ?_
        clear hK K
        try simp only [Act.put, List.setIfInBounds_toArray, List.set_cons_zero, List.set_cons_succ]
        refine readyT (rs := [10]) (by kernel_rfl) (by simp) ?_
        refine AllT.late rfl (by kernel_rfl) (fun K hK => ?_) AllT.nil
        go_simp
        refine hK.out _ _ ?_
        clear hK K
        try simp only [Act.put, List.setIfInBounds_toArray, List.set_cons_zero, List.set_cons_succ]
        refine doneT (by kernel_rfl) ?_ _
        go_wp2_with fail
        go_meet
        case rel => exact ⟨rfl, aft_cut HA.out HL.out h38⟩
      · go_simp
        have B6 : Hid (Below w5.heap.size w5 (w5.alloc (.cells #[.int .i64 d.1, .int .i64 d.2, .string v] 62)).drew) := ((Below.refl _ _).alloc (Nat.le_refl _) _).drew
        have O6 : Hid ((w5.alloc (.cells #[.int .i64 d.1, .int .i64 d.2, .string v] 62)).drew.ownsRow w5.heap.size 62 3 (.slice (some ⟨w5.heap.size, 0, none⟩) 1 1) 1 [.int .i64 d.1, .int .i64 d.2, .string v]) := one_new w5 (Nat.le_refl _) d v
        refine hK.out _ _ (held6_of HF.out B6.out) ?_
        clear hK K
        try simp only [Act.put, List.setIfInBounds_toArray, List.set_cons_zero, List.set_cons_succ]
        refine readyT (rs := [5]) (by kernel_rfl) (by simp) ?_
        refine AllT.cons rfl (fun K hK => ?_) AllT.nil
        go_simp
        refine (place_fix HF.out _ B6.out).mono ?_
        rintro e w6 ⟨rfl, b6⟩
        have HB : Hid (Below w5.heap.size w5 w6) := thenB B6.out b6
        have HO : Hid (w6.ownsRow w5.heap.size 62 3 (.slice (some ⟨w5.heap.size, 0, none⟩) 1 1) 1 [.int .i64 d.1, .int .i64 d.2, .string v]) := own_later O6.out b6
        first | go_simp | skip
        refine hK.out _ _ (held6_of HF.out HB.out) ?_
        clear hK K
        try simp only [Act.put, List.setIfInBounds_toArray, List.set_cons_zero, List.set_cons_succ]
        refine readyT (rs := [8]) (by kernel_rfl) (by simp) ?_
        refine AllT.late rfl (by kernel_rfl) (fun K hK => ?_) AllT.nil
        go_simp
        refine (ins_fix HF.out _ HB.out _ HO.out).mono ?_
        rintro e w7 ⟨bo, cb, rfl, HA, c7, f7⟩
        first | go_simp | skip
        refine hK.out _ _ ?_
        clear hK K
        try simp only [Act.put, List.setIfInBounds_toArray, List.set_cons_zero, List.set_cons_succ]
        refine readyT (rs := [9]) (by kernel_rfl) (by simp) ?_
        refine AllT.late rfl (by kernel_rfl) (fun K hK => ?_) AllT.nil
        go_simp
        refine hK.out _ _ ?_
        clear hK K
        try simp only [Act.put, List.setIfInBounds_toArray, List.set_cons_zero, List.set_cons_succ]
        refine readyT (rs := [10]) (by kernel_rfl) (by simp) ?_
        refine AllT.late rfl (by kernel_rfl) (fun K hK => ?_) AllT.nil
        go_simp
        refine hK.out _ _ ?_
        clear hK K
        try simp only [Act.put, List.setIfInBounds_toArray, List.set_cons_zero, List.set_cons_succ]
        refine doneT (by kernel_rfl) ?_ _
        go_wp2_with fail
        go_meet
        case rel => exact ⟨rfl, aft_cut HA.out HL.out h38⟩
    case rest =>
      obtain ⟨w8, rfl⟩ : ∃ z, z = wc := ⟨_, rfl⟩
      obtain ⟨rfl, HQ⟩ := hcut
      obtain ⟨bo, cb, q1, q2, q3, q4⟩ := HQ.out
      have HZ : Hid (Below h w w8 ∧ Has w8 (h + 2) (ceL ce0 pl0) ∧ COwn (h + 3) w8 (cE c L) ⟨bo, cb, q.lo, q.lc, q.so, q.sc⟩) := ⟨q1, q2, q4⟩
      clear HQ c7 HF q1 q4
      obtain ⟨t0, t1, t2, t3, t4, t5, t6, t7, t8, t9⟩ := q3.ten
      obtain ⟨s0, s1, s2, s3, s4, s5, s6, s7, s8, s9⟩ := q2.ten
      obtain ⟨z0, z1, z2, z3, z4, z5, z6, z7, z8, z9⟩ := q2.tenf
      clear q2 q3
      go_wp2_with fail
      exact put_end (d := cE c L) (q := ⟨bo, cb, q.lo, q.lc, q.so, q.sc⟩) HZ.out.1 HZ.out.2.1 HZ.out.2.2 rfl rfl rfl rfl

end Go.Proofs.YtgkddimijmnpcaaGreatDoor

