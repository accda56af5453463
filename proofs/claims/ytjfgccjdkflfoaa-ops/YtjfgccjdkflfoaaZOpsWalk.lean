/-
  The walk of the law Ops: package op answers what the document's own answers say, at any operation, any bytes.
-/
import Derived.Test.YtjfgccjdkflfoaaZAwake11
import Derived.Test.YtjfgccjdkflfoaaZPack3
import Derived.Test.YtjfgccjdkflfoaaZRefPutOp11
namespace Go.Proofs.Ytjfgccjdkflfoaa.Ops
open Go.RowKit
set_option linter.unusedVariables false
set_option linter.unusedSimpArgs false

/-- What the law keeps of an operation in block g, its rows beside it. -/
def Box (W : World) (g : Nat) (o : O14) (q : Pq) : Prop := Has W g (oL o q) ∧ ORow W o q
theorem Box.later {W W' : World} {g : Nat} {o : O14} {q : Pq} (h : Box W g o q) (hb : Below W.heap.size W W') : Box W' g o q := ⟨h.1.later hb, h.2.later hb⟩
theorem box_new {W : World} {g : Nat} {o : O14} {q : Pq} (hg : W.heap.size = g) (hr : ORow W o q) (t : TypeId) : Box (W.alloc (.cells (oL o q).toArray t)) g o q := ⟨hg ▸ has_new W _ _, hr.later ((Below.refl _ _).alloc (Nat.le_refl _) _)⟩
theorem down (h : Nat) {w W W' : World} (H : Below h w W ∧ h ≤ W.heap.size) (hb : Below W.heap.size W W') : Below h w W' ∧ h ≤ W'.heap.size := ⟨H.1.trans (hb.mono H.2), Nat.le_trans H.2 hb.size⟩
theorem newer (W : World) (x : Obj) : Below W.heap.size W (W.alloc x) := (Below.refl _ _).alloc (Nat.le_refl _) _

theorem siz_get (s : List UInt8) (n : Int) : Siz (getO s n) := by
  unfold getO
  split
  · rename_i h
    have h2 := h
    unfold okG at h2
    simp only [Bool.and_eq_true, decide_eq_true_eq] at h2
    exact siz_rd s n.toNat (by omega)
  · exact ⟨by decide, by decide, by decide, by decide, by decide, by decide⟩

/-- Behind the spoiling of what was answered between B and T. -/
theorem Box.mid {B T : Nat} {W W' : World} {g : Nat} {o : O14} {q : Pq} (h : Has W g (oL o q)) (hr : OFwn T W o q) (hg : T ≤ g) (hm : Mid B T W W') : Box W' g o q := ⟨hm.has h (Or.inr hg), (hm.fown hr.1 (Nat.le_refl _)).row, (hm.fown hr.2 (Nat.le_refl _)).row⟩

set_option maxHeartbeats 8000000 in
set_option maxRecDepth 100000 in
theorem core (o : O14) (q : Pq) (s : ByteArray) (n : Int) (w : World) (hr : ORow w o q) (hz : Siz o) (hs : s.size ≤ maxLen) :
    Calls Try.prog 3 #[oV o q, .string s, .int .i64 n] w fun e w' => e = .returned (.bool true) ∧ Below w.heap.size w w' := by
  obtain ⟨h, hh⟩ : ∃ h, w.heap.size = h := ⟨_, rfl⟩
  obtain ⟨po, pc, qo, qc⟩ := q
  have HS : Hid (Siz o ∧ s.size ≤ maxLen) := ⟨hz, hs⟩
  have H0 : Hid (Box (w.alloc (.cells (oL o ⟨po, pc, qo, qc⟩).toArray 29)) h o ⟨po, pc, qo, qc⟩ ∧ Below h w (w.alloc (.cells (oL o ⟨po, pc, qo, qc⟩).toArray 29)) ∧ h ≤ (w.alloc (.cells (oL o ⟨po, pc, qo, qc⟩).toArray 29)).heap.size) := ⟨box_new hh hr _, hh ▸ newer w _, by simp; omega⟩
  rw [hh]
  obtain ⟨c, hc⟩ : ∃ c, getO s.data.toList n = c := ⟨_, rfl⟩
  have HC : Hid (Siz c) := hc ▸ siz_get _ _
  have CG : ∀ W, Calls Try.prog 11 #[.string s, .int .i64 n] W fun e w' => ∃ q, e = .returned (.tuple #[oV c q, .int .i64 (getE s.data.toList n)]) ∧ OOwn W.heap.size w' c q ∧ Below W.heap.size W w' := fun W => hc ▸ oget_any s n W HS.out.2
  have CR : ∀ W, Calls Try.prog 12 #[.string s, .int .i64 n] W fun e w' => ∃ q, e = .returned (.tuple #[oV c q, .int .i64 (getE s.data.toList n)]) ∧ OOwn W.heap.size w' c q ∧ Below W.heap.size W w' := fun W => hc ▸ rgetop_any s n W HS.out.2
  clear hr hz hs hc
  go_enter Try.func3, Try.ntmps3
  go_upto_region 1 with fail
  generalize hE : w.alloc (.cells (oL o ⟨po, pc, qo, qc⟩).toArray 29) = w0 at H0 ⊢
  clear hE
  try simp only [hh]
  clear hh
  have la := ld_op (show Has w0 h (oL o ⟨po, pc, qo, qc⟩) from H0.out.1.1)
  go_wp2_with (refine wpList_ld la rfl rfl rfl ?_)
  refine (copyOp_any o ⟨po, pc, qo, qc⟩ w0 H0.out.1.2 HS.out.1).mono ?_
  rintro e w1 ⟨⟨xo, xc, yo, yc⟩, rfl, own1, b1⟩
  obtain ⟨g1, hg1⟩ : ∃ g, w1.heap.size = g := ⟨_, rfl⟩
  have H1 : Hid (Box (w1.alloc (.cells (oL o ⟨xo, xc, yo, yc⟩).toArray 29)) g1 o ⟨xo, xc, yo, yc⟩ ∧ Box (w1.alloc (.cells (oL o ⟨xo, xc, yo, yc⟩).toArray 29)) h o ⟨po, pc, qo, qc⟩ ∧ Below h w (w1.alloc (.cells (oL o ⟨xo, xc, yo, yc⟩).toArray 29)) ∧ h ≤ (w1.alloc (.cells (oL o ⟨xo, xc, yo, yc⟩).toArray 29)).heap.size) :=
    ⟨box_new hg1 own1.row _, (H0.out.1.later b1).later (newer _ _), down h (down h H0.out.2 b1) (newer _ _)⟩
  clear own1 b1 H0 la
  go_upto_region 2 with fail
  generalize hE : w1.alloc (.cells (oL o ⟨xo, xc, yo, yc⟩).toArray 29) = w2 at H1 ⊢
  clear hE
  try simp only [hg1]
  clear hg1
  have lm := ld_op (show Has w2 g1 (oL o ⟨xo, xc, yo, yc⟩) from H1.out.1.1)
  go_wp2_with (refine wpList_ld lm rfl rfl rfl ?_)
  refine (oput_any o ⟨xo, xc, yo, yc⟩ n w2 H1.out.1.2 HS.out.1).mono ?_
  rintro e w3 ⟨rfl, b3⟩
  have H3 : Hid (Box w3 g1 o ⟨xo, xc, yo, yc⟩ ∧ Box w3 h o ⟨po, pc, qo, qc⟩ ∧ Below h w w3 ∧ h ≤ w3.heap.size) := ⟨H1.out.1.later b3, H1.out.2.1.later b3, down h H1.out.2.2 b3⟩
  clear b3 H1 lm
  go_upto_region 3 with fail
  have la := ld_op (show Has w3 h (oL o ⟨po, pc, qo, qc⟩) from H3.out.2.1.1)
  go_wp2_with (refine wpList_ld la rfl rfl rfl ?_)
  refine (rputop_any o ⟨po, pc, qo, qc⟩ n w3 H3.out.2.1.2 HS.out.1).mono ?_
  rintro e w4 ⟨rfl, b4⟩
  have H4 : Hid (Box w4 g1 o ⟨xo, xc, yo, yc⟩ ∧ Box w4 h o ⟨po, pc, qo, qc⟩ ∧ Below h w w4 ∧ h ≤ w4.heap.size) := ⟨H3.out.1.later b4, H3.out.2.1.later b4, down h H3.out.2.2 b4⟩
  clear b4 H3 la
  go_upto_region 4 with fail
  go_wp2_with fail
  refine (CG w4).mono ?_
  rintro e w5 ⟨⟨co, cc, do', dc⟩, rfl, own5, b5⟩
  obtain ⟨g5, hg5⟩ : ∃ g, w5.heap.size = g := ⟨_, rfl⟩
  have N5 := nums_op own5.fwn
  have HB5 := b5.trans ((newer w5 (.cells (oL c ⟨co, cc, do', dc⟩).toArray 29)).mono b5.size)
  have H5 : Hid (Below w4.heap.size w4 (w5.alloc (.cells (oL c ⟨co, cc, do', dc⟩).toArray 29)) ∧ Box (w5.alloc (.cells (oL c ⟨co, cc, do', dc⟩).toArray 29)) g5 c ⟨co, cc, do', dc⟩ ∧ Nums w4.heap.size g5 (w5.alloc (.cells (oL c ⟨co, cc, do', dc⟩).toArray 29)) co c.deps.length 1 0 ∧ Nums w4.heap.size g5 (w5.alloc (.cells (oL c ⟨co, cc, do', dc⟩).toArray 29)) do' c.dots.length 2 1 ∧ w4.heap.size ≤ g5) :=
    ⟨HB5, box_new hg5 own5.fwn.row _, hg5 ▸ N5.1.later (newer _ _), hg5 ▸ N5.2.later (newer _ _), hg5 ▸ b5.size⟩
  clear own5 b5 N5 HB5
  go_upto_region 5 with fail
  generalize hE : w5.alloc (.cells (oL c ⟨co, cc, do', dc⟩).toArray 29) = w6 at H5 ⊢
  clear hE
  try simp only [hg5]
  clear hg5
  go_wp2_with fail
  refine (CR w6).mono ?_
  rintro e w7 ⟨⟨eo, ec, fo, fc⟩, rfl, own7, b7⟩
  obtain ⟨g7, hg7⟩ : ∃ g, w7.heap.size = g := ⟨_, rfl⟩
  have H7 : Hid ((Below w4.heap.size w4 (w7.alloc (.cells (oL c ⟨eo, ec, fo, fc⟩).toArray 29)) ∧ w4.heap.size ≤ g5 ∧ g5 < g7 ∧ g7 < (w7.alloc (.cells (oL c ⟨eo, ec, fo, fc⟩).toArray 29)).heap.size) ∧ Box (w7.alloc (.cells (oL c ⟨eo, ec, fo, fc⟩).toArray 29)) g5 c ⟨co, cc, do', dc⟩ ∧ (Nums w4.heap.size g5 (w7.alloc (.cells (oL c ⟨eo, ec, fo, fc⟩).toArray 29)) co c.deps.length 1 0 ∧ Nums w4.heap.size g5 (w7.alloc (.cells (oL c ⟨eo, ec, fo, fc⟩).toArray 29)) do' c.dots.length 2 1) ∧ Has (w7.alloc (.cells (oL c ⟨eo, ec, fo, fc⟩).toArray 29)) g7 (oL c ⟨eo, ec, fo, fc⟩) ∧ OFwn g5 (w7.alloc (.cells (oL c ⟨eo, ec, fo, fc⟩).toArray 29)) c ⟨eo, ec, fo, fc⟩) := by
    obtain ⟨x1, x2, x3, x4, x5⟩ := H5.out
    have y1 := x1.size
    have y2 := b7.size
    have y3 := x2.1.1
    have f7 := own7.fwn
    exact ⟨⟨x1.trans ((b7.trans ((newer w7 _).mono y2)).mono y1), x5, by omega, by simp; omega⟩, (x2.later b7).later (newer _ _), ⟨(x3.later b7).later (newer _ _), (x4.later b7).later (newer _ _)⟩, hg7 ▸ has_new w7 _ _, (f7.1.later (newer _ _)).mono (by omega), (f7.2.later (newer _ _)).mono (by omega)⟩
  clear own7 b7 H5
  go_upto_region 6 with fail
  generalize hE : w7.alloc (.cells (oL c ⟨eo, ec, fo, fc⟩).toArray 29) = w8 at H7 ⊢
  clear hE
  try simp only [hg7]
  clear hg7
  have H8 : Hid (Box w8 g1 o ⟨xo, xc, yo, yc⟩ ∧ Box w8 h o ⟨po, pc, qo, qc⟩) := ⟨H4.out.1.later H7.out.1.1, H4.out.2.1.later H7.out.1.1⟩
  have la := ld_op (show Has w8 g5 (oL c ⟨co, cc, do', dc⟩) from H7.out.2.1.1)
  have lm := ld_op (show Has w8 g7 (oL c ⟨eo, ec, fo, fc⟩) from H7.out.2.2.2.1)
  go_wp2_with (first
    | refine wpList_ld la rfl rfl rfl ?_
    | refine wpList_ld lm rfl rfl rfl ?_
    | (go_at_call 13; refine (num_any _ _).mono ?_; rintro e v0 ⟨rfl, hw0⟩; have hw1 := hw0.symm; clear hw0; subst hw1)
    | fail)
  refine (sameOp_any c ⟨co, cc, do', dc⟩ ⟨eo, ec, fo, fc⟩ _ H7.out.2.1.2 H7.out.2.2.2.2.row HC.out).mono ?_
  rintro e w9 ⟨rfl, b9⟩
  have HM9 : Hid (Below w8.heap.size w8 w9) := b9
  clear b9 la lm
  have la := ld_op (show Has w9 g1 (oL o ⟨xo, xc, yo, yc⟩) from (H8.out.1.later HM9.out).1)
  have lm := ld_op (show Has w9 h (oL o ⟨po, pc, qo, qc⟩) from (H8.out.2.later HM9.out).1)
  go_wp2_with (first
    | refine wpList_ld la rfl rfl rfl ?_
    | refine wpList_ld lm rfl rfl rfl ?_
    | (go_at_call 13; refine (num_any _ _).mono ?_; rintro e v0 ⟨rfl, hw0⟩; have hw1 := hw0.symm; clear hw0; subst hw1)
    | fail)
  refine (sameOp_any o ⟨xo, xc, yo, yc⟩ ⟨po, pc, qo, qc⟩ _ (H8.out.1.later HM9.out).2 (H8.out.2.later HM9.out).2 HS.out.1).mono ?_
  rintro e w10 ⟨rfl, b10⟩
  have HM : Hid (Below w8.heap.size w8 w10) := HM9.out.trans (b10.mono HM9.out.size)
  clear b10 HM9 H8 la lm
  have H10 : Hid ((Below w4.heap.size w4 w10 ∧ w4.heap.size ≤ g5 ∧ g5 < g7 ∧ g7 < w10.heap.size) ∧ Box w10 g5 c ⟨co, cc, do', dc⟩ ∧ (Nums w4.heap.size g5 w10 co c.deps.length 1 0 ∧ Nums w4.heap.size g5 w10 do' c.dots.length 2 1) ∧ Has w10 g7 (oL c ⟨eo, ec, fo, fc⟩) ∧ OFwn g5 w10 c ⟨eo, ec, fo, fc⟩) := by
    obtain ⟨⟨x1, x2, x3, x4⟩, x5, ⟨x6, x7⟩, x8, x9⟩ := H7.out
    have y := HM.out.size
    exact ⟨⟨x1.trans (HM.out.mono x1.size), x2, x3, by omega⟩, x5.later HM.out, ⟨x6.later HM.out, x7.later HM.out⟩, x8.later HM.out, x9.1.later HM.out, x9.2.later HM.out⟩
  clear H7 HM
  go_upto_region 8 with fail
  have la := ld_op (show Has w10 g5 (oL c ⟨co, cc, do', dc⟩) from H10.out.2.1.1)
  go_wp2_with (refine wpList_ld la rfl rfl rfl ?_)
  refine (spoilOp_mid w4.heap.size g5 c ⟨co, cc, do', dc⟩ w10 H10.out.2.2.1.1 H10.out.2.2.1.2 (by have := H10.out.1; omega) HC.out).mono ?_
  rintro e w11 ⟨rfl, m11⟩
  have H11 : Hid (Below w4.heap.size w4 w11 ∧ Box w11 g7 c ⟨eo, ec, fo, fc⟩) := by
    obtain ⟨⟨x1, x2, x3, x4⟩, x5, ⟨x6, x7⟩, x8, x9⟩ := H10.out
    exact ⟨x1.trans (m11.below x1.size), Box.mid x8 x9 (by omega) m11⟩
  clear m11 H10 la
  go_upto_region 9 with fail
  go_wp2_with fail
  refine (CG w11).mono ?_
  rintro e w12 ⟨⟨ko, kc, lo, lc⟩, rfl, own12, b12⟩
  obtain ⟨g12, hg12⟩ : ∃ g, w12.heap.size = g := ⟨_, rfl⟩
  have H12 : Hid (Below w4.heap.size w4 (w12.alloc (.cells (oL c ⟨ko, kc, lo, lc⟩).toArray 29)) ∧ Box (w12.alloc (.cells (oL c ⟨ko, kc, lo, lc⟩).toArray 29)) g12 c ⟨ko, kc, lo, lc⟩ ∧ Box (w12.alloc (.cells (oL c ⟨ko, kc, lo, lc⟩).toArray 29)) g7 c ⟨eo, ec, fo, fc⟩) :=
    ⟨H11.out.1.trans ((b12.trans ((newer w12 _).mono b12.size)).mono H11.out.1.size), box_new hg12 own12.fwn.row _, (H11.out.2.later b12).later (newer _ _)⟩
  clear own12 b12 H11
  go_upto_region 10 with fail
  generalize hE : w12.alloc (.cells (oL c ⟨ko, kc, lo, lc⟩).toArray 29) = w13 at H12 ⊢
  clear hE
  try simp only [hg12]
  clear hg12
  obtain ⟨k, hk⟩ : ∃ k, w13.heap.size = k := ⟨_, rfl⟩
  have HK : Hid (w13.heap.size = k) := hk
  have HX : Hid ((Box w13 g1 o ⟨xo, xc, yo, yc⟩ ∧ Box w13 h o ⟨po, pc, qo, qc⟩) ∧ (Box w13 g12 c ⟨ko, kc, lo, lc⟩ ∧ Box w13 g7 c ⟨eo, ec, fo, fc⟩) ∧ Below h w w13 ∧ h ≤ w13.heap.size) := ⟨⟨H4.out.1.later H12.out.1, H4.out.2.1.later H12.out.1⟩, H12.out.2, down h H4.out.2.2 H12.out.1⟩
  clear H12 H4
  have hlt : g1 < k ∧ h < k ∧ g12 < k ∧ g7 < k := by
    have e := HK.out
    have x1 := HX.out.1.1.1.1
    have x2 := HX.out.1.2.1.1
    have x3 := HX.out.2.1.1.1.1
    have x4 := HX.out.2.1.2.1.1
    omega
  obtain ⟨l1, l2, l3, l4⟩ := hlt
  have bx : ∀ {g : Nat} {o' : O14} {q' : Pq} (_ : Box w13 g o' q') (r : MW k w13), Box r.w g o' q' := fun b r => b.later (HK.out.symm ▸ r.h.1)
  have C1 : ∀ r : MW k w13, Calls Try.prog 14 #[oV c ⟨ko, kc, lo, lc⟩, oV c ⟨eo, ec, fo, fc⟩] r.w fun e w' => e = .returned (.bool true) ∧ Below r.w.heap.size r.w w' := fun r => sameOp_any c _ _ r.w (bx HX.out.2.1.1 r).2 (bx HX.out.2.1.2 r).2 HC.out
  have C2 : ∀ r : MW k w13, Calls Try.prog 16 #[oV o ⟨xo, xc, yo, yc⟩, .int .i64 n] r.w fun e w' => e = .returned (.bool (mayO o n)) ∧ Below r.w.heap.size r.w w' := fun r => omay_any o _ n r.w (bx HX.out.1.1 r).2 HS.out.1
  have C3 : ∀ r : MW k w13, Calls Try.prog 17 #[oV o ⟨po, pc, qo, qc⟩, .int .i64 n] r.w fun e w' => e = .returned (.bool (mayO o n)) ∧ Below r.w.heap.size r.w w' := fun r => ropmay_any o _ n r.w (bx HX.out.1.2 r).2 HS.out.1
  have C4 : ∀ r : MW k w13, Calls Try.prog 18 #[oV o ⟨xo, xc, yo, yc⟩] r.w fun e w' => e = .returned (.int .i64 (kindN o.kind)) ∧ Below r.w.heap.size r.w w' := fun r => okind_any o _ r.w
  have C5 : ∀ r : MW k w13, Calls Try.prog 19 #[oV o ⟨po, pc, qo, qc⟩] r.w fun e w' => e = .returned (.int .i64 (kindN o.kind)) ∧ Below r.w.heap.size r.w w' := fun r => rkind_any o _ r.w
  have C6 : ∀ r : MW k w13, Calls Try.prog 20 #[] r.w fun e w' => e = .returned (.bool true) ∧ Below r.w.heap.size r.w w' := fun r => awake11_any r.w
  have la := ld_mild (show Has w13 g1 (oL o ⟨xo, xc, yo, yc⟩) from HX.out.1.1.1) l1
  have lm := ld_mild (show Has w13 h (oL o ⟨po, pc, qo, qc⟩) from HX.out.1.2.1) l2
  have lc := ld_mild (show Has w13 g12 (oL c ⟨ko, kc, lo, lc⟩) from HX.out.2.1.1.1) l3
  have ld := ld_mild (show Has w13 g7 (oL c ⟨eo, ec, fo, fc⟩) from HX.out.2.1.2.1) l4
  have hne : Nonempty (MW k w13) := MW.some hk
  refine wp_region_mild hk (by kernel_rfl) (by kernel_rfl) ?_
  try dsimp only [List.append]
  repeat (first | (first | refine wpQuiet_ld la rfl rfl rfl ?_ | refine wpQuiet_ld lm rfl rfl rfl ?_ | refine wpQuiet_ld lc rfl rfl rfl ?_ | refine wpQuiet_ld ld rfl rfl rfl ?_); (try simp only [Act.put, List.setIfInBounds_toArray, List.set_cons_zero, List.set_cons_succ]) | go_big_quiet_step (first
    | (go_at_call 14; refine (C1 _).mono ?_; rintro e w3 ⟨rfl, b⟩; exact ⟨rfl, MW.later _ b⟩)
    | (go_at_call 16; refine (C2 _).mono ?_; rintro e w3 ⟨rfl, b⟩; exact ⟨rfl, MW.later _ b⟩)
    | (go_at_call 17; refine (C3 _).mono ?_; rintro e w3 ⟨rfl, b⟩; exact ⟨rfl, MW.later _ b⟩)
    | (go_at_call 18; refine (C4 _).mono ?_; rintro e w3 ⟨rfl, b⟩; exact ⟨rfl, MW.later _ b⟩)
    | (go_at_call 19; refine (C5 _).mono ?_; rintro e w3 ⟨rfl, b⟩; exact ⟨rfl, MW.later _ b⟩)
    | (go_at_call 20; refine (C6 _).mono ?_; rintro e w3 ⟨rfl, b⟩; exact ⟨rfl, MW.later _ b⟩)))
  refine wpQuiet_nil ?_
  intro _ hw'
  obtain ⟨rq, rfl⟩ := hw'
  have HEND : Hid (Below h w rq.w) := (down h HX.out.2.2 (HK.out.symm ▸ rq.h.1)).1
  clear la lm lc ld C1 C2 C3 C4 C5 C6 bx
  go_wp2
  go_ret
  exact ⟨rfl, HEND.out⟩

set_option maxRecDepth 100000 in
theorem walk {H : Type} {enc : TypeId × Value → H} {base : Nat} {d0 : DataW H} {p0 : List MemPlace} (v0 : Value) (s : ByteArray) (n : Int) (w : World)
    (o0 : Value.okWide Try.prog w .any base 29 v0) (h0 : DataW.Trod enc Try.prog w 0 (fun _ => true) true 29 v0 d0 p0) (z0 : ∀ n, n ∈ DataW.weights Try.prog 29 d0 → n ≤ reachBytes)
    (hs : s.size ≤ maxLen) (_ : (Lit.int .i64 n).wf = true) :
    Calls Try.prog 3 #[v0, .string s, .int .i64 n] w fun e w' => e = .returned (.bool true) ∧ Below w.heap.size w w' := by
  obtain ⟨o, q, rfl, hr, hz⟩ := open_op o0 h0 z0
  exact core o q s n w hr hz hs

end Go.Proofs.Ytjfgccjdkflfoaa.Ops

