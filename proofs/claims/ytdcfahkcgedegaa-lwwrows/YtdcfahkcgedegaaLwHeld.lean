/-
  A round of writes: what stays while Set is called with a text that is told on the way; cells written over others.
-/
import Derived.Test.YtdcfahkcgedegaaLwRows
import Derived.Deep.RegionHeld3
namespace Go.Proofs.Ytdcfahkcgedegaa
open Go.RowKit
set_option linter.unusedVariables false
set_option linter.unusedSimpArgs false

/-- Where the region begins: the cell that is written to, the stamp. -/
def Src (w1 : World) (B g k : Nat) (s : Bool) (T N : Int) (v : ByteArray) (X Y : Int) : Prop :=
  g < B ∧ k < B ∧ Has w1 g (gl s T N v) ∧ Has w1 k [.int .i64 X, .int .i64 Y]

/-- What the region keeps. -/
abbrev HeldR (w1 : World) (B g k : Nat) (s : Bool) (T N : Int) (v : ByteArray) (X Y : Int) (W : World) : Prop :=
  Hid (Below B w1 W ∧ B ≤ W.heap.size) ∧ W.cell? ⟨g, 0, none⟩ = some (.int .i64 0) ∧ W.cell? ⟨g, 1, none⟩ = some (.bool s) ∧ W.cell? ⟨g, 2, none⟩ = some (.int .i64 T) ∧ W.cell? ⟨g, 3, none⟩ = some (.int .i64 N) ∧ W.cell? ⟨g, 4, none⟩ = some (.string v) ∧ W.cell? ⟨g, 5, none⟩ = some (.int .i64 0) ∧ W.cell? ⟨g, 6, none⟩ = some (.int .i64 0) ∧ W.cell? ⟨g, 7, none⟩ = some (.slice none 0 0) ∧ W.cell? ⟨g, 8, none⟩ = some (.slice none 0 0) ∧ W.cell? ⟨g, 9, none⟩ = some (.slice none 0 0) ∧ W.cell? ⟨k, 0, none⟩ = some (.int .i64 X) ∧ W.cell? ⟨k, 1, none⟩ = some (.int .i64 Y)

section
variable {w1 W : World} {B g k : Nat} {s : Bool} {T N : Int} {v : ByteArray} {X Y : Int}

theorem heldR_of (hs : Src w1 B g k s T N v X Y) (hb : Below B w1 W ∧ B ≤ W.heap.size) : HeldR w1 B g k s T N v X Y W := by
  have h1 := (hs.2.2.1.under hs.1 hb.1).ten
  have h2 := (hs.2.2.2.under hs.2.1 hb.1).two
  exact ⟨hb, h1.1, h1.2.1, h1.2.2.1, h1.2.2.2.1, h1.2.2.2.2.1, h1.2.2.2.2.2.1, h1.2.2.2.2.2.2.1, h1.2.2.2.2.2.2.2.1, h1.2.2.2.2.2.2.2.2.1, h1.2.2.2.2.2.2.2.2.2, h2.1, h2.2⟩

theorem heldR_later {W' : World} (hs : Src w1 B g k s T N v X Y) (hb : Below W.heap.size W W') (h : HeldR w1 B g k s T N v X Y W) : HeldR w1 B g k s T N v X Y W' :=
  heldR_of hs ⟨h.1.out.1.trans (hb.mono h.1.out.2), Nat.le_trans h.1.out.2 hb.size⟩

theorem heldR_alloc (hs : Src w1 B g k s T N v X Y) (o : Obj) (h : HeldR w1 B g k s T N v X Y W) : HeldR w1 B g k s T N v X Y (W.alloc o) :=
  heldR_later hs ((Below.refl _ _).alloc (Nat.le_refl _) _) h

theorem heldR_first (hs : Src w1 B g k s T N v X Y) (hz : B ≤ w1.heap.size) (o : Obj) : HeldR w1 B g k s T N v X Y (w1.alloc o).drew :=
  heldR_of hs ⟨((Below.refl _ _).alloc hz o).drew, by have e : (w1.alloc o).drew.heap.size = w1.heap.size + 1 := by simp
                                                      omega⟩

/-- The place of the answer, made ahead of it. -/
def Nine (B : Nat) (w : World) (k : Nat) : Prop := Has w k (zl 0) ∧ B ≤ k

theorem nine_new {w w3 : World} {t : TypeId} (h : B ≤ w.heap.size) (hb : Below (w.alloc (.cells (zl 0).toArray t)).heap.size (w.alloc (.cells (zl 0).toArray t)) w3) : Nine B w3 w.heap.size :=
  ⟨(has_new w (zl 0) t).later hb, h⟩

theorem nine_newd {w w3 : World} {t : TypeId} (h : B ≤ w.heap.size) (hb : Below (w.alloc (.cells (zl 0).toArray t)).drew.heap.size (w.alloc (.cells (zl 0).toArray t)).drew w3) : Nine B w3 w.heap.size :=
  ⟨((has_new w (zl 0) t).later (Below.refl _ _).drew).later hb, h⟩

theorem nine_ten {w : World} {k : Nat} (h : Nine B w k) : w.cell? ⟨k, 0, none⟩ = some (.int .i64 0) ∧ w.cell? ⟨k, 1, none⟩ = some (.bool false) ∧ w.cell? ⟨k, 2, none⟩ = some (.int .i64 0) ∧ w.cell? ⟨k, 3, none⟩ = some (.int .i64 0) ∧ w.cell? ⟨k, 4, none⟩ = some (.string ⟨#[]⟩) ∧ w.cell? ⟨k, 5, none⟩ = some (.int .i64 0) ∧ w.cell? ⟨k, 6, none⟩ = some (.int .i64 0) ∧ w.cell? ⟨k, 7, none⟩ = some (.slice none 0 0) ∧ w.cell? ⟨k, 8, none⟩ = some (.slice none 0 0) ∧ w.cell? ⟨k, 9, none⟩ = some (.slice none 0 0) := h.1.ten

theorem nine_tenf {w : World} {k : Nat} (h : Nine B w k) : w.frozen? ⟨k, 0, none⟩ = false ∧ w.frozen? ⟨k, 1, none⟩ = false ∧ w.frozen? ⟨k, 2, none⟩ = false ∧ w.frozen? ⟨k, 3, none⟩ = false ∧ w.frozen? ⟨k, 4, none⟩ = false ∧ w.frozen? ⟨k, 5, none⟩ = false ∧ w.frozen? ⟨k, 6, none⟩ = false ∧ w.frozen? ⟨k, 7, none⟩ = false ∧ w.frozen? ⟨k, 8, none⟩ = false ∧ w.frozen? ⟨k, 9, none⟩ = false := h.1.tenf

theorem nine_later {w w3 : World} {k : Nat} (h : Nine B w k) (hb : Below w.heap.size w w3) : Nine B w3 k := ⟨h.1.later hb, h.2⟩

theorem heldR_put {q : Nat} (hs : Src w1 B g k s T N v X Y) (t : Nine B W q) (h : HeldR w1 B g k s T N v X Y W) (u0 u1 u2 u3 u4 u5 u6 u7 u8 u9 : Value) : HeldR w1 B g k s T N v X Y (put10 W q u0 u1 u2 u3 u4 u5 u6 u7 u8 u9) :=
  heldR_of hs ⟨below_put10 h.1.out.1 t.2 _ _ _ _ _ _ _ _ _ _, by have := h.1.out.2; simpa using this⟩

/-- Behind the region: the answer lies in a new place, all below is as it was. -/
theorem end_put {q : Nat} (s1 : Bool) (T1 N1 : Int) (v1 : ByteArray) (t : Nine B W q) (h : HeldR w1 B g k s T N v X Y (put10 W q (.int .i64 0) (.bool s1) (.int .i64 T1) (.int .i64 N1) (.string v1) (.int .i64 0) (.int .i64 0) (.slice none 0 0) (.slice none 0 0) (.slice none 0 0))) :
    B ≤ q ∧ Has (put10 W q (.int .i64 0) (.bool s1) (.int .i64 T1) (.int .i64 N1) (.string v1) (.int .i64 0) (.int .i64 0) (.slice none 0 0) (.slice none 0 0) (.slice none 0 0)) q (gl s1 T1 N1 v1) ∧ Below B w1 (put10 W q (.int .i64 0) (.bool s1) (.int .i64 T1) (.int .i64 N1) (.string v1) (.int .i64 0) (.int .i64 0) (.slice none 0 0) (.slice none 0 0) (.slice none 0 0)) :=
  ⟨t.2, t.1.put10 _ _ _ _ _ _ _ _ _ _, h.1.out.1⟩

theorem end_new (s1 : Bool) (T1 N1 : Int) (v1 : ByteArray) (t : TypeId) (hB : B ≤ W.heap.size) (h : HeldR w1 B g k s T N v X Y (W.alloc (.cells (gl s1 T1 N1 v1).toArray t))) :
    B ≤ W.heap.size ∧ Has (W.alloc (.cells (gl s1 T1 N1 v1).toArray t)) W.heap.size (gl s1 T1 N1 v1) ∧ Below B w1 (W.alloc (.cells (gl s1 T1 N1 v1).toArray t)) :=
  ⟨hB, has_new W (gl s1 T1 N1 v1) t, h.1.out.1⟩

theorem heldR_swap {t : TypeId} {o : Obj} (hs : Src w1 B g k s T N v X Y) (hB : B ≤ W.heap.size) (h : HeldR w1 B g k s T N v X Y (W.alloc o)) (o' : Obj) : HeldR w1 B g k s T N v X Y (W.alloc o') := by
  have h0 := h.1.out.1
  refine heldR_of hs ⟨⟨h0.os, h0.tape, h0.output, by simpa using h0.size, fun i hi => ?_⟩, by simp; omega⟩
  rw [← h0.block i hi, Below.heap_alloc _ _ _ (by omega), Below.heap_alloc _ _ _ (by omega)]

end

/-- Set at a cell that such writes left, the text as it is told on the way. -/
theorem lset_at {m : P2} {s : Bool} {T N : Int} {v : ByteArray} (X Y : Nat) (w : World) (hm : Some0 m) (hx : Fine ((X : Int), (Y : Int))) (hl : Let m s T N v) :
    Calls Try.prog 8 #[.agg #[.int .i64 0, .bool s, .int .i64 T, .int .i64 N, .string v, .int .i64 0, .int .i64 0, .slice none 0 0, .slice none 0 0, .slice none 0 0], .agg #[.int .i64 (X : Int), .int .i64 (Y : Int)], .string ((⟨#[118]⟩ : ByteArray) ++ ⟨(Lib.decDigits X).toArray⟩ ++ (⟨#[46]⟩ : ByteArray) ++ ⟨(Lib.decDigits Y).toArray⟩)] w fun e w' => ∃ s' T' N' v', e = .returned (.tuple #[gv s' T' N' v', .int .i64 0]) ∧ Let (up m ((X : Int), (Y : Int))) s' T' N' v' ∧ Below w.heap.size w w' :=
  lset_step w hm hx hl rfl rfl rfl

theorem has_off10 {w : World} {g k : Nat} {xs : List Value} (h : Has w k xs) (hg : g ≠ k) (u0 u1 u2 u3 u4 u5 u6 u7 u8 u9 : Value) : Has (put10 w g u0 u1 u2 u3 u4 u5 u6 u7 u8 u9) k xs :=
  (((((((((h.other hg 0 u0).other hg 1 u1).other hg 2 u2).other hg 3 u3).other hg 4 u4).other hg 5 u5).other hg 6 u6).other hg 7 u7).other hg 8 u8).other hg 9 u9

theorem Regs.under {h B : Nat} {w w1 w2 : World} {L : List (Nat × List Value)} (H : Regs h w w1 L) (hL : ∀ e ∈ L, e.1 < B) (hB : h ≤ B) (hb : Below B w1 w2) : Regs h w w2 L := by
  induction L with
  | nil => exact ⟨H.1.trans (hb.mono hB), Nat.le_trans H.2 hb.size⟩
  | cons e L ih => exact ⟨H.1.under (hL e (by simp)) hb, ih H.2 fun e he => hL e (by simp [he])⟩

theorem Regs.lt {h : Nat} {w w1 : World} {L : List (Nat × List Value)} (H : Regs h w w1 L) : ∀ e ∈ L, e.1 < w1.heap.size := by
  induction L with
  | nil => intro e he; simp at he
  | cons a L ih =>
    intro e he
    rcases List.mem_cons.1 he with rfl | he
    · exact H.1.1
    · exact ih H.2 e he

/-- The first cell of the law written over, then the second, then the latest stamp. -/
theorem round_a {wz w4 : World} {g kx ky kc kd : Nat} {x y b c e f : List Value} {z0 z1 z2 z3 z4 z5 z6 z7 z8 z9 : Value} (s1 : Bool) (T1 N1 : Int) (v1 : ByteArray) (h : g + 2 < kx ∧ g + 2 < kc ∧ g + 2 < kd ∧ Regs g wz w4 [(kd, x), (kc, y), (kx, b), (ky, c), (g + 2, e), (g + 1, f), (g, [z0, z1, z2, z3, z4, z5, z6, z7, z8, z9])]) :
    g + 2 < kx ∧ g + 2 < kd ∧ Regs g wz (put10 w4 g (.int .i64 0) (.bool s1) (.int .i64 T1) (.int .i64 N1) (.string v1) (.int .i64 0) (.int .i64 0) (.slice none 0 0) (.slice none 0 0) (.slice none 0 0)) [(kd, x), (kx, b), (g + 2, e), (g + 1, f), (g, gl s1 T1 N1 v1)] :=
  ⟨h.1, h.2.2.1, has_off10 h.2.2.2.1 (by omega) _ _ _ _ _ _ _ _ _ _, has_off10 h.2.2.2.2.2.1 (by omega) _ _ _ _ _ _ _ _ _ _, has_off10 h.2.2.2.2.2.2.2.1 (by omega) _ _ _ _ _ _ _ _ _ _, has_off10 h.2.2.2.2.2.2.2.2.1 (by omega) _ _ _ _ _ _ _ _ _ _, h.2.2.2.2.2.2.2.2.2.1.put10 _ _ _ _ _ _ _ _ _ _,
    below_put10 h.2.2.2.2.2.2.2.2.2.2.1 (Nat.le_refl _) _ _ _ _ _ _ _ _ _ _, by have := h.2.2.2.2.2.2.2.2.2.2.2; simpa using this⟩

theorem round_b {wz w5 : World} {g kx kd : Nat} {x b e f : List Value} {z0 z1 z2 z3 z4 z5 z6 z7 z8 z9 : Value} (s2 : Bool) (T2 N2 : Int) (v2 : ByteArray) (h : g + 2 < kx ∧ g + 2 < kd ∧ Regs g wz w5 [(kd, x), (kx, b), (g + 2, e), (g + 1, [z0, z1, z2, z3, z4, z5, z6, z7, z8, z9]), (g, f)]) :
    g + 2 < kx ∧ Regs g wz (put10 w5 (g + 1) (.int .i64 0) (.bool s2) (.int .i64 T2) (.int .i64 N2) (.string v2) (.int .i64 0) (.int .i64 0) (.slice none 0 0) (.slice none 0 0) (.slice none 0 0)) [(kx, b), (g + 2, e), (g + 1, gl s2 T2 N2 v2), (g, f)] :=
  ⟨h.1, has_off10 h.2.2.2.1 (by omega) _ _ _ _ _ _ _ _ _ _, has_off10 h.2.2.2.2.1 (by omega) _ _ _ _ _ _ _ _ _ _, h.2.2.2.2.2.1.put10 _ _ _ _ _ _ _ _ _ _, has_off10 h.2.2.2.2.2.2.1 (by omega) _ _ _ _ _ _ _ _ _ _,
    below_put10 h.2.2.2.2.2.2.2.1 (by omega) _ _ _ _ _ _ _ _ _ _, by have := h.2.2.2.2.2.2.2.2; simpa using this⟩

theorem round_c {wz w6 : World} {g kx : Nat} {b f d : List Value} {z0 z1 : Value} (u0 u1 : Value) (h : g + 2 < kx ∧ Regs g wz w6 [(kx, b), (g + 2, [z0, z1]), (g + 1, f), (g, d)]) :
    Regs g wz ((w6.setCell ⟨g + 2, 0, none⟩ u0).setCell ⟨g + 2, 1, none⟩ u1) [(g + 2, [u0, u1]), (g + 1, f), (g, d)] :=
  ⟨(h.2.2.1.put 0 u0).put 1 u1, (h.2.2.2.1.other (by omega) 0 u0).other (by omega) 1 u1, (h.2.2.2.2.1.other (by omega) 0 u0).other (by omega) 1 u1,
    (h.2.2.2.2.2.1.setCell (p := ⟨g + 2, 0, none⟩) (by simp) _).setCell (p := ⟨g + 2, 1, none⟩) (by simp) _, by have := h.2.2.2.2.2.2; simpa using this⟩

theorem below_drewN {B : Nat} {a w : World} (h : Below B a w) : ∀ n, Below B a (w.drewN n)
  | 0 => h
  | n + 1 => (below_drewN h n).drew

/-- What the last test keeps. -/
abbrev HeldE (w1 : World) (g : Nat) (T N : Int) (v : ByteArray) (W : World) : Prop :=
  Hid (Below w1.heap.size w1 W) ∧ W.cell? ⟨g, 1, none⟩ = some (.bool true) ∧ W.cell? ⟨g, 2, none⟩ = some (.int .i64 T) ∧ W.cell? ⟨g, 3, none⟩ = some (.int .i64 N) ∧ W.cell? ⟨g, 4, none⟩ = some (.string v) ∧ W.cell? ⟨g + 2, 0, none⟩ = some (.int .i64 T) ∧ W.cell? ⟨g + 2, 1, none⟩ = some (.int .i64 N)

theorem heldE_of {w1 W : World} {g : Nat} {T N : Int} {v : ByteArray} (h1 : Has w1 g (gl true T N v)) (h2 : Has w1 (g + 2) [.int .i64 T, .int .i64 N]) (hb : Below w1.heap.size w1 W) : HeldE w1 g T N v W := by
  have a := (h1.later hb).ten
  have b := (h2.later hb).two
  exact ⟨hb, a.2.1, a.2.2.1, a.2.2.2.1, a.2.2.2.2.1, b.1, b.2⟩

theorem heldE_later {w1 W W' : World} {g : Nat} {T N : Int} {v : ByteArray} (h1 : Has w1 g (gl true T N v)) (h2 : Has w1 (g + 2) [.int .i64 T, .int .i64 N]) (hb : Below W.heap.size W W') (h : HeldE w1 g T N v W) : HeldE w1 g T N v W' :=
  heldE_of h1 h2 (h.1.out.trans (hb.mono h.1.out.size))

end Go.Proofs.Ytdcfahkcgedegaa
