/-
  A field's state (api.Cell) as plain data; its ten cells; where its lists lie.
-/
import Derived.Test.YtjfgccjdkflfoaaZRows7
import Derived.Test.YtjfgccjdkflfoaaZOnTo
import Derived.Deep.QuietTactic
import Derived.BigQuiet
import Derived.Test.YtjfgccjdkflfoaaZVarintGet
import Derived.Test.YtjfgccjdkflfoaaZPack1
import Derived.Test.YtjfgccjdkflfoaaZRefGetNum
import Derived.Deep.LoopGhost
import Derived.OwnWalk
import Derived.Shelf.Abstract
import Derived.Lib.Builder
import Derived.Lib.AppendStr
import Derived.Lib.UnsafeStr
import Derived.Lib.OthersKept
import Derived.RegionTactic
namespace Go.Proofs.Ytjfgccjdkflfoaa
open Go.RowKit
set_option linter.unusedVariables false
set_option linter.unusedSimpArgs false

/-- A set's entry. -/
structure E3 where
  node : Int
  seq : Int
  val : ByteArray

/-- A list's element. -/
structure L5 where
  node : Int
  seq : Int
  time : Int
  val : ByteArray
  gone : Bool

/-- A field's state. -/
structure Ce where
  kind : Int
  set : Bool
  time : Int
  node : Int
  val : ByteArray
  re : Int
  im : Int
  ents : List E3
  elems : List L5
  seen : List Int

/-- Where its three lists lie. -/
structure Pl where
  eo : Option Addr
  ec : Nat
  lo : Option Addr
  lc : Nat
  so : Option Addr
  sc : Nat

abbrev e3 (p : E3) : List Value := [.int .i64 p.node, .int .i64 p.seq, .string p.val]
abbrev l5 (p : L5) : List Value := [.int .i64 p.node, .int .i64 p.seq, .int .i64 p.time, .string p.val, .bool p.gone]
def flatE (l : List E3) : List Value := l.flatMap e3
def flatL (l : List L5) : List Value := l.flatMap l5
def flatI (l : List Int) : List Value := l.map (.int .i64)

theorem flatE_len (l : List E3) : (flatE l).length = l.length * 3 := flat_len e3 3 (fun _ => rfl) l
theorem flatL_len (l : List L5) : (flatL l).length = l.length * 5 := flat_len l5 5 (fun _ => rfl) l
theorem flatI_len (l : List Int) : (flatI l).length = l.length * 1 := by simp [flatI]

theorem flatE_at (l : List E3) (i : Nat) {p : E3} (h : l[i]? = some p) : (flatE l)[i * 3]? = some (.int .i64 p.node) ∧ (flatE l)[i * 3 + 1]? = some (.int .i64 p.seq) ∧ (flatE l)[i * 3 + 2]? = some (.string p.val) :=
  ⟨flat_get e3 3 (fun _ => rfl) l i 0 (by omega) h, flat_get e3 3 (fun _ => rfl) l i 1 (by omega) h, flat_get e3 3 (fun _ => rfl) l i 2 (by omega) h⟩

theorem flatL_at (l : List L5) (i : Nat) {p : L5} (h : l[i]? = some p) : (flatL l)[i * 5]? = some (.int .i64 p.node) ∧ (flatL l)[i * 5 + 1]? = some (.int .i64 p.seq) ∧ (flatL l)[i * 5 + 2]? = some (.int .i64 p.time) ∧ (flatL l)[i * 5 + 3]? = some (.string p.val) ∧ (flatL l)[i * 5 + 4]? = some (.bool p.gone) :=
  ⟨flat_get l5 5 (fun _ => rfl) l i 0 (by omega) h, flat_get l5 5 (fun _ => rfl) l i 1 (by omega) h, flat_get l5 5 (fun _ => rfl) l i 2 (by omega) h, flat_get l5 5 (fun _ => rfl) l i 3 (by omega) h, flat_get l5 5 (fun _ => rfl) l i 4 (by omega) h⟩

theorem flatI_at (l : List Int) (i : Nat) {x : Int} (h : l[i]? = some x) : (flatI l)[i]? = some (.int .i64 x) := by simp [flatI, h]

theorem oneE {l : List E3} {u : Value} (h : u ∈ flatE l) : u.oneCell' = true := by
  simp only [flatE, e3, List.mem_flatMap, List.mem_cons, List.not_mem_nil, or_false] at h
  obtain ⟨p, _, rfl | rfl | rfl⟩ := h <;> rfl

theorem oneL {l : List L5} {u : Value} (h : u ∈ flatL l) : u.oneCell' = true := by
  simp only [flatL, l5, List.mem_flatMap, List.mem_cons, List.not_mem_nil, or_false] at h
  obtain ⟨p, _, rfl | rfl | rfl | rfl | rfl⟩ := h <;> rfl

theorem oneI {l : List Int} {u : Value} (h : u ∈ flatI l) : u.oneCell' = true := by
  simp only [flatI, List.mem_map] at h
  obtain ⟨p, _, rfl⟩ := h; rfl

theorem Try.infoSeen : (Try.prog.info? 3).map (fun i => (i.zero, i.size, i.bytes)) = some (some (.int .i64 0), 1, 8) := by kernel_rfl

/-- The cell's ten cells. -/
abbrev ceL (c : Ce) (p : Pl) : List Value := [.int .i64 c.kind, .bool c.set, .int .i64 c.time, .int .i64 c.node, .string c.val, .int .i64 c.re, .int .i64 c.im, .slice p.eo c.ents.length p.ec, .slice p.lo c.elems.length p.lc, .slice p.so c.seen.length p.sc]
abbrev ceV (c : Ce) (p : Pl) : Value := .agg #[.int .i64 c.kind, .bool c.set, .int .i64 c.time, .int .i64 c.node, .string c.val, .int .i64 c.re, .int .i64 c.im, .slice p.eo c.ents.length p.ec, .slice p.lo c.elems.length p.lc, .slice p.so c.seen.length p.sc]

/-- The cell of nothing. -/
def ce0 : Ce := ⟨0, false, 0, 0, ByteArray.empty, 0, 0, [], [], []⟩
def pl0 : Pl := ⟨none, 0, none, 0, none, 0⟩

/-- Its lists lie there. -/
def CRow (w : World) (c : Ce) (p : Pl) : Prop := FRow w p.eo (flatE c.ents) ∧ FRow w p.lo (flatL c.elems) ∧ FRow w p.so (flatI c.seen)
def COwn (B : Nat) (w : World) (c : Ce) (p : Pl) : Prop := FOwn B w p.eo (flatE c.ents) ∧ FOwn B w p.lo (flatL c.elems) ∧ FOwn B w p.so (flatI c.seen)

theorem COwn.row {B : Nat} {w : World} {c : Ce} {p : Pl} (h : COwn B w c p) : CRow w c p := ⟨h.1.row, h.2.1.row, h.2.2.row⟩
theorem CRow.later {w w' : World} {c : Ce} {p : Pl} (h : CRow w c p) (hb : Below w.heap.size w w') : CRow w' c p := ⟨h.1.later hb, h.2.1.later hb, h.2.2.later hb⟩
theorem COwn.later {B : Nat} {w w' : World} {c : Ce} {p : Pl} (h : COwn B w c p) (hb : Below w.heap.size w w') : COwn B w' c p := ⟨h.1.later hb, h.2.1.later hb, h.2.2.later hb⟩
theorem COwn.mono {B C : Nat} {w : World} {c : Ce} {p : Pl} (h : COwn B w c p) (hC : C ≤ B) : COwn C w c p := ⟨h.1.mono hC, h.2.1.mono hC, h.2.2.mono hC⟩
theorem COwn.kept {A B : Nat} {w v w' : World} {c : Ce} {p : Pl} (h : COwn A w c p) (hB : w.heap.size ≤ B) (h1 : Below w.heap.size w v) (hb : Below B v w') : COwn A w' c p := ⟨h.1.kept hB h1 hb, h.2.1.kept hB h1 hb, h.2.2.kept hB h1 hb⟩
theorem CRow.alloc {w : World} {c : Ce} {p : Pl} (h : CRow w c p) (o : Obj) : CRow (w.alloc o) c p := h.later ((Below.refl _ _).alloc (Nat.le_refl _) _)

/-- What memory bears. -/
def Fit (c : Ce) : Prop := c.ents.length * 32 ≤ 140737488351232 ∧ c.elems.length * 48 ≤ 140737488351232 ∧ c.seen.length * 8 ≤ 140737488351232 ∧ c.val.size ≤ 140737488351232 ∧ (∀ (i : Nat) x, c.ents[i]? = some x → x.val.size ≤ 140737488351232) ∧ (∀ (i : Nat) x, c.elems[i]? = some x → x.val.size ≤ 140737488351232)

/-- A list of nothing is nil. -/
def Nils (c : Ce) (p : Pl) : Prop := (c.ents.length = 0 → p.eo = none ∧ p.ec = 0) ∧ (c.elems.length = 0 → p.lo = none ∧ p.lc = 0) ∧ (c.seen.length = 0 → p.so = none ∧ p.sc = 0)

theorem Has.under {w w' : World} {g B : Nat} {xs : List Value} (h : Has w g xs) (hg : g < B) (hb : Below B w w') : Has w' g xs :=
  ⟨Nat.lt_of_lt_of_le h.1 hb.size, fun i u hu => ⟨(hb.cell (by exact hg)).trans (h.2 i u hu).1, (hb.frozen (by exact hg)).trans (h.2 i u hu).2⟩⟩

theorem Has.alloc {w : World} {g : Nat} {xs : List Value} (h : Has w g xs) (o : Obj) : Has (w.alloc o) g xs := h.later ((Below.refl _ _).alloc (Nat.le_refl _) _)

/-- The ten cells, one by one. -/
theorem Has.ten {w : World} {g : Nat} {u0 u1 u2 u3 u4 u5 u6 u7 u8 u9 : Value} (h : Has w g [u0, u1, u2, u3, u4, u5, u6, u7, u8, u9]) :
    w.cell? ⟨g, 0, none⟩ = some u0 ∧ w.cell? ⟨g, 1, none⟩ = some u1 ∧ w.cell? ⟨g, 2, none⟩ = some u2 ∧ w.cell? ⟨g, 3, none⟩ = some u3 ∧ w.cell? ⟨g, 4, none⟩ = some u4 ∧ w.cell? ⟨g, 5, none⟩ = some u5 ∧ w.cell? ⟨g, 6, none⟩ = some u6 ∧ w.cell? ⟨g, 7, none⟩ = some u7 ∧ w.cell? ⟨g, 8, none⟩ = some u8 ∧ w.cell? ⟨g, 9, none⟩ = some u9 :=
  ⟨h.at 0 rfl, h.at 1 rfl, h.at 2 rfl, h.at 3 rfl, h.at 4 rfl, h.at 5 rfl, h.at 6 rfl, h.at 7 rfl, h.at 8 rfl, h.at 9 rfl⟩

theorem Has.tenf {w : World} {g : Nat} {u0 u1 u2 u3 u4 u5 u6 u7 u8 u9 : Value} (h : Has w g [u0, u1, u2, u3, u4, u5, u6, u7, u8, u9]) :
    w.frozen? ⟨g, 0, none⟩ = false ∧ w.frozen? ⟨g, 1, none⟩ = false ∧ w.frozen? ⟨g, 2, none⟩ = false ∧ w.frozen? ⟨g, 3, none⟩ = false ∧ w.frozen? ⟨g, 4, none⟩ = false ∧ w.frozen? ⟨g, 5, none⟩ = false ∧ w.frozen? ⟨g, 6, none⟩ = false ∧ w.frozen? ⟨g, 7, none⟩ = false ∧ w.frozen? ⟨g, 8, none⟩ = false ∧ w.frozen? ⟨g, 9, none⟩ = false :=
  ⟨h.free 0 rfl, h.free 1 rfl, h.free 2 rfl, h.free 3 rfl, h.free 4 rfl, h.free 5 rfl, h.free 6 rfl, h.free 7 rfl, h.free 8 rfl, h.free 9 rfl⟩

/-- The world behind a store of ten cells. -/
abbrev put10 (w : World) (g : Nat) (u0 u1 u2 u3 u4 u5 u6 u7 u8 u9 : Value) : World := (((((((((w.setCell ⟨g, 0, none⟩ u0).setCell ⟨g, 1, none⟩ u1).setCell ⟨g, 2, none⟩ u2).setCell ⟨g, 3, none⟩ u3).setCell ⟨g, 4, none⟩ u4).setCell ⟨g, 5, none⟩ u5).setCell ⟨g, 6, none⟩ u6).setCell ⟨g, 7, none⟩ u7).setCell ⟨g, 8, none⟩ u8).setCell ⟨g, 9, none⟩ u9

theorem Has.put10 {w : World} {g : Nat} {z0 z1 z2 z3 z4 z5 z6 z7 z8 z9 : Value} (h : Has w g [z0, z1, z2, z3, z4, z5, z6, z7, z8, z9]) (u0 u1 u2 u3 u4 u5 u6 u7 u8 u9 : Value) : Has (put10 w g u0 u1 u2 u3 u4 u5 u6 u7 u8 u9) g [u0, u1, u2, u3, u4, u5, u6, u7, u8, u9] :=
  (((((((((h.put 0 u0).put 1 u1).put 2 u2).put 3 u3).put 4 u4).put 5 u5).put 6 u6).put 7 u7).put 8 u8).put 9 u9

theorem below_put10 {B : Nat} {a w : World} (h : Below B a w) {g : Nat} (hg : B ≤ g) (u0 u1 u2 u3 u4 u5 u6 u7 u8 u9 : Value) : Below B a (put10 w g u0 u1 u2 u3 u4 u5 u6 u7 u8 u9) :=
  (((((((((h.setCell (p := ⟨g, 0, none⟩) hg _).setCell (p := ⟨g, 1, none⟩) hg _).setCell (p := ⟨g, 2, none⟩) hg _).setCell (p := ⟨g, 3, none⟩) hg _).setCell (p := ⟨g, 4, none⟩) hg _).setCell (p := ⟨g, 5, none⟩) hg _).setCell (p := ⟨g, 6, none⟩) hg _).setCell (p := ⟨g, 7, none⟩) hg _).setCell (p := ⟨g, 8, none⟩) hg _).setCell (p := ⟨g, 9, none⟩) hg _

theorem FOwn.put10 {B : Nat} {w : World} {ao : Option Addr} {xs : List Value} (h : FOwn B w ao xs) {g : Nat} (hg : g < B) (u0 u1 u2 u3 u4 u5 u6 u7 u8 u9 : Value) : FOwn B (put10 w g u0 u1 u2 u3 u4 u5 u6 u7 u8 u9) ao xs := fun h0 => by
  obtain ⟨b, h1, h4, h2, h3⟩ := h h0
  have hne : ∀ o i, (⟨b, i, none⟩ : Addr) ≠ ⟨g, o, none⟩ := fun o i e => by injection e; omega
  refine ⟨b, h1, h4, by simpa using h2, fun i u hu => ?_⟩
  simp only [World.frozen?_setCell]
  refine ⟨?_, (h3 i u hu).2⟩
  repeat rw [World.cell?_setCell_other _ _ _ _ (by first | exact hne _ _ | exact (hne _ _).symm)]
  exact (h3 i u hu).1

/-- One cell of another block set. -/
theorem FOwn.off {B : Nat} {w : World} {ao : Option Addr} {xs : List Value} (h : FOwn B w ao xs) {g : Nat} (hg : g < B) (o : Nat) (v : Value) : FOwn B (w.setCell ⟨g, o, none⟩ v) ao xs := fun h0 => by
  obtain ⟨b, h1, h4, h2, h3⟩ := h h0
  have hne : ∀ o i, (⟨b, i, none⟩ : Addr) ≠ ⟨g, o, none⟩ := fun o i e => by injection e; omega
  refine ⟨b, h1, h4, by simpa using h2, fun i u hu => ?_⟩
  simp only [World.frozen?_setCell]
  refine ⟨?_, (h3 i u hu).2⟩
  rw [World.cell?_setCell_other _ _ _ _ (by first | exact hne _ _ | exact (hne _ _).symm)]
  exact (h3 i u hu).1

theorem COwn.put10 {B : Nat} {w : World} {c : Ce} {p : Pl} (h : COwn B w c p) {g : Nat} (hg : g < B) (u0 u1 u2 u3 u4 u5 u6 u7 u8 u9 : Value) : COwn B (put10 w g u0 u1 u2 u3 u4 u5 u6 u7 u8 u9) c p :=
  ⟨h.1.put10 hg _ _ _ _ _ _ _ _ _ _, h.2.1.put10 hg _ _ _ _ _ _ _ _ _ _, h.2.2.put10 hg _ _ _ _ _ _ _ _ _ _⟩

theorem COwn.off {B : Nat} {w : World} {c : Ce} {p : Pl} (h : COwn B w c p) {g : Nat} (hg : g < B) (o : Nat) (v : Value) : COwn B (w.setCell ⟨g, o, none⟩ v) c p := ⟨h.1.off hg o v, h.2.1.off hg o v, h.2.2.off hg o v⟩

end Go.Proofs.Ytjfgccjdkflfoaa

/-
  The order of dots: package order's Dots, by cmp.Compare; the document's DotLess. Rows of dots.
-/
namespace Go.Proofs.Ytjfgccjdkflfoaa
open Go.RowKit
set_option linter.unusedVariables false
set_option linter.unusedSimpArgs false

abbrev D2 := Int × Int
abbrev d2 (p : D2) : List Value := [.int .i64 p.1, .int .i64 p.2]
abbrev dv (p : D2) : Value := .agg #[.int .i64 p.1, .int .i64 p.2]
def flatD (l : List D2) : List Value := l.flatMap d2

theorem flatD_len (l : List D2) : (flatD l).length = l.length * 2 := flat_len d2 2 (fun _ => rfl) l
theorem flatD_at (l : List D2) (i : Nat) {p : D2} (h : l[i]? = some p) : (flatD l)[i * 2]? = some (.int .i64 p.1) ∧ (flatD l)[i * 2 + 1]? = some (.int .i64 p.2) :=
  ⟨flat_get d2 2 (fun _ => rfl) l i 0 (by omega) h, flat_get d2 2 (fun _ => rfl) l i 1 (by omega) h⟩
theorem flatD_append (l m : List D2) : flatD (l ++ m) = flatD l ++ flatD m := by simp [flatD]
theorem oneD {l : List D2} {u : Value} (h : u ∈ flatD l) : u.oneCell' = true := by
  simp only [flatD, d2, List.mem_flatMap, List.mem_cons, List.not_mem_nil, or_false] at h
  obtain ⟨p, _, rfl | rfl⟩ := h <;> rfl

theorem Try.infoDot : (Try.prog.info? 23).map (fun i => (i.zero, i.size, i.bytes)) = some (some (.agg #[.int .i64 0, .int .i64 0]), 2, 16) := by kernel_rfl

/-- Which of two numbers comes first. -/
def cmpI (x y : Int) : Int := if x < y then -1 else if y < x then 1 else 0
/-- Which of two dots comes first. -/
def cmpD (a b : D2) : Int := if cmpI a.1 b.1 = 0 then cmpI a.2 b.2 else cmpI a.1 b.1

set_option maxHeartbeats 400000 in
theorem nan_any (x : Int) (w : World) :
    Calls Try.prog 78 #[.int .i64 x] w fun e w' => e = .returned (.bool false) ∧ w' = w := by
  have hd : (x != x) = false := by simp
  go_enter Try.func78, Try.ntmps78
  go_wp2
  go_ret
  exact ⟨rfl, rfl⟩

set_option maxHeartbeats 400000 in
theorem cmp_any (x y : Int) (w : World) :
    Calls Try.prog 75 #[.int .i64 x, .int .i64 y] w fun e w' => e = .returned (.int .i64 (cmpI x y)) ∧ w' = w := by
  go_enter Try.func75, Try.ntmps75
  go_wp2_with (go_at_call 78; refine (nan_any _ _).mono ?_; rintro e w1 ⟨rfl, rfl⟩)
  all_goals go_ret
  all_goals (refine ⟨?_, rfl⟩; unfold cmpI; repeat' split)
  all_goals first | rfl | (exfalso; omega)

set_option maxHeartbeats 400000 in
/-- order.Dots: two blocks for its arguments, nothing else. -/
theorem odots_any (a b : D2) (w : World) :
    Calls Try.prog 72 #[dv a, dv b] w fun e w' => e = .returned (.int .i64 (cmpD a b)) ∧ w' = (w.alloc (.cells #[.int .i64 a.1, .int .i64 a.2] 23)).alloc (.cells #[.int .i64 b.1, .int .i64 b.2] 23) := by
  by_cases h : cmpI a.1 b.1 = 0
  · have e : cmpD a b = cmpI a.2 b.2 := by unfold cmpD; rw [if_pos h]
    rw [e]
    have h2 : (cmpI a.1 b.1 != 0) = false := by simpa using h
    clear h e
    go_enter Try.func72, Try.ntmps72
    go_wp2_with (go_at_call 75; refine (cmp_any _ _ _).mono ?_; rintro e w1 ⟨rfl, rfl⟩)
    go_ret
    exact ⟨rfl, rfl⟩
  · have e : cmpD a b = cmpI a.1 b.1 := by unfold cmpD; rw [if_neg h]
    rw [e]
    have h2 : (cmpI a.1 b.1 != 0) = true := by simpa using h
    clear h e
    go_enter Try.func72, Try.ntmps72
    go_wp2_with (go_at_call 75; refine (cmp_any _ _ _).mono ?_; rintro e w1 ⟨rfl, rfl⟩)
    go_ret
    exact ⟨rfl, rfl⟩

theorem odots_below (a b : D2) (w : World) :
    Calls Try.prog 72 #[dv a, dv b] w fun e w' => e = .returned (.int .i64 (cmpD a b)) ∧ Below w.heap.size w w' := by
  refine (odots_any a b w).mono ?_
  rintro e w' ⟨rfl, rfl⟩
  exact ⟨rfl, ((Below.refl _ _).alloc (Nat.le_refl _) _).alloc (by simp) _⟩

/-- Does the one stand ahead of the other? -/
def ltD (a b : D2) : Bool := decide (a.1 < b.1 ∨ a.1 = b.1 ∧ a.2 < b.2)

theorem cmpD_neg (a b : D2) : cmpD a b < 0 ↔ ltD a b = true := by
  unfold cmpD cmpI ltD
  simp only [decide_eq_true_eq]
  repeat' split
  all_goals omega

theorem cmpD_pos (a b : D2) : 0 < cmpD a b ↔ ltD b a = true := by
  unfold cmpD cmpI ltD
  simp only [decide_eq_true_eq]
  repeat' split
  all_goals omega

theorem cmpD_zero (a b : D2) : cmpD a b = 0 ↔ a = b := by
  obtain ⟨a1, a2⟩ := a
  obtain ⟨b1, b2⟩ := b
  simp only [Prod.mk.injEq]
  unfold cmpD cmpI
  simp only
  repeat' split
  all_goals omega

set_option maxHeartbeats 400000 in
theorem dotLess_any (a b : D2) (w : World) :
    Calls Try.prog 63 #[dv a, dv b] w fun e w' => e = .returned (.bool (ltD a b)) ∧ Below w.heap.size w w' := by
  go_enter Try.func63, Try.ntmps63
  go_wp2
  all_goals (go_ret; exact ⟨ret_bool (by unfold ltD; rw [Bool.eq_iff_iff]; simp; omega), ((Below.refl _ _).alloc (Nat.le_refl _) _).alloc (by simp) _⟩)

end Go.Proofs.Ytjfgccjdkflfoaa

/-
  A region that draws its order, whose operations only read and whose callees only make memory: one walk in the order of the text (the library's theorem on quiet regions, at the class of the worlds that stand above one).
-/
namespace Go.Proofs.Ytjfgccjdkflfoaa
open Go.RowKit
set_option linter.unusedVariables false

/-- A world that stands above w1 from B on. -/
structure MW (B : Nat) (w1 : World) where
  w : World
  h : Below B w1 w ∧ B ≤ w.heap.size

theorem MW.cell {B : Nat} {w1 : World} {b o : Nat} {v : Value} (hv : w1.cell? ⟨b, o, none⟩ = some v) (hb : b < B) (r : MW B w1) : r.w.cell? ⟨b, o, none⟩ = some v := (r.h.1.cell (p := ⟨b, o, none⟩) (by exact hb)).trans hv
theorem MW.has {B : Nat} {w1 : World} {b i : Nat} {xs : List Value} {v : Value} (hv : Has w1 b xs) (hb : b < B) (hi : xs[i]? = some v) (r : MW B w1) : r.w.cell? ⟨b, i, none⟩ = some v := MW.cell (hv.at i hi) hb r
theorem MW.later {B : Nat} {w1 w2 : World} (r : MW B w1) (h : Below r.w.heap.size r.w w2) : ∃ r2 : MW B w1, w2 = r2.w := ⟨⟨w2, r.h.1.trans (h.mono r.h.2), Nat.le_trans r.h.2 h.size⟩, rfl⟩
theorem MW.same {B : Nat} {w1 w2 : World} (r : MW B w1) (h : w2 = r.w) : ∃ r2 : MW B w1, w2 = r2.w := ⟨r, h⟩

theorem MW.some {B : Nat} {w1 : World} (h : w1.heap.size = B) : Nonempty (MW B w1) := ⟨⟨w1, Below.refl _ _, Nat.le_of_eq h.symm⟩⟩

theorem wp_region_mild {P : Program} {id : Nat} {Q : Exit → Act → World → Prop} {a : Act} {w : World} {l : List Oper} {B : Nat} (hB0 : w.heap.size = B) (hm : P.follows .mixedOrders = true) (hB : Region.lexB .any l.toArray = true)
    (h : wpQuiet P l.toArray (fun w' => ∃ r : MW B w, w' = r.w) (fun a' => ∀ w', (∃ r : MW B w, w' = r.w) → Q .normal a' w') l a) : (Code.region id l.toArray true).wp P Q a w :=
  wp_region_quiet (C := fun w' => ∃ r : MW B w, w' = r.w) hm hB ⟨⟨w.drew, (Below.refl _ _).drew, Nat.le_of_eq hB0.symm⟩, rfl⟩ (by simpa using h)

/-- Fourteen cells, one by one. -/
theorem Has.f14 {w : World} {g : Nat} {u0 u1 u2 u3 u4 u5 u6 u7 u8 u9 u10 u11 u12 u13 : Value} (h : Has w g [u0, u1, u2, u3, u4, u5, u6, u7, u8, u9, u10, u11, u12, u13]) :
    w.cell? ⟨g, 0, none⟩ = some u0 ∧ w.cell? ⟨g, 1, none⟩ = some u1 ∧ w.cell? ⟨g, 2, none⟩ = some u2 ∧ w.cell? ⟨g, 3, none⟩ = some u3 ∧ w.cell? ⟨g, 4, none⟩ = some u4 ∧ w.cell? ⟨g, 5, none⟩ = some u5 ∧ w.cell? ⟨g, 6, none⟩ = some u6 ∧ w.cell? ⟨g, 7, none⟩ = some u7 ∧ w.cell? ⟨g, 8, none⟩ = some u8 ∧ w.cell? ⟨g, 9, none⟩ = some u9 ∧ w.cell? ⟨g, 10, none⟩ = some u10 ∧ w.cell? ⟨g, 11, none⟩ = some u11 ∧ w.cell? ⟨g, 12, none⟩ = some u12 ∧ w.cell? ⟨g, 13, none⟩ = some u13 :=
  ⟨h.at 0 rfl, h.at 1 rfl, h.at 2 rfl, h.at 3 rfl, h.at 4 rfl, h.at 5 rfl, h.at 6 rfl, h.at 7 rfl, h.at 8 rfl, h.at 9 rfl, h.at 10 rfl, h.at 11 rfl, h.at 12 rfl, h.at 13 rfl⟩
theorem Has.g14 {w : World} {g B : Nat} {u0 u1 u2 u3 u4 u5 u6 u7 u8 u9 u10 u11 u12 u13 : Value} (h : Has w g [u0, u1, u2, u3, u4, u5, u6, u7, u8, u9, u10, u11, u12, u13]) (hb : g < B) :
    (∀ r : MW B w, r.w.cell? ⟨g, 0, none⟩ = some u0) ∧ (∀ r : MW B w, r.w.cell? ⟨g, 1, none⟩ = some u1) ∧ (∀ r : MW B w, r.w.cell? ⟨g, 2, none⟩ = some u2) ∧ (∀ r : MW B w, r.w.cell? ⟨g, 3, none⟩ = some u3) ∧ (∀ r : MW B w, r.w.cell? ⟨g, 4, none⟩ = some u4) ∧ (∀ r : MW B w, r.w.cell? ⟨g, 5, none⟩ = some u5) ∧ (∀ r : MW B w, r.w.cell? ⟨g, 6, none⟩ = some u6) ∧ (∀ r : MW B w, r.w.cell? ⟨g, 7, none⟩ = some u7) ∧ (∀ r : MW B w, r.w.cell? ⟨g, 8, none⟩ = some u8) ∧ (∀ r : MW B w, r.w.cell? ⟨g, 9, none⟩ = some u9) ∧ (∀ r : MW B w, r.w.cell? ⟨g, 10, none⟩ = some u10) ∧ (∀ r : MW B w, r.w.cell? ⟨g, 11, none⟩ = some u11) ∧ (∀ r : MW B w, r.w.cell? ⟨g, 12, none⟩ = some u12) ∧ (∀ r : MW B w, r.w.cell? ⟨g, 13, none⟩ = some u13) :=
  ⟨MW.has h hb rfl, MW.has h hb rfl, MW.has h hb rfl, MW.has h hb rfl, MW.has h hb rfl, MW.has h hb rfl, MW.has h hb rfl, MW.has h hb rfl, MW.has h hb rfl, MW.has h hb rfl, MW.has h hb rfl, MW.has h hb rfl, MW.has h hb rfl, MW.has h hb rfl⟩

end Go.Proofs.Ytjfgccjdkflfoaa

/-
  Package varint's PutText and GetText, by contracts.
-/
namespace Go.Proofs.Ytjfgccjdkflfoaa
open Go.RowKit
set_option linter.unusedVariables false

set_option maxHeartbeats 1000000 in
set_option maxRecDepth 100000 in
theorem putText_any (s : ByteArray) (w : World) (hs : s.size ≤ maxLen) {l : List UInt8} {n : Nat} (hp : Vi.putText s.data.toList = (l, n)) :
    Calls Try.prog 66 #[.string s] w fun e w' => e = .returned (.tuple #[.string ⟨l.toArray⟩, .int .i64 n]) ∧ Below w.heap.size w w' := by
  unfold maxLen at hs
  unfold Vi.putText at hp
  rw [size_list] at hp
  by_cases h : 65536 < s.size
  · rw [if_pos h] at hp
    simp only [Prod.mk.injEq] at hp
    obtain ⟨rfl, rfl⟩ := hp
    go_enter Try.func66, Try.ntmps66
    go_wp2
    go_ret2
    exact ⟨rfl, Below.refl _ _⟩
  · rw [if_neg h] at hp
    simp only [Prod.mk.injEq] at hp
    obtain ⟨rfl, rfl⟩ := hp
    have hl9 := Vi.put_length_le s.size
    go_enter Try.func66, Try.ntmps66
    go_wp2_with (go_at_call 64; refine (put_nat s.size _ (by omega)).mono ?_; rintro e w1 ⟨rfl, hb⟩)
    go_ret2
    exact ⟨rfl, hb⟩

set_option maxHeartbeats 1000000 in
set_option maxRecDepth 100000 in
theorem getText_any (s : ByteArray) (a : Int) (w : World) (hs : s.size ≤ maxLen) (hw : (Lit.int .i64 a).wf = true) {l : List UInt8} {t n : Nat} (hp : Vi.getText s.data.toList a = (l, t, n)) :
    Calls Try.prog 68 #[.string s, .int .i64 a] w fun e w' => e = .returned (.tuple #[.string ⟨l.toArray⟩, .int .i64 t, .int .i64 n]) ∧ Below w.heap.size w w' := by
  obtain ⟨x, to, er, hg⟩ : ∃ x to er, Vi.getI s.data.toList a = (x, to, er) := ⟨_, _, _, rfl⟩
  unfold Vi.getText at hp
  rw [hg, size_list] at hp
  simp only at hp
  have G : Hid (Vi.getI s.data.toList a = (x, to, er)) := hg
  by_cases he : er = 0
  · subst he
    rw [if_pos rfl] at hp
    have hok := Vi.getI_ok hg
    rw [size_list] at hok
    obtain ⟨ha0, ha1, hx, hat, hto, _⟩ := hok
    clear hg
    by_cases h1 : 65536 < x
    · rw [if_pos h1] at hp
      simp only [Prod.mk.injEq] at hp
      obtain ⟨rfl, rfl, rfl⟩ := hp
      go_enter Try.func68, Try.ntmps68
      go_wp2_with (go_at_call 67; refine (get_any s a _ hs hw G.out).mono ?_; rintro e w1 ⟨rfl, rfl⟩)
      go_ret3
      exact ⟨rfl, Below.refl _ _⟩
    · rw [if_neg h1] at hp
      by_cases h2 : s.size - to < x
      · rw [if_pos h2] at hp
        simp only [Prod.mk.injEq] at hp
        obtain ⟨rfl, rfl, rfl⟩ := hp
        unfold maxLen at hs
        go_enter Try.func68, Try.ntmps68
        go_wp2_with (go_at_call 67; refine (get_any s a _ hs hw G.out).mono ?_; rintro e w1 ⟨rfl, rfl⟩)
        go_ret3
        exact ⟨rfl, Below.refl _ _⟩
      · rw [if_neg h2] at hp
        simp only [Prod.mk.injEq] at hp
        obtain ⟨rfl, rfl, rfl⟩ := hp
        unfold maxLen at hs
        go_enter Try.func68, Try.ntmps68
        go_wp2_with (first | (go_at_call 67; refine (get_any s a _ hs hw G.out).mono ?_; rintro e w1 ⟨rfl, rfl⟩) | (go_at_call 74; refine (clone_any _ _ (by rw [Vi.extract_size s to x (by omega)]; omega)).mono ?_; rintro e w2 ⟨rfl, hb⟩))
        go_ret3
        exact ⟨ret_sii (Vi.extract_eq s to x) (by simp) rfl, hb⟩
  · rw [if_neg he] at hp
    simp only [Prod.mk.injEq] at hp
    obtain ⟨rfl, rfl, rfl⟩ := hp
    have hx : x = 0 ∧ to = 0 := by
      have := Vi.getI_err (l := s.data.toList) (a := a) (by rw [hg]; exact he)
      rw [hg] at this
      simpa using this
    obtain ⟨rfl, rfl⟩ := hx
    have hne : ((er : Int) != 0) = true := by rw [bne_iff_ne]; omega
    clear hg
    go_enter Try.func68, Try.ntmps68
    go_wp2_with (go_at_call 67; refine (get_any s a _ hs hw G.out).mono ?_; rintro e w1 ⟨rfl, rfl⟩)
    go_ret3
    exact ⟨rfl, Below.refl _ _⟩

end Go.Proofs.Ytjfgccjdkflfoaa

/-
  The document's own answers for layer 1 (put, PutNum, GetNum, PutText, GetText of the reference package), by contracts: the same plain functions.
-/
namespace Go.Proofs.Ytjfgccjdkflfoaa
open Go.RowKit
set_option linter.unusedVariables false

set_option maxHeartbeats 1000000 in
set_option maxRecDepth 100000 in
theorem refGetText_any (s : ByteArray) (a : Int) (w : World) (hs : s.size ≤ maxLen) (hw : (Lit.int .i64 a).wf = true) {l : List UInt8} {t n : Nat} (hp : Vi.getText s.data.toList a = (l, t, n)) :
    Calls Try.prog 56 #[.string s, .int .i64 a] w fun e w' => e = .returned (.tuple #[.string ⟨l.toArray⟩, .int .i64 t, .int .i64 n]) ∧ Below w.heap.size w w' := by
  obtain ⟨x, to, er, hg⟩ : ∃ x to er, Vi.getI s.data.toList a = (x, to, er) := ⟨_, _, _, rfl⟩
  unfold Vi.getText at hp
  rw [hg, size_list] at hp
  simp only at hp
  have G : Hid (Vi.getI s.data.toList a = (x, to, er)) := hg
  by_cases he : er = 0
  · subst he
    rw [if_pos rfl] at hp
    have hok := Vi.getI_ok hg
    rw [size_list] at hok
    obtain ⟨ha0, ha1, hx, hat, hto, _⟩ := hok
    clear hg
    by_cases h1 : 65536 < x
    · rw [if_pos h1] at hp
      simp only [Prod.mk.injEq] at hp
      obtain ⟨rfl, rfl, rfl⟩ := hp
      go_enter Try.func56, Try.ntmps56
      go_wp2_with (go_at_call 55; refine (refGetNum_any s a _ hs hw G.out).mono ?_; rintro e w1 ⟨rfl, rfl⟩)
      go_ret3
      exact ⟨rfl, Below.refl _ _⟩
    · rw [if_neg h1] at hp
      by_cases h2 : s.size - to < x
      · rw [if_pos h2] at hp
        simp only [Prod.mk.injEq] at hp
        obtain ⟨rfl, rfl, rfl⟩ := hp
        unfold maxLen at hs
        go_enter Try.func56, Try.ntmps56
        go_wp2_with (go_at_call 55; refine (refGetNum_any s a _ hs hw G.out).mono ?_; rintro e w1 ⟨rfl, rfl⟩)
        go_ret3
        exact ⟨rfl, Below.refl _ _⟩
      · rw [if_neg h2] at hp
        simp only [Prod.mk.injEq] at hp
        obtain ⟨rfl, rfl, rfl⟩ := hp
        unfold maxLen at hs
        go_enter Try.func56, Try.ntmps56
        go_wp2_with (go_at_call 55; refine (refGetNum_any s a _ hs hw G.out).mono ?_; rintro e w1 ⟨rfl, rfl⟩)
        go_ret3
        exact ⟨ret_sii (Vi.extract_eq s to x) (by simp) rfl, Below.refl _ _⟩
  · rw [if_neg he] at hp
    simp only [Prod.mk.injEq] at hp
    obtain ⟨rfl, rfl, rfl⟩ := hp
    have hx : x = 0 ∧ to = 0 := by
      have := Vi.getI_err (l := s.data.toList) (a := a) (by rw [hg]; exact he)
      rw [hg] at this
      simpa using this
    obtain ⟨rfl, rfl⟩ := hx
    have hne : ((er : Int) != 0) = true := by rw [bne_iff_ne]; omega
    clear hg
    go_enter Try.func56, Try.ntmps56
    go_wp2_with (go_at_call 55; refine (refGetNum_any s a _ hs hw G.out).mono ?_; rintro e w1 ⟨rfl, rfl⟩)
    go_ret3
    exact ⟨rfl, Below.refl _ _⟩

end Go.Proofs.Ytjfgccjdkflfoaa

/-
  Copies of a cell: the laws' own, and the document's.
-/
namespace Go.Proofs.Ytjfgccjdkflfoaa
open Go.RowKit
set_option linter.unusedVariables false
set_option linter.unusedSimpArgs false

/-- What a copy keeps: the cell itself in block h, room for the answer in block h + 1. -/
def Copy0 (w : World) (h : Nat) (c : Ce) (p : Pl) (w1 : World) : Prop := Below h w w1 ∧ Has w1 h (ceL c p) ∧ Has w1 (h + 1) (ceL ce0 pl0)
def Copy1 (w : World) (h : Nat) (c : Ce) (p : Pl) (ao : Option Addr) (w1 : World) : Prop := Below h w w1 ∧ Has w1 h (ceL c p) ∧ Has w1 (h + 1) (ceL ce0 pl0) ∧ FOwn (h + 2) w1 ao (flatE c.ents)
def Copy2 (w : World) (h : Nat) (c : Ce) (p : Pl) (ao : Option Addr) (ca : Nat) (bo : Option Addr) (w1 : World) : Prop := Below h w w1 ∧ Has w1 h (ceL c { p with eo := ao, ec := ca }) ∧ Has w1 (h + 1) (ceL ce0 pl0) ∧ FOwn (h + 2) w1 ao (flatE c.ents) ∧ FOwn (h + 2) w1 bo (flatL c.elems)
def Copy3 (w : World) (h : Nat) (c : Ce) (p : Pl) (ao : Option Addr) (ca : Nat) (bo : Option Addr) (cb : Nat) (so : Option Addr) (w1 : World) : Prop := Below h w w1 ∧ Has w1 h (ceL c { p with eo := ao, ec := ca, lo := bo, lc := cb }) ∧ Has w1 (h + 1) (ceL ce0 pl0) ∧ FOwn (h + 2) w1 ao (flatE c.ents) ∧ FOwn (h + 2) w1 bo (flatL c.elems) ∧ FOwn (h + 2) w1 so (flatI c.seen)

theorem copy0_new (w : World) (c : Ce) (p : Pl) (t : TypeId) : Copy0 w w.heap.size c p ((w.alloc (.cells (ceL c p).toArray t)).alloc (.cells (ceL ce0 pl0).toArray t)) := by
  refine ⟨((Below.refl _ _).alloc (Nat.le_refl _) _).alloc (by simp) _, (has_new _ _ _).alloc _, ?_⟩
  have := has_new (w.alloc (.cells (ceL c p).toArray t)) (ceL ce0 pl0) t
  simpa using this

theorem Copy0.size {w : World} {h : Nat} {c : Ce} {p : Pl} {w1 : World} (H : Copy0 w h c p w1) : h + 2 ≤ w1.heap.size := by have := H.2.2.1; omega
theorem Copy1.size {w : World} {h : Nat} {c : Ce} {p : Pl} {ao : Option Addr} {w1 : World} (H : Copy1 w h c p ao w1) : h + 2 ≤ w1.heap.size := by have := H.2.2.1.1; omega
theorem Copy2.size {w : World} {h : Nat} {c : Ce} {p : Pl} {ao : Option Addr} {ca : Nat} {bo : Option Addr} {w1 : World} (H : Copy2 w h c p ao ca bo w1) : h + 2 ≤ w1.heap.size := by have := H.2.2.1.1; omega

theorem copy1_of {w : World} {h B : Nat} {c : Ce} {p : Pl} {ao : Option Addr} {W w1 : World} {o : Obj} (hB : B = h + 2) (H : Copy0 w h c p W) (o1 : FOwn B w1 ao (flatE c.ents)) (b1 : Below B (W.alloc o) w1) : Copy1 w h c p ao w1 := by
  subst hB
  have hs := H.size
  exact ⟨(H.1.alloc (by omega) _).trans (b1.mono (by omega)), (H.2.1.alloc _).under (by omega) b1, (H.2.2.alloc _).under (by omega) b1, o1⟩

theorem copy2_of {w : World} {h k : Nat} {c : Ce} {p : Pl} {ao bo : Option Addr} {ca : Nat} {w1 w2 : World} {o : Obj} (hk : w1.heap.size = k) (H : Copy1 w h c p ao w1) (o2 : FOwn k w2 bo (flatL c.elems)) (b2 : Below k ((w1.setCell ⟨h, 7, none⟩ (.slice ao c.ents.length ca)).alloc o) w2) : Copy2 w h c p ao ca bo w2 := by
  subst hk
  have hs := H.size
  refine ⟨((H.1.setCell (p := ⟨h, 7, none⟩) (Nat.le_refl _) _).alloc (by simp; omega) _).trans (b2.mono (by omega)), ((H.2.1.put 7 _).alloc _).under (by omega) b2, ((H.2.2.1.other (by omega) _ _).alloc _).under (by omega) b2, ?_, o2.mono (by omega)⟩
  exact (H.2.2.2.off (g := h) (by omega) 7 _).kept (by simp) ((Below.refl _ _).alloc (Nat.le_refl _) _) b2

theorem copy3_of {w : World} {h k : Nat} {c : Ce} {p : Pl} {ao bo so : Option Addr} {ca cb : Nat} {w1 w2 : World} {o : Obj} (hk : w1.heap.size = k) (H : Copy2 w h c p ao ca bo w1) (o2 : FOwn k w2 so (flatI c.seen)) (b2 : Below k ((w1.setCell ⟨h, 8, none⟩ (.slice bo c.elems.length cb)).alloc o) w2) : Copy3 w h c p ao ca bo cb so w2 := by
  subst hk
  have hs := H.size
  refine ⟨((H.1.setCell (p := ⟨h, 8, none⟩) (Nat.le_refl _) _).alloc (by simp; omega) _).trans (b2.mono (by omega)), ((H.2.1.put 8 _).alloc _).under (by omega) b2, ((H.2.2.1.other (by omega) _ _).alloc _).under (by omega) b2, ?_, ?_, o2.mono (by omega)⟩
  · exact (H.2.2.2.1.off (g := h) (by omega) 8 _).kept (by simp) ((Below.refl _ _).alloc (Nat.le_refl _) _) b2
  · exact (H.2.2.2.2.off (g := h) (by omega) 8 _).kept (by simp) ((Below.refl _ _).alloc (Nat.le_refl _) _) b2

theorem copy1_row {w : World} {h : Nat} {c : Ce} {p : Pl} {ao : Option Addr} {w1 : World} (hh : w.heap.size = h) (H : Copy1 w h c p ao w1) (R : CRow w c p) (v : Value) (o : Obj) : CRow ((w1.setCell ⟨h, 7, none⟩ v).alloc o) c p := by
  subst hh
  have hs := H.size
  exact R.later ((H.1.setCell (p := ⟨w.heap.size, 7, none⟩) (Nat.le_refl _) _).alloc (by simp; omega) _)

theorem copy2_row {w : World} {h : Nat} {c : Ce} {p : Pl} {ao : Option Addr} {ca : Nat} {bo : Option Addr} {w1 : World} (hh : w.heap.size = h) (H : Copy2 w h c p ao ca bo w1) (R : CRow w c p) (v : Value) (o : Obj) : CRow ((w1.setCell ⟨h, 8, none⟩ v).alloc o) c p := by
  subst hh
  have hs := H.size
  exact R.later ((H.1.setCell (p := ⟨w.heap.size, 8, none⟩) (Nat.le_refl _) _).alloc (by simp; omega) _)

end Go.Proofs.Ytjfgccjdkflfoaa

/-
  The laws' own SameCell and SameInts at two cells of the same data, by contracts.
-/
namespace Go.Proofs.Ytjfgccjdkflfoaa
open Go.RowKit
set_option linter.unusedVariables false
set_option linter.unusedSimpArgs false

set_option maxHeartbeats 400000 in
set_option maxRecDepth 100000 in
theorem sameInts_any (ao bo : Option Addr) (ca cb : Nat) (a : List Int) (w : World) (ha : FRow w ao (flatI a)) (hb : FRow w bo (flatI a)) (hla : a.length ≤ maxLen) :
    Calls Try.prog 31 #[.slice ao a.length ca, .slice bo a.length cb] w fun e w' => e = .returned (.bool true) ∧ Below w.heap.size w w' := by
  have HA : Hid (FRow w ao (flatI a)) := ha
  have HC : Hid (FRow w bo (flatI a)) := hb
  clear ha hb
  unfold maxLen at hla
  have hd0 : ((a.length : Int) != (a.length : Int)) = false := by simp
  go_enter Try.func31, Try.ntmps31
  go_wp2
  go_loopg [5] a.length (fun n iv wr => ∃ i : Nat, i + n = a.length ∧ iv = .int .i64 i ∧ Below w.heap.size w wr)
  case atStart => exact ⟨0, by omega, rfl, Below.refl _ _⟩
  case round =>
    obtain ⟨i, hin, rfl, hbel⟩ := hrel
    by_cases hi : i < a.length
    · obtain ⟨bk, off, rfl, hb, hc⟩ := HA.out (by rw [flatI_len]; omega)
      obtain ⟨bk2, off2, rfl, hb2, hc2⟩ := HC.out (by rw [flatI_len]; omega)
      obtain ⟨x, hx⟩ : ∃ x, a[i]? = some x := ⟨_, List.getElem?_eq_getElem hi⟩
      have hcx := (hbel.cell (p := ⟨bk, off + i, none⟩) (by exact hb)).trans (hc i _ (flatI_at a i hx))
      have hcy := (hbel.cell (p := ⟨bk2, off2 + i, none⟩) (by exact hb2)).trans (hc2 i _ (flatI_at a i hx))
      clear hc hc2 hx
      go_wp2
      go_region
      all_goals go_wp2
      all_goals go_roundg (gk - 1)
      case measure => omega
      case rel => exact ⟨i + 1, by omega, by go_num, hbel.drew⟩
    · have hd : decide ((i : Int) < (a.length : Int)) = false := by simp; omega
      go_wp2
      go_ret
      exact ⟨rfl, hbel⟩

/-- What the comparison keeps: both cells, in blocks h and h + 1. -/
def Same2 (w : World) (h : Nat) (c : Ce) (p q : Pl) (w1 : World) : Prop := Below h w w1 ∧ Has w1 h (ceL c p) ∧ Has w1 (h + 1) (ceL c q)

theorem same2_new (w : World) (c : Ce) (p q : Pl) (t : TypeId) : Same2 w w.heap.size c p q ((w.alloc (.cells (ceL c p).toArray t)).alloc (.cells (ceL c q).toArray t)) := by
  refine ⟨((Below.refl _ _).alloc (Nat.le_refl _) _).alloc (by simp) _, (has_new _ _ _).alloc _, ?_⟩
  have := has_new (w.alloc (.cells (ceL c p).toArray t)) (ceL c q) t
  simpa using this

theorem Same2.later {w w1 w2 : World} {h : Nat} {c : Ce} {p q : Pl} (H : Same2 w h c p q w1) (hb : Below w1.heap.size w1 w2) : Same2 w h c p q w2 :=
  ⟨H.1.trans (hb.mono (by have := H.2.1.1; omega)), H.2.1.later hb, H.2.2.later hb⟩

/-- No list is longer than memory. -/
def Lens (c : Ce) : Prop := c.ents.length ≤ 140737488355328 ∧ c.elems.length ≤ 140737488355328 ∧ c.seen.length ≤ 140737488355328
theorem Fit.lens {c : Ce} (h : Fit c) : Lens c := by
  obtain ⟨f1, f2, f3, _⟩ := h
  exact ⟨by omega, by omega, by omega⟩

end Go.Proofs.Ytjfgccjdkflfoaa

/-
  The laws' own SameDots at two rows of the same dots, by contract.
-/
namespace Go.Proofs.Ytjfgccjdkflfoaa
open Go.RowKit
set_option linter.unusedVariables false
set_option linter.unusedSimpArgs false

set_option maxHeartbeats 400000 in
set_option maxRecDepth 100000 in
/-- Two rows of the same dots. -/
theorem dsame_any (ao bo : Option Addr) (ca cb : Nat) (a : List D2) (w : World) (ha : FRow w ao (flatD a)) (hb : FRow w bo (flatD a)) (hla : a.length ≤ maxLen) :
    Calls Try.prog 32 #[.slice ao a.length ca, .slice bo a.length cb] w fun e w' => e = .returned (.bool true) ∧ Below w.heap.size w w' := by
  have HA : Hid (FRow w ao (flatD a)) := ha
  have HC : Hid (FRow w bo (flatD a)) := hb
  clear ha hb
  unfold maxLen at hla
  have hd0 : ((a.length : Int) != (a.length : Int)) = false := by simp
  go_enter Try.func32, Try.ntmps32
  go_wp2
  go_loopg [5] a.length (fun n iv wr => ∃ i : Nat, i + n = a.length ∧ iv = .int .i64 i ∧ Below w.heap.size w wr)
  case atStart => exact ⟨0, by omega, rfl, Below.refl _ _⟩
  case round =>
    obtain ⟨i, hin, rfl, hbel⟩ := hrel
    by_cases hi : i < a.length
    · obtain ⟨bk, off, rfl, hb, hc⟩ := HA.out (by rw [flatD_len]; omega)
      obtain ⟨bk2, off2, rfl, hb2, hc2⟩ := HC.out (by rw [flatD_len]; omega)
      obtain ⟨x, hx⟩ : ∃ x, a[i]? = some x := ⟨_, List.getElem?_eq_getElem hi⟩
      obtain ⟨g0, g1⟩ := flatD_at a i hx
      have hx1 := (hbel.cell (p := ⟨bk, off + i * 2, none⟩) (by exact hb)).trans (hc _ _ g0)
      have hx2 := (hbel.cell (p := ⟨bk, off + i * 2 + 1, none⟩) (by exact hb)).trans (hc _ _ g1)
      have hy1 := (hbel.cell (p := ⟨bk2, off2 + i * 2, none⟩) (by exact hb2)).trans (hc2 _ _ g0)
      have hy2 := (hbel.cell (p := ⟨bk2, off2 + i * 2 + 1, none⟩) (by exact hb2)).trans (hc2 _ _ g1)
      obtain ⟨x1, x2⟩ := x
      clear hc hc2 hx g0 g1
      go_wp2
      go_region
      all_goals go_wp2
      all_goals go_roundg (gk - 1)
      case measure => omega
      case rel => exact ⟨i + 1, by omega, by go_num, hbel.drew⟩
    · have hd : decide ((i : Int) < (a.length : Int)) = false := by simp; omega
      go_wp2
      go_ret
      exact ⟨rfl, hbel⟩

end Go.Proofs.Ytjfgccjdkflfoaa

/-
  The laws' own SpoilCell and SpoilInts: they write over what an answer's lists hold, and over nothing else.
-/
namespace Go.Proofs.Ytjfgccjdkflfoaa
open Go.RowKit
set_option linter.unusedVariables false
set_option linter.unusedSimpArgs false

/-- There is a number, and it may be written over. -/
def IntAt (w : World) (b o : Nat) : Prop := (∃ z, w.cell? ⟨b, o, none⟩ = some (.int .i64 z)) ∧ w.frozen? ⟨b, o, none⟩ = false

theorem IntAt.set {w : World} {b o : Nat} (h : IntAt w b o) (b' o' : Nat) (z' : Int) : IntAt (w.setCell ⟨b', o', none⟩ (.int .i64 z')) b o := by
  obtain ⟨⟨z, hz⟩, hf⟩ := h
  refine ⟨?_, by rw [World.frozen?_setCell]; exact hf⟩
  by_cases e : (⟨b', o', none⟩ : Addr) = ⟨b, o, none⟩
  · rw [e]
    exact ⟨z', World.cell?_setCell_same _ _ _ hz⟩
  · refine ⟨z, ?_⟩
    rw [World.cell?_setCell_other _ _ _ _ (by first | exact e | exact fun e' => e e'.symm)]
    exact hz

theorem IntAt.later {w w' : World} {b o : Nat} (h : IntAt w b o) (hb : b < w.heap.size) (hl : Below w.heap.size w w') : IntAt w' b o := by
  obtain ⟨⟨z, hz⟩, hf⟩ := h
  exact ⟨⟨z, (hl.cell (by exact hb)).trans hz⟩, (hl.frozen (by exact hb)).trans hf⟩

/-- n numbers, s cells apart, the first at o, in a block from B on and below h. -/
def Nums (B h : Nat) (w : World) (ao : Option Addr) (n s o : Nat) : Prop := 0 < n → ∃ g, ao = some ⟨g, 0, none⟩ ∧ B ≤ g ∧ g < h ∧ h ≤ w.heap.size ∧ ∀ j, j < n → IntAt w g (j * s + o)

theorem Nums.set {B h : Nat} {w : World} {ao : Option Addr} {n s o : Nat} (H : Nums B h w ao n s o) (b' o' : Nat) (z' : Int) : Nums B h (w.setCell ⟨b', o', none⟩ (.int .i64 z')) ao n s o := fun h0 => by
  obtain ⟨g, h1, h2, h3, h4, h5⟩ := H h0
  exact ⟨g, h1, h2, h3, by simpa using h4, fun j hj => (h5 j hj).set _ _ _⟩

theorem Nums.later {B h : Nat} {w w' : World} {ao : Option Addr} {n s o : Nat} (H : Nums B h w ao n s o) (hl : Below w.heap.size w w') : Nums B h w' ao n s o := fun h0 => by
  obtain ⟨g, h1, h2, h3, h4, h5⟩ := H h0
  exact ⟨g, h1, h2, h3, Nat.le_trans h4 hl.size, fun j hj => (h5 j hj).later (by omega) hl⟩

set_option maxHeartbeats 400000 in
set_option maxRecDepth 100000 in
theorem spoilInts_any (B h : Nat) (ao : Option Addr) (ca n : Nat) (w : World) (ha : Nums B h w ao n 1 0) (hla : n ≤ maxLen) :
    Calls Try.prog 33 #[.slice ao n ca] w fun e w' => e = .returned (.tuple #[]) ∧ Below B w w' := by
  have HA : Hid (Nums B h w ao n 1 0) := ha
  clear ha
  unfold maxLen at hla
  by_cases h0 : 0 < n
  · obtain ⟨g, rfl, hB, hg, _⟩ := HA.out h0
    go_enter Try.func33, Try.ntmps33
    go_wp2
    go_loopg [2] n (fun k iv wr => ∃ i : Nat, i + k = n ∧ iv = .int .i64 i ∧ Below B w wr ∧ Nums B h wr (some ⟨g, 0, none⟩) n 1 0)
    case atStart => exact ⟨0, by omega, rfl, Below.refl _ _, HA.out⟩
    case round =>
      obtain ⟨i, hin, rfl, hbel, hnum⟩ := hrel
      have HN : Hid (Nums B h wr (some ⟨g, 0, none⟩) n 1 0) := hnum
      clear hnum
      by_cases hi : i < n
      · obtain ⟨g', e, _, _, _, h5⟩ := HN.out h0
        simp only [Option.some.injEq, Addr.mk.injEq, and_true] at e
        subst e
        obtain ⟨⟨z, hz⟩, hf⟩ := h5 i hi
        rw [Nat.mul_one, Nat.add_zero] at hz hf
        clear h5
        go_wp2
        go_roundg (gk - 1)
        case measure => omega
        case rel => exact ⟨i + 1, by omega, by go_num, hbel.setCell (p := ⟨g, i, none⟩) hB _, HN.out.set _ _ _⟩
      · have hd : decide ((i : Int) < (n : Int)) = false := by simp; omega
        go_wp2
        first | go_ret | go_end0
        exact ⟨rfl, hbel⟩
  · obtain rfl : n = 0 := by omega
    go_enter Try.func33, Try.ntmps33
    go_wp2
    refine wp_loop_rounds 1 ?_
    rw [rounds_succ]
    go_wp2
    first | go_ret | go_end0
    exact ⟨rfl, Below.refl _ _⟩

/-- What SpoilCell keeps. -/
def Spo (B h : Nat) (w : World) (c : Ce) (q : Pl) (w1 : World) : Prop := Below B w w1 ∧ Has w1 h (ceL c q) ∧ B ≤ h ∧ Nums B h w1 q.eo c.ents.length 3 1 ∧ Nums B h w1 q.lo c.elems.length 5 2 ∧ Nums B h w1 q.so c.seen.length 1 0

theorem Spo.set {B h : Nat} {w w1 : World} {c : Ce} {q : Pl} (H : Spo B h w c q w1) {g : Nat} (hg : B ≤ g) (hh : g < h) (o : Nat) (z : Int) : Spo B h w c q (w1.setCell ⟨g, o, none⟩ (.int .i64 z)) :=
  ⟨H.1.setCell (p := ⟨g, o, none⟩) hg _, H.2.1.other (by omega) _ _, H.2.2.1, H.2.2.2.1.set _ _ _, H.2.2.2.2.1.set _ _ _, H.2.2.2.2.2.set _ _ _⟩

theorem Spo.later {B h : Nat} {w w1 w2 : World} {c : Ce} {q : Pl} (H : Spo B h w c q w1) (hl : Below w1.heap.size w1 w2) : Spo B h w c q w2 :=
  ⟨H.1.trans (hl.mono (by have := H.2.1.1; have := H.2.2.1; omega)), H.2.1.later hl, H.2.2.1, H.2.2.2.1.later hl, H.2.2.2.2.1.later hl, H.2.2.2.2.2.later hl⟩

theorem spo_new {B : Nat} {w : World} {c : Ce} {q : Pl} (HO : COwn B w c q) (hB : B ≤ w.heap.size) (t : TypeId) : Spo B w.heap.size w c q (w.alloc (.cells (ceL c q).toArray t)) := by
  have hb : Below w.heap.size w (w.alloc (.cells (ceL c q).toArray t)) := (Below.refl _ _).alloc (Nat.le_refl _) _
  refine ⟨hb.mono hB, has_new _ _ _, hB, fun h0 => ?_, fun h0 => ?_, fun h0 => ?_⟩
  · obtain ⟨g, h1, h2, h3, h4⟩ := HO.1 (by rw [flatE_len]; omega)
    refine ⟨g, h1, h2, h3, by simp, fun j hj => IntAt.later ?_ h3 hb⟩
    have := (flatE_at c.ents j (List.getElem?_eq_getElem hj)).2.1
    exact ⟨⟨_, (h4 _ _ this).1⟩, (h4 _ _ this).2⟩
  · obtain ⟨g, h1, h2, h3, h4⟩ := HO.2.1 (by rw [flatL_len]; omega)
    refine ⟨g, h1, h2, h3, by simp, fun j hj => IntAt.later ?_ h3 hb⟩
    have := (flatL_at c.elems j (List.getElem?_eq_getElem hj)).2.2.1
    exact ⟨⟨_, (h4 _ _ this).1⟩, (h4 _ _ this).2⟩
  · obtain ⟨g, h1, h2, h3, h4⟩ := HO.2.2 (by rw [flatI_len]; omega)
    refine ⟨g, h1, h2, h3, by simp, fun j hj => IntAt.later ?_ h3 hb⟩
    rw [Nat.mul_one, Nat.add_zero]
    have := flatI_at c.seen j (List.getElem?_eq_getElem hj)
    exact ⟨⟨_, (h4 _ _ this).1⟩, (h4 _ _ this).2⟩

end Go.Proofs.Ytjfgccjdkflfoaa

/-
  Package fresh: copies of a cell and of its lists in memory of their own, by contracts.
-/
namespace Go.Proofs.Ytjfgccjdkflfoaa
open Go.RowKit
set_option linter.unusedVariables false
set_option linter.unusedSimpArgs false

theorem Copy0.later {w w1 w2 : World} {h : Nat} {c : Ce} {p : Pl} (H : Copy0 w h c p w1) (hb : Below w1.heap.size w1 w2) : Copy0 w h c p w2 :=
  ⟨H.1.trans (hb.mono (by have := H.size; omega)), H.2.1.later hb, H.2.2.later hb⟩

theorem Copy0.row {w w1 : World} {h : Nat} {c : Ce} {p q : Pl} (H : Copy0 w h c q w1) (hh : w.heap.size = h) (R : CRow w c p) : CRow w1 c p := R.later (hh.symm ▸ H.1)

theorem Copy0.set4 {w w1 : World} {h : Nat} {c : Ce} {p : Pl} (H : Copy0 w h c p w1) : Copy0 w h c p (w1.setCell ⟨h, 4, none⟩ (.string c.val)) :=
  ⟨H.1.setCell (p := ⟨h, 4, none⟩) (Nat.le_refl _) _, H.2.1.put 4 _, H.2.2.other (by omega) _ _⟩
theorem Copy0.set7 {w w1 : World} {h : Nat} {c : Ce} {p : Pl} (H : Copy0 w h c p w1) (ao : Option Addr) (ca : Nat) : Copy0 w h c { p with eo := ao, ec := ca } (w1.setCell ⟨h, 7, none⟩ (.slice ao c.ents.length ca)) :=
  ⟨H.1.setCell (p := ⟨h, 7, none⟩) (Nat.le_refl _) _, H.2.1.put 7 _, H.2.2.other (by omega) _ _⟩
theorem Copy0.set8 {w w1 : World} {h : Nat} {c : Ce} {p : Pl} (H : Copy0 w h c p w1) (ao : Option Addr) (ca : Nat) : Copy0 w h c { p with lo := ao, lc := ca } (w1.setCell ⟨h, 8, none⟩ (.slice ao c.elems.length ca)) :=
  ⟨H.1.setCell (p := ⟨h, 8, none⟩) (Nat.le_refl _) _, H.2.1.put 8 _, H.2.2.other (by omega) _ _⟩
theorem Copy0.set9 {w w1 : World} {h : Nat} {c : Ce} {p : Pl} (H : Copy0 w h c p w1) (ao : Option Addr) (ca : Nat) : Copy0 w h c { p with so := ao, sc := ca } (w1.setCell ⟨h, 9, none⟩ (.slice ao c.seen.length ca)) :=
  ⟨H.1.setCell (p := ⟨h, 9, none⟩) (Nat.le_refl _) _, H.2.1.put 9 _, H.2.2.other (by omega) _ _⟩

end Go.Proofs.Ytjfgccjdkflfoaa

/-
  Cells, what every layer of cells uses: bare ones; what a call that turns a cell begins with and keeps; what a law keeps in blocks of its own.
-/
namespace Go.Proofs.Ytjfgccjdkflfoaa
open Go.RowKit
set_option linter.unusedVariables false
set_option linter.unusedSimpArgs false

theorem Has.two {w : World} {g : Nat} {u0 u1 : Value} (h : Has w g [u0, u1]) : w.cell? ⟨g, 0, none⟩ = some u0 ∧ w.cell? ⟨g, 1, none⟩ = some u1 := ⟨h.at 0 rfl, h.at 1 rfl⟩

/-- What a call of Set begins with: the cell, the stamp, room for the answer. -/
def Set3 (w : World) (h : Nat) (c : Ce) (p : Pl) (t n : Int) (w1 : World) : Prop := Below h w w1 ∧ Has w1 h (ceL c p) ∧ Has w1 (h + 1) [.int .i64 t, .int .i64 n] ∧ Has w1 (h + 2) (ceL ce0 pl0)

theorem set3_new (w : World) (c : Ce) (p : Pl) (t n : Int) (t1 t2 t3 : TypeId) : Set3 w w.heap.size c p t n (((w.alloc (.cells (ceL c p).toArray t1)).alloc (.cells #[.int .i64 t, .int .i64 n] t2)).alloc (.cells (ceL ce0 pl0).toArray t3)) := by
  refine ⟨(((Below.refl _ _).alloc (Nat.le_refl _) _).alloc (by simp) _).alloc (by simp; omega) _, ((has_new _ _ _).alloc _).alloc _, ?_, ?_⟩
  · have := (has_new (w.alloc (.cells (ceL c p).toArray t1)) [.int .i64 t, .int .i64 n] t2).alloc (.cells (ceL ce0 pl0).toArray t3)
    simpa using this
  · have := has_new ((w.alloc (.cells (ceL c p).toArray t1)).alloc (.cells #[.int .i64 t, .int .i64 n] t2)) (ceL ce0 pl0) t3
    simpa using this

theorem Set3.size {w w1 : World} {h : Nat} {c : Ce} {p : Pl} {t n : Int} (H : Set3 w h c p t n w1) : h + 3 ≤ w1.heap.size := by have := H.2.2.2.1; omega

theorem Set3.later {w w1 w2 : World} {h : Nat} {c : Ce} {p : Pl} {t n : Int} (H : Set3 w h c p t n w1) (hb : Below w1.heap.size w1 w2) : Set3 w h c p t n w2 :=
  ⟨H.1.trans (hb.mono (by have := H.size; omega)), H.2.1.later hb, H.2.2.1.later hb, H.2.2.2.later hb⟩

/-- What Set keeps once the copy is made: the answer to be lies in block k. -/
def Set4 (w1 : World) (k : Nat) (d : Ce) (q : Pl) (w2 : World) : Prop := Below k w1 w2 ∧ Has w2 k (ceL d q)

theorem Set4.later {w1 w2 w3 : World} {k : Nat} {d : Ce} {q : Pl} (H : Set4 w1 k d q w2) (hb : Below w2.heap.size w2 w3) : Set4 w1 k d q w3 := ⟨H.1.trans (hb.mono (by have := H.2.1; omega)), H.2.later hb⟩

theorem set4_new {w1 : World} {k : Nat} (hk : w1.heap.size = k) (c : Ce) (q : Pl) (t1 : TypeId) : Set4 w1 k c q (w1.alloc (.cells (ceL c q).toArray t1)) := by
  subst hk
  exact ⟨(Below.refl _ _).alloc (Nat.le_refl _) _, has_new _ _ _⟩

/-- What the document's Set keeps once the copy is made. -/
def RSt (w : World) (h : Nat) (c : Ce) (q : Pl) (W : World) : Prop := Below h w W ∧ Has W (h + 2) (ceL ce0 pl0) ∧ COwn (h + 3) W c q

theorem RSt.set {w W : World} {h : Nat} {c : Ce} {q : Pl} (H : RSt w h c q W) (o : Nat) (v : Value) : RSt w h c q (W.setCell ⟨h, o, none⟩ v) :=
  ⟨H.1.setCell (p := ⟨h, o, none⟩) (Nat.le_refl _) _, H.2.1.other (by omega) _ _, H.2.2.off (by omega) _ _⟩

theorem RSt.put {w W : World} {h : Nat} {c : Ce} {q : Pl} (H : RSt w h c q W) (u0 u1 u2 u3 u4 u5 u6 u7 u8 u9 : Value) : RSt w h c q (put10 W h u0 u1 u2 u3 u4 u5 u6 u7 u8 u9) :=
  (((((((((H.set 0 u0).set 1 u1).set 2 u2).set 3 u3).set 4 u4).set 5 u5).set 6 u6).set 7 u7).set 8 u8).set 9 u9

theorem RSt.later {w W W2 : World} {h : Nat} {c : Ce} {q : Pl} (H : RSt w h c q W) (hb : Below W.heap.size W W2) : RSt w h c q W2 :=
  ⟨H.1.trans (hb.mono (by have := H.2.1.1; omega)), H.2.1.later hb, H.2.2.later hb⟩

theorem Set3.copied {w w2 : World} {h : Nat} {c : Ce} {p q : Pl} {t n : Int} (H : Set3 w h c p t n w2) : Set3 w h c q t n (put10 w2 h (.int .i64 c.kind) (.bool c.set) (.int .i64 c.time) (.int .i64 c.node) (.string c.val) (.int .i64 c.re) (.int .i64 c.im) (.slice q.eo c.ents.length q.ec) (.slice q.lo c.elems.length q.lc) (.slice q.so c.seen.length q.sc)) := by
  refine ⟨below_put10 H.1 (Nat.le_refl _) _ _ _ _ _ _ _ _ _ _, H.2.1.put10 _ _ _ _ _ _ _ _ _ _, ?_, ?_⟩
  · repeat apply Has.other (hk := by omega)
    exact H.2.2.1
  · repeat apply Has.other (hk := by omega)
    exact H.2.2.2

theorem fit_bare {c : Ce} (h1 : c.ents = []) (h2 : c.elems = []) (h3 : c.seen.length ≤ 1000) (h4 : c.val.size ≤ 1000000) : Fit c := by
  refine ⟨by rw [h1]; simp, by rw [h2]; simp, by omega, by omega, fun i x hx => ?_, fun i x hx => ?_⟩
  · rw [h1] at hx; simp at hx
  · rw [h2] at hx; simp at hx

theorem fit_none : Fit ce0 := fit_bare rfl rfl (by decide) (by decide)

theorem row_none (w : World) : CRow w ce0 pl0 := ⟨FRow.nil _ _, FRow.nil _ _, FRow.nil _ _⟩

theorem own_none0 (B : Nat) (w : World) : COwn B w ce0 pl0 := ⟨FOwn.nil _ _ _, FOwn.nil _ _ _, FOwn.nil _ _ _⟩

/-- The cell of nothing but a kind. -/
abbrev zl (k : Int) : List Value := [.int .i64 k, .bool false, .int .i64 0, .int .i64 0, .string ⟨#[]⟩, .int .i64 0, .int .i64 0, .slice none 0 0, .slice none 0 0, .slice none 0 0]

abbrev zv (k : Int) : Value := .agg #[.int .i64 k, .bool false, .int .i64 0, .int .i64 0, .string ⟨#[]⟩, .int .i64 0, .int .i64 0, .slice none 0 0, .slice none 0 0, .slice none 0 0]

theorem nils_all {c : Ce} {q : Pl} (h1 : c.ents.length = 0) (h2 : c.elems.length = 0) (h3 : c.seen.length = 0) (h : Nils c q) : q = pl0 := by
  obtain ⟨eo, ec, lo, lc, so, sc⟩ := q
  obtain ⟨a, b⟩ := h.1 h1
  obtain ⟨a', b'⟩ := h.2.1 h2
  obtain ⟨a'', b''⟩ := h.2.2 h3
  simp only at a b a' b' a'' b''
  subst a b a' b' a'' b''
  rfl

theorem bare_row (w : World) {c : Ce} (h1 : c.ents = []) (h2 : c.elems = []) (h3 : c.seen = []) (q : Pl) : CRow w c q := ⟨by rw [h1]; exact FRow.nil _ _, by rw [h2]; exact FRow.nil _ _, by rw [h3]; exact FRow.nil _ _⟩

/-- The blocks of the list hold its cells, and nothing below h has turned. -/
def Regs (h : Nat) (w w1 : World) : List (Nat × List Value) → Prop
  | [] => Below h w w1 ∧ h ≤ w1.heap.size
  | e :: L => Has w1 e.1 e.2 ∧ Regs h w w1 L

theorem Regs.base {h : Nat} {w w1 : World} {L : List (Nat × List Value)} (H : Regs h w w1 L) : Below h w w1 ∧ h ≤ w1.heap.size := by
  induction L with
  | nil => exact H
  | cons e L ih => exact ih H.2

theorem Regs.later {h : Nat} {w w1 w2 : World} {L : List (Nat × List Value)} (H : Regs h w w1 L) (hb : Below w1.heap.size w1 w2) : Regs h w w2 L := by
  induction L with
  | nil => exact ⟨H.1.trans (hb.mono H.2), Nat.le_trans H.2 hb.size⟩
  | cons e L ih => exact ⟨H.1.later hb, ih H.2⟩

theorem Regs.push {h : Nat} {w w1 : World} {L : List (Nat × List Value)} (H : Regs h w w1 L) {g : Nat} (hg : w1.heap.size = g) (xs : List Value) (t : TypeId) : Regs h w (w1.alloc (.cells xs.toArray t)) ((g, xs) :: L) :=
  ⟨hg ▸ has_new w1 xs t, H.later ((Below.refl _ _).alloc (Nat.le_refl _) _)⟩

/-- What the law begins with. -/
def L2 (w : World) (h : Nat) (c : Ce) (p : Pl) (t n : Int) (w1 : World) : Prop := Below h w w1 ∧ Has w1 h (ceL c p) ∧ Has w1 (h + 1) [.int .i64 t, .int .i64 n]

theorem L2.size {w w1 : World} {h : Nat} {c : Ce} {p : Pl} {t n : Int} (H : L2 w h c p t n w1) : h + 2 ≤ w1.heap.size := by have := H.2.2.1; omega

theorem l2_new (w : World) (c : Ce) (p : Pl) (t n : Int) (t1 t2 : TypeId) : L2 w w.heap.size c p t n ((w.alloc (.cells (ceL c p).toArray t1)).alloc (.cells #[.int .i64 t, .int .i64 n] t2)) := by
  refine ⟨((Below.refl _ _).alloc (Nat.le_refl _) _).alloc (by simp) _, (has_new _ _ _).alloc _, ?_⟩
  have := has_new (w.alloc (.cells (ceL c p).toArray t1)) [.int .i64 t, .int .i64 n] t2
  simpa using this

theorem L2.later {w w1 w2 : World} {h : Nat} {c : Ce} {p : Pl} {t n : Int} (H : L2 w h c p t n w1) (hb : Below w1.heap.size w1 w2) : L2 w h c p t n w2 :=
  ⟨H.1.trans (hb.mono (by have := H.size; omega)), H.2.1.later hb, H.2.2.later hb⟩

end Go.Proofs.Ytjfgccjdkflfoaa

/-
  The laws' own SpoilCell and SpoilDots once more, with a frame on either side: of what lay there only blocks from B on and below T may have turned.
-/
namespace Go.Proofs.Ytjfgccjdkflfoaa
open Go.RowKit Go.Shelf
set_option linter.unusedVariables false
set_option linter.unusedSimpArgs false

/-- Of what lay in w only blocks from B on and below T may have turned. -/
structure Mid (B T : Nat) (w w' : World) : Prop where
  os : w'.os = w.os
  tape : w'.tape = w.tape
  output : w'.output = w.output
  size : w.heap.size ≤ w'.heap.size
  block : ∀ k, k < w.heap.size → (k < B ∨ T ≤ k) → w'.heap[k]? = w.heap[k]?

theorem Mid.refl (B T : Nat) (w : World) : Mid B T w w := ⟨rfl, rfl, rfl, Nat.le_refl _, fun _ _ _ => rfl⟩
theorem Mid.later {B T : Nat} {w w1 w2 : World} (h : Mid B T w w1) (hb : Below w1.heap.size w1 w2) : Mid B T w w2 :=
  ⟨hb.os.trans h.os, hb.tape.trans h.tape, hb.output.trans h.output, Nat.le_trans h.size hb.size, fun k hk hn => (hb.block k (Nat.lt_of_lt_of_le hk h.size)).trans (h.block k hk hn)⟩
theorem Mid.trans {B T : Nat} {w w1 w2 : World} (h : Mid B T w w1) (k : Mid B T w1 w2) : Mid B T w w2 :=
  ⟨k.os.trans h.os, k.tape.trans h.tape, k.output.trans h.output, Nat.le_trans h.size k.size, fun i hi hn => (k.block i (Nat.lt_of_lt_of_le hi h.size) hn).trans (h.block i hi hn)⟩
theorem Mid.set {B T : Nat} {w w1 : World} (h : Mid B T w w1) {g : Nat} (hB : B ≤ g) (hT : g < T) (o : Nat) (v : Value) : Mid B T w (w1.setCell ⟨g, o, none⟩ v) :=
  h.trans ⟨rfl, rfl, rfl, by simp, fun k hk hn => Below.heap_setCell _ _ _ _ (by show k ≠ g; omega)⟩
theorem Mid.below {B T : Nat} {w w' : World} (h : Mid B T w w') (hB : B ≤ w.heap.size) : Below B w w' := ⟨h.os, h.tape, h.output, h.size, fun k hk => h.block k (by omega) (Or.inl hk)⟩
/-- What lies behind stays. -/
theorem Mid.has {B T : Nat} {w w' : World} (h : Mid B T w w') {g : Nat} {xs : List Value} (H : Has w g xs) (hg : g < B ∨ T ≤ g) : Has w' g xs :=
  ⟨Nat.lt_of_lt_of_le H.1 h.size, fun i u hu => ⟨(World.cell?_of_block (a := ⟨g, i, none⟩) (h.block g H.1 hg)).trans (H.2 i u hu).1, (World.frozen?_of_block (a := ⟨g, i, none⟩) (h.block g H.1 hg)).trans (H.2 i u hu).2⟩⟩
theorem Mid.fown {B T C : Nat} {w w' : World} (h : Mid B T w w') {ao : Option Addr} {xs : List Value} (H : FOwn C w ao xs) (hC : T ≤ C) : FOwn C w' ao xs := fun h0 => by
  obtain ⟨b, e, h1, h2, h3⟩ := H h0
  have hb := h.block b h2 (Or.inr (by omega))
  exact ⟨b, e, h1, Nat.lt_of_lt_of_le h2 h.size, fun i u hu => ⟨(World.cell?_of_block (a := ⟨b, i, none⟩) hb).trans (h3 i u hu).1, (World.frozen?_of_block (a := ⟨b, i, none⟩) hb).trans (h3 i u hu).2⟩⟩
theorem Mid.cown {B T C : Nat} {w w' : World} (h : Mid B T w w') {c : Ce} {q : Pl} (H : COwn C w c q) (hC : T ≤ C) : COwn C w' c q := ⟨h.fown H.1 hC, h.fown H.2.1 hC, h.fown H.2.2 hC⟩

/-- Rows of an answer's own, at the time T when it was answered. -/
theorem nums_cell {B T : Nat} {w0 w : World} {c : Ce} {q : Pl} (HO : COwn B w0 c q) (hT : w0.heap.size = T) (hl : Below T w0 w) : Nums B T w q.eo c.ents.length 3 1 ∧ Nums B T w q.lo c.elems.length 5 2 ∧ Nums B T w q.so c.seen.length 1 0 := by
  have hs := hl.size
  subst hT
  refine ⟨fun h0 => ?_, fun h0 => ?_, fun h0 => ?_⟩
  · obtain ⟨g, h1, h2, h3, h4⟩ := HO.1 (by rw [flatE_len]; omega)
    refine ⟨g, h1, h2, h3, hs, fun j hj => IntAt.later ?_ h3 hl⟩
    have := (flatE_at c.ents j (List.getElem?_eq_getElem hj)).2.1
    exact ⟨⟨_, (h4 _ _ this).1⟩, (h4 _ _ this).2⟩
  · obtain ⟨g, h1, h2, h3, h4⟩ := HO.2.1 (by rw [flatL_len]; omega)
    refine ⟨g, h1, h2, h3, hs, fun j hj => IntAt.later ?_ h3 hl⟩
    have := (flatL_at c.elems j (List.getElem?_eq_getElem hj)).2.2.1
    exact ⟨⟨_, (h4 _ _ this).1⟩, (h4 _ _ this).2⟩
  · obtain ⟨g, h1, h2, h3, h4⟩ := HO.2.2 (by rw [flatI_len]; omega)
    refine ⟨g, h1, h2, h3, hs, fun j hj => IntAt.later ?_ h3 hl⟩
    rw [Nat.mul_one, Nat.add_zero]
    have := flatI_at c.seen j (List.getElem?_eq_getElem hj)
    exact ⟨⟨_, (h4 _ _ this).1⟩, (h4 _ _ this).2⟩

set_option maxHeartbeats 400000 in
set_option maxRecDepth 100000 in
theorem spoilIntsM (B h : Nat) (ao : Option Addr) (ca n : Nat) (w : World) (ha : Nums B h w ao n 1 0) (hla : n ≤ maxLen) :
    Calls Try.prog 33 #[.slice ao n ca] w fun e w' => e = .returned (.tuple #[]) ∧ Mid B h w w' := by
  have HA : Hid (Nums B h w ao n 1 0) := ha
  clear ha
  unfold maxLen at hla
  by_cases h0 : 0 < n
  · obtain ⟨g, rfl, hB, hg, _⟩ := HA.out h0
    go_enter Try.func33, Try.ntmps33
    go_wp2
    go_loopg [2] n (fun k iv wr => ∃ i : Nat, i + k = n ∧ iv = .int .i64 i ∧ Mid B h w wr ∧ Nums B h wr (some ⟨g, 0, none⟩) n 1 0)
    case atStart => exact ⟨0, by omega, rfl, Mid.refl _ _ _, HA.out⟩
    case round =>
      obtain ⟨i, hin, rfl, hbel, hnum⟩ := hrel
      have HN : Hid (Nums B h wr (some ⟨g, 0, none⟩) n 1 0) := hnum
      clear hnum
      by_cases hi : i < n
      · obtain ⟨g', e, _, _, _, h5⟩ := HN.out h0
        simp only [Option.some.injEq, Addr.mk.injEq, and_true] at e
        subst e
        obtain ⟨⟨z, hz⟩, hf⟩ := h5 i hi
        rw [Nat.mul_one, Nat.add_zero] at hz hf
        clear h5
        go_wp2
        go_roundg (gk - 1)
        case measure => omega
        case rel => exact ⟨i + 1, by omega, by go_num, hbel.set hB hg _ _, HN.out.set _ _ _⟩
      · have hd : decide ((i : Int) < (n : Int)) = false := by simp; omega
        go_wp2
        first | go_ret | go_end0
        exact ⟨rfl, hbel⟩
  · obtain rfl : n = 0 := by omega
    go_enter Try.func33, Try.ntmps33
    go_wp2
    refine wp_loop_rounds 1 ?_
    rw [rounds_succ]
    go_wp2
    first | go_ret | go_end0
    exact ⟨rfl, Mid.refl _ _ _⟩

set_option maxHeartbeats 400000 in
set_option maxRecDepth 100000 in
theorem spoilDotsM (B h : Nat) (ao : Option Addr) (ca n : Nat) (w : World) (ha : Nums B h w ao n 2 1) (hla : n ≤ maxLen) :
    Calls Try.prog 34 #[.slice ao n ca] w fun e w' => e = .returned (.tuple #[]) ∧ Mid B h w w' := by
  have HA : Hid (Nums B h w ao n 2 1) := ha
  clear ha
  unfold maxLen at hla
  by_cases h0 : 0 < n
  · obtain ⟨g, rfl, hB, hg, _⟩ := HA.out h0
    go_enter Try.func34, Try.ntmps34
    go_wp2
    go_loopg [2] n (fun k iv wr => ∃ i : Nat, i + k = n ∧ iv = .int .i64 i ∧ Mid B h w wr ∧ Nums B h wr (some ⟨g, 0, none⟩) n 2 1)
    case atStart => exact ⟨0, by omega, rfl, Mid.refl _ _ _, HA.out⟩
    case round =>
      obtain ⟨i, hin, rfl, hbel, hnum⟩ := hrel
      have HN : Hid (Nums B h wr (some ⟨g, 0, none⟩) n 2 1) := hnum
      clear hnum
      by_cases hi : i < n
      · obtain ⟨g', e, _, _, _, h5⟩ := HN.out h0
        simp only [Option.some.injEq, Addr.mk.injEq, and_true] at e
        subst e
        obtain ⟨⟨z, hz⟩, hf⟩ := h5 i hi
        clear h5
        go_wp2
        go_roundg (gk - 1)
        case measure => omega
        case rel => exact ⟨i + 1, by omega, by go_num, hbel.set hB hg _ _, HN.out.set _ _ _⟩
      · have hd : decide ((i : Int) < (n : Int)) = false := by simp; omega
        go_wp2
        first | go_ret | go_end0
        exact ⟨rfl, hbel⟩
  · obtain rfl : n = 0 := by omega
    go_enter Try.func34, Try.ntmps34
    go_wp2
    refine wp_loop_rounds 1 ?_
    rw [rounds_succ]
    go_wp2
    first | go_ret | go_end0
    exact ⟨rfl, Mid.refl _ _ _⟩

/-- What SpoilCell keeps. -/
def SpoM (B T h : Nat) (w : World) (c : Ce) (q : Pl) (w1 : World) : Prop := Mid B T w w1 ∧ Has w1 h (ceL c q) ∧ T ≤ h ∧ Nums B T w1 q.eo c.ents.length 3 1 ∧ Nums B T w1 q.lo c.elems.length 5 2 ∧ Nums B T w1 q.so c.seen.length 1 0

theorem SpoM.set {B T h : Nat} {w w1 : World} {c : Ce} {q : Pl} (H : SpoM B T h w c q w1) {g : Nat} (hg : B ≤ g) (hh : g < T) (o : Nat) (z : Int) : SpoM B T h w c q (w1.setCell ⟨g, o, none⟩ (.int .i64 z)) :=
  ⟨H.1.set hg hh _ _, H.2.1.other (by have := H.2.2.1; omega) _ _, H.2.2.1, H.2.2.2.1.set _ _ _, H.2.2.2.2.1.set _ _ _, H.2.2.2.2.2.set _ _ _⟩

theorem SpoM.later {B T h : Nat} {w w1 w2 : World} {c : Ce} {q : Pl} (H : SpoM B T h w c q w1) (hl : Below w1.heap.size w1 w2) : SpoM B T h w c q w2 :=
  ⟨H.1.later hl, H.2.1.later hl, H.2.2.1, H.2.2.2.1.later hl, H.2.2.2.2.1.later hl, H.2.2.2.2.2.later hl⟩

end Go.Proofs.Ytjfgccjdkflfoaa

/-
  A strings.Builder that is the one field of a writer of one's own: copyCheck, WriteString, String, by contracts (the library's own speak of a Builder in a block of its own type).
-/
namespace Go.Proofs.Ytjfgccjdkflfoaa
open Go.RowKit
set_option linter.unusedVariables false
set_option linter.unusedSimpArgs false

theorem Try.infoWb : (Try.prog.info? 5).map (fun i => (i.zero, i.size, i.bytes)) = some (some (.int .u8 0), 1, 1) := by kernel_rfl
theorem Try.sizeWb : (Try.prog.info? 54).map (·.size) = some 2 := by kernel_rfl
theorem Try.liesWb : liesAt Try.prog Try.prog.depth 56 (2 / Try.prog.cellsOf 56) 0 54 1 = true := by kernel_rfl
theorem Try.cellsWb : Try.prog.cellsOf 5 = 1 := by kernel_rfl

/-- A writer in block b that holds the bytes l. -/
def Wrt (b : Nat) (l : List UInt8) (w : World) : Prop := Lib.IsBuilder 56 5 b b (Lib.byteCells l) w
/-- .. that was written to. -/
def Wru (b : Nat) (l : List UInt8) (w : World) : Prop := Lib.BuilderAt 56 5 b b (.pointer (some ⟨b, 0, none⟩)) (Lib.byteCells l) w
theorem Wru.is {b : Nat} {l : List UInt8} {w : World} (h : Wru b l w) : Wrt b l w := Or.inr h
theorem wrt_new (w : World) : Wrt w.heap.size [] (w.alloc (.cells #[.pointer none, .slice none 0 0] 56)) := Lib.fresh_isBuilder _ _ w
theorem builder_later {T e : TypeId} {B b : Nat} {p : Value} {bs : List Value} {w w' : World} (h : Lib.BuilderAt T e B b p bs w) (hb : Below w.heap.size w w') : Lib.BuilderAt T e B b p bs w' := by
  have hlt := h.lt
  obtain ⟨hB, v, hk, ho, hn⟩ := h
  exact ⟨hB, v, (hb.block b hlt).trans hk, own_later ho hb, hn⟩
theorem Wrt.later {b : Nat} {l : List UInt8} {w w' : World} (h : Wrt b l w) (hb : Below w.heap.size w w') : Wrt b l w' := by
  rcases h with h | h
  · exact Or.inl (builder_later h hb)
  · exact Or.inr (builder_later h hb)
theorem Wrt.lt {b : Nat} {l : List UInt8} {w : World} (h : Wrt b l w) : b < w.heap.size := by
  rcases h with h | h
  · exact h.lt
  · exact h.lt

/-- What a write leaves alone: all below the writer, and what is above it but the rows of bytes. -/
def WF (b : Nat) (w w' : World) : Prop := Below b w w' ∧ Lib.OthersKept 5 (some b) w w'
theorem WF.refl (b : Nat) (w : World) : WF b w w := ⟨Below.refl _ _, Lib.OthersKept.refl _ _ _⟩
theorem WF.trans {b : Nat} {w w1 w2 : World} (h : WF b w w1) (k : WF b w1 w2) : WF b w w2 := ⟨h.1.trans k.1, h.2.trans k.2⟩
theorem WF.of {b : Nat} {w w' : World} (h : Below w.heap.size w w') (hb : b ≤ w.heap.size) : WF b w w' :=
  ⟨h.mono hb, fun k o hk _ _ => (h.block k (Array.getElem?_eq_some_iff.1 hk).1).trans hk⟩
/-- Block k holds the cells xs, of type T, and nothing else. -/
def Box (w : World) (k : Nat) (T : TypeId) (xs : List Value) : Prop := w.heap[k]? = some (.cells xs.toArray T (0, 0))
theorem Box.kept {b k : Nat} {T : TypeId} {xs : List Value} {w w' : World} (h : Box w k T xs) (hw : WF b w w') (hb : b < k) (hT : T ≠ 5) : Box w' k T xs :=
  hw.2 k _ h (by simp; omega) (fun c fz e => by injection e with _ e2 _; exact hT e2)
theorem Box.later {k : Nat} {T : TypeId} {xs : List Value} {w w' : World} (h : Box w k T xs) (hw : Below w.heap.size w w') : Box w' k T xs :=
  (hw.block k (Array.getElem?_eq_some_iff.1 h).1).trans h
theorem box_new {w : World} {k : Nat} (hk : w.heap.size = k) (T : TypeId) (xs : List Value) : Box (w.alloc (.cells xs.toArray T)) k T xs := hk ▸ heap_alloc_new w _
theorem Box.lt {k : Nat} {T : TypeId} {xs : List Value} {w : World} (h : Box w k T xs) : k < w.heap.size := (Array.getElem?_eq_some_iff.1 h).1
theorem Box.has {k : Nat} {T : TypeId} {xs : List Value} {w : World} (h : Box w k T xs) : Has w k xs :=
  ⟨h.lt, fun i u hu => ⟨by rw [Lib.cell_of_heap h]; simpa using hu, Lib.frozen_of_heap h i⟩⟩

set_option maxHeartbeats 1000000 in
set_option maxRecDepth 100000 in
theorem wcheck_any (b : Nat) (l : List UInt8) (w : World) (h : Wrt b l w) :
    Calls Try.prog 73 #[.pointer (some ⟨b, 0, none⟩)] w fun e w' => e = .returned (.tuple #[]) ∧ Wru b l w' ∧ WF b w w' := by
  obtain ⟨j, hj, hjs⟩ := Option.map_eq_some_iff.1 Try.sizeWb
  rcases h with h | h
  · have c0 := h.cell0
    have hsh := h.shape
    have f0 := h.frozen0
    go_enter Try.func73, Try.ntmps73
    go_wp2
    rw [Lib.run_to_unsafe w ⟨b, 0, none⟩ Try.underlying52 Try.underlying109 hj (by rw [hjs]; decide) hsh (Nat.zero_lt_succ 1)]
    simp only [Result.andThen]
    rw [Oper.upon_value]
    go_wp2
    rw [run_callFunc_extern Try.func76 (by kernel_rfl) (by kernel_rfl) (by kernel_rfl) (e := Extern.AbiNoEscape.same) (by kernel_rfl)]
    rw [Lib.run_noEscape]
    simp only [Result.andThen]
    rw [Oper.upon_value]
    go_wp2
    rw [Lib.run_from_unsafe w ⟨b, 0, none⟩ Try.underlying109 Try.underlying52 hj hsh Try.liesWb]
    simp only [Result.andThen]
    rw [Oper.upon_value]
    go_wp2
    go_end0
    exact ⟨rfl, h.used _, (Below.refl b w).setCell (p := ⟨b, 0, none⟩) (Nat.le_refl _) _, (Lib.OthersKept.refl _ _ w).setCell ⟨b, 0, none⟩ rfl _⟩
  · have c0 := h.cell0
    go_enter Try.func73, Try.ntmps73
    go_wp2
    rw [Lib.run_neq_ptr_same w _ Try.underlying52 hj]
    go_wp2
    go_end0
    exact ⟨rfl, h, WF.refl _ _⟩

theorem bytes_join (l : List UInt8) (s : ByteArray) : Lib.byteCells l ++ Lib.strCells s = Lib.byteCells (l ++ s.data.toList) := by
  simp [Lib.byteCells, Lib.strCells]

set_option maxHeartbeats 2000000 in
set_option maxRecDepth 100000 in
/-- WriteString, where there is room for all bytes that may be. -/
theorem wstring_any (b : Nat) (l : List UInt8) (s : ByteArray) (w : World) (h : Wrt b l w) (hl : l.length + s.size ≤ 140737488355328) :
    Calls Try.prog 65 #[.pointer (some ⟨b, 0, none⟩), .string s] w fun e w' => e = .returned (.tuple #[.int .i64 s.size, .nilIface]) ∧ Wrt b (l ++ s.data.toList) w' ∧ WF b w w' := by
  obtain ⟨i0, hi, hz0, hz1, hz2⟩ := info_parts Try.infoWb
  have hlt := h.lt
  go_enter Try.func65, Try.ntmps65
  go_wp2_with fail
  refine (wcheck_any b l _ h).mono ?_
  rintro e w1 ⟨rfl, h1, hb1, hk1⟩
  obtain ⟨hB, v, hbk, hown, hne⟩ := id h1
  have c0 : w1.cell? ⟨b, 0, none⟩ = some (.pointer (some ⟨b, 0, none⟩)) := by rw [Lib.cell_of_heap hbk]; rfl
  have c1 : w1.cell? ⟨b, 1, none⟩ = some v := by rw [Lib.cell_of_heap hbk]; rfl
  have hbl : (Lib.byteCells l).length = l.length := by simp [Lib.byteCells]
  rw [hbl] at hown
  go_wp2_with (at_builtin; refine Lib.wpList_append_own_string _ rfl _ _ 50 9 rfl b 5 i0 Try.underlying50 Try.underlying9 hi hz0 hz1 hz2 _ _ _ rfl hown s rfl ?c3 ?c4 ?c5 ?_)
  case c3 => unfold maxLen; omega
  case c4 => omega
  case c5 => have := hb1.size; omega
  intro v' w2 hown' hgrow _
  have hlt1 : b < w1.heap.size := h1.lt
  have hb2 : w2.heap[b]? = some (.cells #[.pointer (some ⟨b, 0, none⟩), v] 56 (0, 0)) := by
    rw [hgrow.block b hlt1 (fun e => hne e.symm)]
    exact hbk
  have d0 : w2.cell? ⟨b, 0, none⟩ = some (.pointer (some ⟨b, 0, none⟩)) := by rw [Lib.cell_of_heap hb2]; rfl
  have d1 : w2.cell? ⟨b, 1, none⟩ = some v := by rw [Lib.cell_of_heap hb2]; rfl
  have f1 : w2.frozen? ⟨b, 1, none⟩ = false := Lib.frozen_of_heap hb2 1
  obtain ⟨ao, n', cap, rfl⟩ : ∃ ao n' cap, v' = .slice ao n' cap := by
    rcases hown'.2 with ⟨hv, _⟩ | ⟨g, cap, cur, hv, _⟩
    · exact ⟨_, _, _, hv⟩
    · exact ⟨_, _, _, hv⟩
  go_wp2
  go_ret2
  refine ⟨rfl, Or.inr ?_, (hb1.grown hgrow (by have := hb1.size; omega) (fun k hk => (hown.lt k hk).1)).setCell (p := ⟨b, 1, none⟩) hB _, (hk1.grown hgrow (Lib.ownsRowF_kind (World.ownsRowF_of hown))).setCell ⟨b, 1, none⟩ rfl _⟩
  rw [← bytes_join]
  exact Lib.BuilderAt.put hB hb2 (by simpa [Lib.strCells_length, hbl] using hown') (by decide)

set_option maxHeartbeats 1000000 in
set_option maxRecDepth 100000 in
/-- String, of a builder that holds something. -/
theorem wget_any (b : Nat) (l : List UInt8) (w : World) (h : Wrt b l w) (h0 : l ≠ []) :
    Calls Try.prog 23 #[.pointer (some ⟨b, 0, none⟩)] w fun e w' => e = .returned (.string ⟨l.toArray⟩) ∧ Below b w w' := by
  obtain ⟨p, hB, v, hbk, hown, hne⟩ : ∃ p, Lib.BuilderAt 56 5 b b p (Lib.byteCells l) w := by
    rcases h with h | h
    · exact ⟨_, h⟩
    · exact ⟨_, h⟩
  have hl0 : l.length ≠ 0 := by simpa using h0
  have hbl : (Lib.byteCells l).length = l.length := by simp [Lib.byteCells]
  rw [hbl] at hown
  obtain ⟨g, cap, cur, rfl, hbg, hg, hnc, hcm, hcs, htake⟩ : ∃ g cap cur, v = .slice (some ⟨g, 0, none⟩) l.length cap ∧ b ≤ g ∧ w.heap[g]? = some (.cells cur 5 (0, 0)) ∧ l.length ≤ cap ∧ cap ≤ maxLen ∧ cur.size = cap * 1 ∧ cur.toList.take (l.length * 1) = Lib.byteCells l := by
    rcases hown.2 with ⟨_, hz⟩ | ⟨g, cap, cur, hv, r⟩
    · exact absurd hz hl0
    · exact ⟨g, cap, cur, hv, r⟩
  have c1 : w.drew.cell? ⟨b, 1, none⟩ = some (.slice (some ⟨g, 0, none⟩) l.length cap) := by
    have : w.drew.heap[b]? = some (.cells #[p, .slice (some ⟨g, 0, none⟩) l.length cap] 56 (0, 0)) := hbk
    rw [Lib.cell_of_heap this]; rfl
  have hSD : (Builtin.unsafeSliceData_ #[50] 84 #[.slice (some ⟨g, 0, none⟩) l.length cap]).run Try.prog w.drew = .ok (.pointer (some ⟨g, 0, none⟩)) w.drew :=
    Lib.run_unsafeSliceData_row _ _ _ _ _ _ (by omega)
  have hUS : (Builtin.unsafeString_ #[84, 3] 9 #[.pointer (some ⟨g, 0, none⟩), .int .i64 l.length]).run Try.prog w.drew = .ok (.string ⟨l.toArray⟩) (w.drew.freeze ⟨g, 0, none⟩ l.length) := by
    refine Lib.run_unsafeString_row w.drew 84 3 9 5 Try.underlying84 Try.cellsWb g cur.size (by have hg' : w.drew.heap[g]? = some (.cells cur 5 (0, 0)) := hg; simp [World.shape?, hg']) l h0 (by omega) (by unfold maxLen at hcm; omega) ?_
    intro j x hx
    exact hown.cells (g := g) rfl j (.int .u8 x.toNat) (by simp [Lib.byteCells, hx])
  go_enter Try.func23, Try.ntmps23
  go_wp2
  go_region
  all_goals (go_wp2; go_ret; exact ⟨rfl, Lib.below_freeze (Below.drew (Below.refl b w)) (p := ⟨g, 0, none⟩) hbg _⟩)

end Go.Proofs.Ytjfgccjdkflfoaa

/-
  Rows of structs that come as arguments.
-/
namespace Go.Proofs.Ytjfgccjdkflfoaa
open Go.ChangeShapes Go.WideShapes Go.ChangeAt Go.RowKit
set_option linter.unusedVariables false
set_option linter.unusedSimpArgs false

theorem weights_all {H : Type} {P : Program} {e : TypeId} : ∀ {l : List (DataW H)} {d : DataW H}, d ∈ l → ∀ n ∈ d.weights P e, n ∈ DataW.weightsAll P e l
  | [], d, h, n, hn => by simp at h
  | x :: r, d, h, n, hn => by
    simp only [DataW.weightsAll, List.mem_append]
    rcases List.mem_cons.1 h with rfl | h
    · exact Or.inl hn
    · exact Or.inr (weights_all h n hn)

/-- A row of structs, one cell of what came in. -/
theorem rows_trodC {α : Type} (z : α) (f : α → List Value) (s bytes : Nat) (hfl : ∀ a, (f a).length = s) (sizes : α → List Nat) {H : Type} {enc : TypeId × Value → H} {P : Program} {w : World} {t e : TypeId} (ht : P.underlying t = some (.slice e)) (ce : P.cellsOf e = s) (hs : 0 < s) (be : P.bytesOf e = bytes)
    (hdec : ∀ fuel cs' x, DataW.trod enc P w 0 (fun _ => true) true fuel e cs' = some x → cs'.length = s → ∃ a, cs' = f a ∧ ∀ k ∈ sizes a, k ∈ x.1.weights P e)
    {fuel : Nat} {v : Value} {d : DataW H} {p : List MemPlace} (h : DataW.trod enc P w 0 (fun _ => true) true fuel t [v] = some (d, p)) :
    ∃ (l : List α) (ao : Option Addr) (cap : Nat), v = .slice ao l.length cap ∧ l.length ≤ cap ∧ FRow w ao (l.flatMap f) ∧ ∀ K, (∀ n, n ∈ d.weights P t → n ≤ K) → l.length * bytes ≤ K ∧ ∀ (i : Nat) x, l[i]? = some x → ∀ k ∈ sizes x, k ≤ K := by
  rcases Go.Deep.open_slice ht h with ⟨hcs, _⟩ | ⟨a, len, cap, m, n, D, Pl, hcs, _, hl, hm, hmm, hx, hcell⟩
  · simp only [List.cons.injEq, and_true] at hcs
    subst hcs
    exact ⟨[], none, 0, rfl, by simp, FRow.nil _ _, fun K _ => ⟨by simp, fun i x hx => by simp at hx⟩⟩
  · simp only [List.cons.injEq, and_true] at hcs
    subst hcs
    have hmc : m = cap := by simpa using hmm
    have each : ∀ i, i < m → ∃ y : α, (∀ k u, (f y)[k]? = some u → w.cell? (a.add (i * s + k)) = some u) ∧ ∀ k ∈ sizes y, k ∈ (D i).weights P e := fun i hi => by
      obtain ⟨cs', h1, h2⟩ := hcell i hi
      rw [ce] at h1
      obtain ⟨_, hlen, hc⟩ := World.cells?_some h1
      obtain ⟨y, rfl, hy⟩ := hdec _ _ _ h2 hlen
      refine ⟨y, fun k u hu => ?_, hy⟩
      have hk : k < s := by rw [← hlen]; exact (List.getElem?_eq_some_iff.1 hu).1
      rw [← Go.Deep.add_add, hc k hk, hu]
    obtain ⟨q, hq⟩ := @Go.Deep.choose_lt α ⟨z⟩ _ _ each
    have hat : ∀ i, i < len → ((List.range len).map q)[i]? = some (q i) := fun i hi => by simp [hi]
    refine ⟨(List.range len).map q, some a, cap, by simp, by simp; omega, fun h0 => ?_, fun K hK => ⟨?_, fun i x hix k hk => ?_⟩⟩
    · rw [flat_len f s hfl, List.length_map, List.length_range] at h0
      have h0' : 0 < len := by
        rcases Nat.eq_zero_or_pos len with e0 | e0
        · rw [e0, Nat.zero_mul] at h0; omega
        · exact e0
      obtain ⟨b, off, spot⟩ := a
      obtain ⟨u0, hu0⟩ : ∃ u, (f (q 0))[0]? = some u := ⟨_, List.getElem?_eq_getElem (by rw [hfl]; exact hs)⟩
      have hc0 := (hq 0 (by omega)).1 0 u0 hu0
      rw [Nat.zero_mul, Nat.zero_add] at hc0
      have hspot : spot = none := by simpa [Addr.add] using World.cell?_spot hc0
      subst hspot
      have hb := World.block_lt_of_cell? w _ hc0
      refine ⟨b, off, rfl, by simpa [Addr.add] using hb, fun j u hu => ?_⟩
      have hj : j < len * s := by
        have := (List.getElem?_eq_some_iff.1 hu).1
        rwa [flat_len f s hfl, List.length_map, List.length_range] at this
      have hi : j / s < len := Nat.div_lt_of_lt_mul (by rw [Nat.mul_comm]; exact hj)
      have ej : j / s * s + j % s = j := by rw [Nat.mul_comm]; exact Nat.div_add_mod j s
      have hg := flat_get f s hfl _ (j / s) (j % s) (Nat.mod_lt _ hs) (hat _ hi)
      rw [ej, hu] at hg
      have := (hq (j / s) (by omega)).1 (j % s) u hg.symm
      rw [ej, add_off] at this
      exact this
    · simp only [Prod.mk.injEq] at hx
      have h1 := hK _ (by rw [hx.1]; simp only [DataW.weights, ht]; exact List.mem_cons_self)
      rw [be] at h1
      simp only [List.length_map, List.length_range] at h1 ⊢
      exact Nat.le_trans (Nat.mul_le_mul_right _ (by omega)) h1
    · simp only [Prod.mk.injEq] at hx
      have hi : i < len := by
        have := (List.getElem?_eq_some_iff.1 hix).1
        simpa using this
      rw [hat i hi] at hix
      simp only [Option.some.injEq] at hix
      subst hix
      refine hK k ?_
      rw [hx.1]
      simp only [DataW.weights, ht, List.mem_cons, List.mem_append]
      exact Or.inr (Or.inl (weights_all (d := D i) (List.mem_map.2 ⟨i, List.mem_range.2 hi, rfl⟩) k ((hq i (by omega)).2 k hk)))

theorem rows_trod {α : Type} (z : α) (f : α → List Value) (s bytes : Nat) (hfl : ∀ a, (f a).length = s) (sizes : α → List Nat) {H : Type} {enc : TypeId × Value → H} {P : Program} {w : World} {t e : TypeId} (ht : P.underlying t = some (.slice e)) (ce : P.cellsOf e = s) (hs : 0 < s) (be : P.bytesOf e = bytes)
    (hdec : ∀ fuel cs' x, DataW.trod enc P w 0 (fun _ => true) true fuel e cs' = some x → cs'.length = s → ∃ a, cs' = f a ∧ ∀ k ∈ sizes a, k ∈ x.1.weights P e)
    {fuel : Nat} {v : Value} {d : DataW H} {p : List MemPlace} (h : DataW.trod enc P w 0 (fun _ => true) true fuel t [v] = some (d, p)) :
    ∃ (l : List α) (ao : Option Addr) (cap : Nat), v = .slice ao l.length cap ∧ FRow w ao (l.flatMap f) ∧ ∀ K, (∀ n, n ∈ d.weights P t → n ≤ K) → l.length * bytes ≤ K ∧ ∀ (i : Nat) x, l[i]? = some x → ∀ k ∈ sizes x, k ≤ K :=
  have ⟨l, ao, cap, h1, _, h2⟩ := rows_trodC z f s bytes hfl sizes ht ce hs be hdec h
  ⟨l, ao, cap, h1, h2⟩

theorem flatI_flat (l : List Int) : flatI l = l.flatMap (fun a => [.int .i64 a]) := by
  induction l with
  | nil => rfl
  | cons a l ih =>
    simp only [flatI, List.map_cons, List.flatMap_cons, List.cons_append, List.nil_append] at ih ⊢
    rw [ih]

section
variable {H : Type} {enc : TypeId × Value → H} {w : World}

theorem dec_int (fuel : Nat) (cs : List Value) (x : DataW H × List MemPlace) (h : DataW.trod enc Try.prog w 0 (fun _ => true) true fuel 3 cs = some x) (_ : cs.length = 1) : ∃ a : Int, cs = [.int .i64 a] ∧ ∀ k ∈ ([] : List Nat), k ∈ x.1.weights Try.prog 3 := by
  obtain ⟨z, hz, _, _⟩ := DataW.trod_int Try.underlying3 h
  exact ⟨z, hz, fun k hk => by simp at hk⟩

theorem dec_two {t : TypeId} {f0 f1 : Field} (ht : Try.prog.underlying t = some (.struct #[f0, f1])) (o0 : f0.offset = 0) (o1 : f1.offset = 1) (t0 : f0.type = 3) (t1 : f1.type = 3) {fuel : Nat} {a b : Value} {x : DataW H × List MemPlace} (h : DataW.trod enc Try.prog w 0 (fun _ => true) true fuel t [a, b] = some x) : ∃ y z : Int, a = .int .i64 y ∧ b = .int .i64 z ∧ (Lit.int .i64 y).wf = true ∧ (Lit.int .i64 z).wf = true := by
  have c1 : Try.prog.cellsOf 3 = 1 := by kernel_rfl
  obtain ⟨y0, y1, m, _, _, g0, g1⟩ := trod_struct2 ht h
  rw [t0, o0, c1] at g0
  rw [t1, o1, c1] at g1
  simp at g0 g1
  obtain ⟨y, hy, _, wy⟩ := DataW.trod_int Try.underlying3 g0
  obtain ⟨z, hz, _, wz⟩ := DataW.trod_int Try.underlying3 g1
  simp only [List.cons.injEq, and_true] at hy hz
  exact ⟨y, z, hy, hz, wy, wz⟩

end

end Go.Proofs.Ytjfgccjdkflfoaa

