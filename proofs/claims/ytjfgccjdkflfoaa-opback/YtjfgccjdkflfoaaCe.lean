/-
  A field's state (api.Cell) as plain data; its ten cells; where its lists lie.
-/
import Derived.Test.YtjfgccjdkflfoaaRows7
namespace Go.Proofs.Ytjfgccjdkflfoaa
open Go.RowKit
set_option linter.unusedVariables false
set_option linter.unusedSimpArgs false

/-- A set's entry. -/
structure E3 where
  node : Int
  seq : Int
  val : ByteArray

/-- A list's element. -/
structure L5 where
  node : Int
  seq : Int
  time : Int
  val : ByteArray
  gone : Bool

/-- A field's state. -/
structure Ce where
  kind : Int
  set : Bool
  time : Int
  node : Int
  val : ByteArray
  re : Int
  im : Int
  ents : List E3
  elems : List L5
  seen : List Int

/-- Where its three lists lie. -/
structure Pl where
  eo : Option Addr
  ec : Nat
  lo : Option Addr
  lc : Nat
  so : Option Addr
  sc : Nat

abbrev e3 (p : E3) : List Value := [.int .i64 p.node, .int .i64 p.seq, .string p.val]
abbrev l5 (p : L5) : List Value := [.int .i64 p.node, .int .i64 p.seq, .int .i64 p.time, .string p.val, .bool p.gone]
def flatE (l : List E3) : List Value := l.flatMap e3
def flatL (l : List L5) : List Value := l.flatMap l5
def flatI (l : List Int) : List Value := l.map (.int .i64)

theorem flatE_len (l : List E3) : (flatE l).length = l.length * 3 := flat_len e3 3 (fun _ => rfl) l
theorem flatL_len (l : List L5) : (flatL l).length = l.length * 5 := flat_len l5 5 (fun _ => rfl) l
theorem flatI_len (l : List Int) : (flatI l).length = l.length * 1 := by simp [flatI]

theorem flatE_at (l : List E3) (i : Nat) {p : E3} (h : l[i]? = some p) : (flatE l)[i * 3]? = some (.int .i64 p.node) ∧ (flatE l)[i * 3 + 1]? = some (.int .i64 p.seq) ∧ (flatE l)[i * 3 + 2]? = some (.string p.val) :=
  ⟨flat_get e3 3 (fun _ => rfl) l i 0 (by omega) h, flat_get e3 3 (fun _ => rfl) l i 1 (by omega) h, flat_get e3 3 (fun _ => rfl) l i 2 (by omega) h⟩

theorem flatL_at (l : List L5) (i : Nat) {p : L5} (h : l[i]? = some p) : (flatL l)[i * 5]? = some (.int .i64 p.node) ∧ (flatL l)[i * 5 + 1]? = some (.int .i64 p.seq) ∧ (flatL l)[i * 5 + 2]? = some (.int .i64 p.time) ∧ (flatL l)[i * 5 + 3]? = some (.string p.val) ∧ (flatL l)[i * 5 + 4]? = some (.bool p.gone) :=
  ⟨flat_get l5 5 (fun _ => rfl) l i 0 (by omega) h, flat_get l5 5 (fun _ => rfl) l i 1 (by omega) h, flat_get l5 5 (fun _ => rfl) l i 2 (by omega) h, flat_get l5 5 (fun _ => rfl) l i 3 (by omega) h, flat_get l5 5 (fun _ => rfl) l i 4 (by omega) h⟩

theorem flatI_at (l : List Int) (i : Nat) {x : Int} (h : l[i]? = some x) : (flatI l)[i]? = some (.int .i64 x) := by simp [flatI, h]

theorem oneE {l : List E3} {u : Value} (h : u ∈ flatE l) : u.oneCell' = true := by
  simp only [flatE, e3, List.mem_flatMap, List.mem_cons, List.not_mem_nil, or_false] at h
  obtain ⟨p, _, rfl | rfl | rfl⟩ := h <;> rfl

theorem oneL {l : List L5} {u : Value} (h : u ∈ flatL l) : u.oneCell' = true := by
  simp only [flatL, l5, List.mem_flatMap, List.mem_cons, List.not_mem_nil, or_false] at h
  obtain ⟨p, _, rfl | rfl | rfl | rfl | rfl⟩ := h <;> rfl

theorem oneI {l : List Int} {u : Value} (h : u ∈ flatI l) : u.oneCell' = true := by
  simp only [flatI, List.mem_map] at h
  obtain ⟨p, _, rfl⟩ := h; rfl

theorem Try.infoSeen : (Try.prog.info? 3).map (fun i => (i.zero, i.size, i.bytes)) = some (some (.int .i64 0), 1, 8) := by kernel_rfl

/-- The cell's ten cells. -/
abbrev ceL (c : Ce) (p : Pl) : List Value := [.int .i64 c.kind, .bool c.set, .int .i64 c.time, .int .i64 c.node, .string c.val, .int .i64 c.re, .int .i64 c.im, .slice p.eo c.ents.length p.ec, .slice p.lo c.elems.length p.lc, .slice p.so c.seen.length p.sc]
abbrev ceV (c : Ce) (p : Pl) : Value := .agg #[.int .i64 c.kind, .bool c.set, .int .i64 c.time, .int .i64 c.node, .string c.val, .int .i64 c.re, .int .i64 c.im, .slice p.eo c.ents.length p.ec, .slice p.lo c.elems.length p.lc, .slice p.so c.seen.length p.sc]

/-- The cell of nothing. -/
def ce0 : Ce := ⟨0, false, 0, 0, ByteArray.empty, 0, 0, [], [], []⟩
def pl0 : Pl := ⟨none, 0, none, 0, none, 0⟩

/-- Its lists lie there. -/
def CRow (w : World) (c : Ce) (p : Pl) : Prop := FRow w p.eo (flatE c.ents) ∧ FRow w p.lo (flatL c.elems) ∧ FRow w p.so (flatI c.seen)
def COwn (B : Nat) (w : World) (c : Ce) (p : Pl) : Prop := FOwn B w p.eo (flatE c.ents) ∧ FOwn B w p.lo (flatL c.elems) ∧ FOwn B w p.so (flatI c.seen)

theorem COwn.row {B : Nat} {w : World} {c : Ce} {p : Pl} (h : COwn B w c p) : CRow w c p := ⟨h.1.row, h.2.1.row, h.2.2.row⟩
theorem CRow.later {w w' : World} {c : Ce} {p : Pl} (h : CRow w c p) (hb : Below w.heap.size w w') : CRow w' c p := ⟨h.1.later hb, h.2.1.later hb, h.2.2.later hb⟩
theorem COwn.later {B : Nat} {w w' : World} {c : Ce} {p : Pl} (h : COwn B w c p) (hb : Below w.heap.size w w') : COwn B w' c p := ⟨h.1.later hb, h.2.1.later hb, h.2.2.later hb⟩
theorem COwn.mono {B C : Nat} {w : World} {c : Ce} {p : Pl} (h : COwn B w c p) (hC : C ≤ B) : COwn C w c p := ⟨h.1.mono hC, h.2.1.mono hC, h.2.2.mono hC⟩
theorem COwn.kept {A B : Nat} {w v w' : World} {c : Ce} {p : Pl} (h : COwn A w c p) (hB : w.heap.size ≤ B) (h1 : Below w.heap.size w v) (hb : Below B v w') : COwn A w' c p := ⟨h.1.kept hB h1 hb, h.2.1.kept hB h1 hb, h.2.2.kept hB h1 hb⟩
theorem CRow.alloc {w : World} {c : Ce} {p : Pl} (h : CRow w c p) (o : Obj) : CRow (w.alloc o) c p := h.later ((Below.refl _ _).alloc (Nat.le_refl _) _)

/-- What memory bears. -/
def Fit (c : Ce) : Prop := c.ents.length * 32 ≤ 140737488351232 ∧ c.elems.length * 48 ≤ 140737488351232 ∧ c.seen.length * 8 ≤ 140737488351232 ∧ c.val.size ≤ 140737488351232 ∧ (∀ (i : Nat) x, c.ents[i]? = some x → x.val.size ≤ 140737488351232) ∧ (∀ (i : Nat) x, c.elems[i]? = some x → x.val.size ≤ 140737488351232)

/-- A list of nothing is nil. -/
def Nils (c : Ce) (p : Pl) : Prop := (c.ents.length = 0 → p.eo = none ∧ p.ec = 0) ∧ (c.elems.length = 0 → p.lo = none ∧ p.lc = 0) ∧ (c.seen.length = 0 → p.so = none ∧ p.sc = 0)

theorem Has.under {w w' : World} {g B : Nat} {xs : List Value} (h : Has w g xs) (hg : g < B) (hb : Below B w w') : Has w' g xs :=
  ⟨Nat.lt_of_lt_of_le h.1 hb.size, fun i u hu => ⟨(hb.cell (by exact hg)).trans (h.2 i u hu).1, (hb.frozen (by exact hg)).trans (h.2 i u hu).2⟩⟩

theorem Has.alloc {w : World} {g : Nat} {xs : List Value} (h : Has w g xs) (o : Obj) : Has (w.alloc o) g xs := h.later ((Below.refl _ _).alloc (Nat.le_refl _) _)

/-- The ten cells, one by one. -/
theorem Has.ten {w : World} {g : Nat} {u0 u1 u2 u3 u4 u5 u6 u7 u8 u9 : Value} (h : Has w g [u0, u1, u2, u3, u4, u5, u6, u7, u8, u9]) :
    w.cell? ⟨g, 0, none⟩ = some u0 ∧ w.cell? ⟨g, 1, none⟩ = some u1 ∧ w.cell? ⟨g, 2, none⟩ = some u2 ∧ w.cell? ⟨g, 3, none⟩ = some u3 ∧ w.cell? ⟨g, 4, none⟩ = some u4 ∧ w.cell? ⟨g, 5, none⟩ = some u5 ∧ w.cell? ⟨g, 6, none⟩ = some u6 ∧ w.cell? ⟨g, 7, none⟩ = some u7 ∧ w.cell? ⟨g, 8, none⟩ = some u8 ∧ w.cell? ⟨g, 9, none⟩ = some u9 :=
  ⟨h.at 0 rfl, h.at 1 rfl, h.at 2 rfl, h.at 3 rfl, h.at 4 rfl, h.at 5 rfl, h.at 6 rfl, h.at 7 rfl, h.at 8 rfl, h.at 9 rfl⟩

theorem Has.tenf {w : World} {g : Nat} {u0 u1 u2 u3 u4 u5 u6 u7 u8 u9 : Value} (h : Has w g [u0, u1, u2, u3, u4, u5, u6, u7, u8, u9]) :
    w.frozen? ⟨g, 0, none⟩ = false ∧ w.frozen? ⟨g, 1, none⟩ = false ∧ w.frozen? ⟨g, 2, none⟩ = false ∧ w.frozen? ⟨g, 3, none⟩ = false ∧ w.frozen? ⟨g, 4, none⟩ = false ∧ w.frozen? ⟨g, 5, none⟩ = false ∧ w.frozen? ⟨g, 6, none⟩ = false ∧ w.frozen? ⟨g, 7, none⟩ = false ∧ w.frozen? ⟨g, 8, none⟩ = false ∧ w.frozen? ⟨g, 9, none⟩ = false :=
  ⟨h.free 0 rfl, h.free 1 rfl, h.free 2 rfl, h.free 3 rfl, h.free 4 rfl, h.free 5 rfl, h.free 6 rfl, h.free 7 rfl, h.free 8 rfl, h.free 9 rfl⟩

/-- The world behind a store of ten cells. -/
abbrev put10 (w : World) (g : Nat) (u0 u1 u2 u3 u4 u5 u6 u7 u8 u9 : Value) : World := (((((((((w.setCell ⟨g, 0, none⟩ u0).setCell ⟨g, 1, none⟩ u1).setCell ⟨g, 2, none⟩ u2).setCell ⟨g, 3, none⟩ u3).setCell ⟨g, 4, none⟩ u4).setCell ⟨g, 5, none⟩ u5).setCell ⟨g, 6, none⟩ u6).setCell ⟨g, 7, none⟩ u7).setCell ⟨g, 8, none⟩ u8).setCell ⟨g, 9, none⟩ u9

theorem Has.put10 {w : World} {g : Nat} {z0 z1 z2 z3 z4 z5 z6 z7 z8 z9 : Value} (h : Has w g [z0, z1, z2, z3, z4, z5, z6, z7, z8, z9]) (u0 u1 u2 u3 u4 u5 u6 u7 u8 u9 : Value) : Has (put10 w g u0 u1 u2 u3 u4 u5 u6 u7 u8 u9) g [u0, u1, u2, u3, u4, u5, u6, u7, u8, u9] :=
  (((((((((h.put 0 u0).put 1 u1).put 2 u2).put 3 u3).put 4 u4).put 5 u5).put 6 u6).put 7 u7).put 8 u8).put 9 u9

theorem below_put10 {B : Nat} {a w : World} (h : Below B a w) {g : Nat} (hg : B ≤ g) (u0 u1 u2 u3 u4 u5 u6 u7 u8 u9 : Value) : Below B a (put10 w g u0 u1 u2 u3 u4 u5 u6 u7 u8 u9) :=
  (((((((((h.setCell (p := ⟨g, 0, none⟩) hg _).setCell (p := ⟨g, 1, none⟩) hg _).setCell (p := ⟨g, 2, none⟩) hg _).setCell (p := ⟨g, 3, none⟩) hg _).setCell (p := ⟨g, 4, none⟩) hg _).setCell (p := ⟨g, 5, none⟩) hg _).setCell (p := ⟨g, 6, none⟩) hg _).setCell (p := ⟨g, 7, none⟩) hg _).setCell (p := ⟨g, 8, none⟩) hg _).setCell (p := ⟨g, 9, none⟩) hg _

theorem FOwn.put10 {B : Nat} {w : World} {ao : Option Addr} {xs : List Value} (h : FOwn B w ao xs) {g : Nat} (hg : g < B) (u0 u1 u2 u3 u4 u5 u6 u7 u8 u9 : Value) : FOwn B (put10 w g u0 u1 u2 u3 u4 u5 u6 u7 u8 u9) ao xs := fun h0 => by
  obtain ⟨b, h1, h4, h2, h3⟩ := h h0
  have hne : ∀ o i, (⟨b, i, none⟩ : Addr) ≠ ⟨g, o, none⟩ := fun o i e => by injection e; omega
  refine ⟨b, h1, h4, by simpa using h2, fun i u hu => ?_⟩
  simp only [World.frozen?_setCell]
  refine ⟨?_, (h3 i u hu).2⟩
  repeat rw [World.cell?_setCell_other _ _ _ _ (by first | exact hne _ _ | exact (hne _ _).symm)]
  exact (h3 i u hu).1

/-- One cell of another block set. -/
theorem FOwn.off {B : Nat} {w : World} {ao : Option Addr} {xs : List Value} (h : FOwn B w ao xs) {g : Nat} (hg : g < B) (o : Nat) (v : Value) : FOwn B (w.setCell ⟨g, o, none⟩ v) ao xs := fun h0 => by
  obtain ⟨b, h1, h4, h2, h3⟩ := h h0
  have hne : ∀ o i, (⟨b, i, none⟩ : Addr) ≠ ⟨g, o, none⟩ := fun o i e => by injection e; omega
  refine ⟨b, h1, h4, by simpa using h2, fun i u hu => ?_⟩
  simp only [World.frozen?_setCell]
  refine ⟨?_, (h3 i u hu).2⟩
  rw [World.cell?_setCell_other _ _ _ _ (by first | exact hne _ _ | exact (hne _ _).symm)]
  exact (h3 i u hu).1

theorem COwn.put10 {B : Nat} {w : World} {c : Ce} {p : Pl} (h : COwn B w c p) {g : Nat} (hg : g < B) (u0 u1 u2 u3 u4 u5 u6 u7 u8 u9 : Value) : COwn B (put10 w g u0 u1 u2 u3 u4 u5 u6 u7 u8 u9) c p :=
  ⟨h.1.put10 hg _ _ _ _ _ _ _ _ _ _, h.2.1.put10 hg _ _ _ _ _ _ _ _ _ _, h.2.2.put10 hg _ _ _ _ _ _ _ _ _ _⟩

theorem COwn.off {B : Nat} {w : World} {c : Ce} {p : Pl} (h : COwn B w c p) {g : Nat} (hg : g < B) (o : Nat) (v : Value) : COwn B (w.setCell ⟨g, o, none⟩ v) c p := ⟨h.1.off hg o v, h.2.1.off hg o v, h.2.2.off hg o v⟩

end Go.Proofs.Ytjfgccjdkflfoaa
