/-
  What the reading of an operation keeps: the reader, the place of the answer, the operation that is made, its two rows. A step of append in a region that draws its order.
-/
import Derived.Test.YtgkddimijmnpcaaGreatDoorZReadDots11
import Derived.Test.YtgkddimijmnpcaaGreatDoorZMay11
import Derived.Test.YtgkddimijmnpcaaGreatDoorZPack2
import Derived.Deep.AppendLies
namespace Go.Proofs.YtgkddimijmnpcaaGreatDoor
open Go.RowKit
set_option linter.unusedVariables false
set_option linter.unusedSimpArgs false

abbrev pq0 : Pq := ⟨none, 0, none, 0⟩
abbrev zL : List Value := [.int .i64 0, .int .i64 0, .int .i64 0, .slice none 0 0, .int .i64 0, .string ⟨#[]⟩, .string ⟨#[]⟩, .string ⟨#[]⟩, .string ⟨#[]⟩, .int .i64 0, .int .i64 0, .int .i64 0, .int .i64 0, .slice none 0 0]

structure RS (w0 : World) (k g4 g5 : Nat) (s : ByteArray) (z : Option Nat) (o : O14) (q : Pq) (w : World) : Prop where
  rd : Rdr k s z w
  res : Has w g4 zL
  cur : Has w g5 (oL o q)
  deps : w.ownsRow (g5 + 1) 3 1 (.slice q.po o.deps.length q.pc) o.deps.length (flatI o.deps)
  dots : w.ownsRow (g5 + 1) 32 2 (.slice q.qo o.dots.length q.qc) o.dots.length (flatD o.dots)
  ko : KO k w0 w
  kg : k < g5
  k4 : g4 ≠ k
  h45 : g4 < g5
  h4 : w0.heap.size ≤ g4

theorem own_set {B n s : Nat} {e : TypeId} {v : Value} {xs : List Value} {w : World} (h : w.ownsRow B e s v n xs) {g : Nat} (hg : g < B) (o : Nat) (u : Value) : (w.setCell ⟨g, o, none⟩ u).ownsRow B e s v n xs :=
  h.kept (row := some g) ⟨rfl, rfl, rfl, by simp, fun j hj hjk => Below.heap_setCell _ _ _ _ (fun e => hjk (by have e2 : j = g := e; rw [e2]))⟩ (by
    rcases hv : v.ownBlock with _ | b
    · exact Or.inl rfl
    · exact Or.inr (by have := (h.lt b hv).1; intro e; injection e; omega))
section
variable {w0 w w' : World} {k g4 g5 : Nat} {s : ByteArray} {z z' : Option Nat} {o : O14} {q : Pq}
theorem RS.call (H : RS w0 k g4 g5 s z o q w) (r : Rdr k s z' w') (kk : KO k w w') : RS w0 k g4 g5 s z' o q w' :=
  ⟨r, H.res.ko kk H.k4, H.cur.ko kk (by have := H.kg; omega), own_ko H.deps kk (by have := H.kg; omega), own_ko H.dots kk (by have := H.kg; omega), H.ko.trans kk, H.kg, H.k4, H.h45, H.h4⟩
theorem RS.later (H : RS w0 k g4 g5 s z o q w) (hb : Below w.heap.size w w') : RS w0 k g4 g5 s z o q w' :=
  ⟨H.rd.later hb, H.res.later hb, H.cur.later hb, own_later H.deps hb, own_later H.dots hb, H.ko.trans (Kept.of hb), H.kg, H.k4, H.h45, H.h4⟩
theorem RS.set (H : RS w0 k g4 g5 s z o q w) (i : Nat) (v : Value) (o' : O14) (he : (oL o q).set i v = oL o' q) (hd : o'.deps = o.deps) (ht : o'.dots = o.dots) : RS w0 k g4 g5 s z o' q (w.setCell ⟨g5, i, none⟩ v) :=
  ⟨rdr_off H.rd (by have := H.kg; omega) _ _, H.res.other (by have := H.h45; omega) _ _, he ▸ H.cur.put i v, by rw [hd]; exact own_set H.deps (Nat.lt_succ_self _) _ _, by rw [ht]; exact own_set H.dots (Nat.lt_succ_self _) _ _,
    ko_new H.ko (by have := H.h45; have := H.h4; omega) _ _, H.kg, H.k4, H.h45, H.h4⟩
/-- Behind an append to the row of its Deps. -/
theorem RS.depsB (H : RS w0 k g4 g5 s z o q w) {w2 : World} (hb : Below (g5 + 1) w w2) {bo : Option Addr} {cb : Nat} {l : List Int} (ho : w2.ownsRow (g5 + 1) 3 1 (.slice bo l.length cb) l.length (flatI l))
    (hdots : o.dots = []) (hq : q.qo = none ∧ q.qc = 0) : RS w0 k g4 g5 s z { o with deps := l } ⟨bo, cb, q.qo, q.qc⟩ (w2.setCell ⟨g5, 3, none⟩ (.slice bo l.length cb)) := by
  have hk5 := H.kg
  have h45 := H.h45
  have h4 := H.h4
  have hd2 : w2.ownsRow (g5 + 1) 32 2 (.slice q.qo o.dots.length q.qc) o.dots.length (flatD o.dots) := by
    rw [hdots, hq.1, hq.2]
    exact own_nil _ _ _ _
  have hcur : Has w2 g5 (oL o q) := H.cur.under (Nat.lt_succ_self _) hb
  exact ⟨rdr_off (rdr_under H.rd (by omega) hb) (by omega) _ _, (H.res.under (by omega) hb).other (by omega) _ _, hcur.put 3 _, own_set ho (Nat.lt_succ_self _) _ _, own_set hd2 (Nat.lt_succ_self _) _ _,
    ko_new (ko_above H.ko (by omega) (by omega) hb) (by omega) _ _, hk5, H.k4, h45, h4⟩
/-- Behind a row of dots. -/
theorem RS.dotsB (H : RS w0 k g4 g5 s z o q w) (r : Rdr k s z' w') (kk : KO k w w') {ao : Option Addr} {ca n : Nat} {l : List D2} (hn : n = l.length) (ho : w'.ownsRow w.heap.size 32 2 (.slice ao n ca) n (flatD l)) :
    RS w0 k g4 g5 s z' { o with dots := l } ⟨q.po, q.pc, ao, ca⟩ (w'.setCell ⟨g5, 13, none⟩ (.slice ao n ca)) := by
  subst hn
  have C := H.call r kk
  have h5 := H.cur.1
  exact ⟨rdr_off C.rd (by have := H.kg; omega) _ _, C.res.other (by have := H.h45; omega) _ _, C.cur.put 13 _, own_set C.deps (Nat.lt_succ_self _) _ _, own_set (own_mono ho (by omega)) (Nat.lt_succ_self _) _ _,
    ko_new C.ko (by have := H.h45; have := H.h4; omega) _ _, H.kg, H.k4, H.h45, H.h4⟩
end

/-- 'append(own, x)' in a region that draws its order; x lies in a block of its own. -/
theorem step_onto1 {P : Program} {ops : Array Oper} {o : Oper} {a : Act} {K : Act → World → Prop} {Q : Exit → Act → World → Prop} {E : Prop} (hgd : o.guard = none) (s x : Operand) (t : TypeId)
    (ho : o.op = .call { callee := .builtin .append, args := #[s, x], argTypes := #[t, t] })
    {e : TypeId} {size bytes : Nat} {z : Value} (ht : P.underlying t = some (.slice e)) (hinfo : (P.info? e).map (fun i => (i.zero, i.size, i.bytes)) = some (some z, size, bytes)) (hzs : z.cells.size = size) (hsz : 0 < size) (hby : 0 < bytes)
    {B n g : Nat} {bo : Option Addr} {cb : Nat} {xs news : List Value} {W : World}
    (hs : a.eval s = .slice bo n cb) (hx : a.eval x = .slice (some ⟨g, 0, none⟩) 1 1)
    (hown : W.ownsRow B e size (.slice bo n cb) n xs) (hnew : Has W g news) (hl : news.length = size) (hone : ∀ u ∈ news, u.oneCell' = true) (hlen : (n + 1) * bytes ≤ 140737488355328) (hB : B ≤ W.heap.size)
    (h : ∀ bo' cb' w', w'.ownsRow B e size (.slice bo' (n + 1) cb') (n + 1) (xs ++ news) → Below B W w' → K (a.put o.dst (.slice bo' (n + 1) cb')) w') :
    if Region.wanted o (yielded ops a.tmps) = true then Oper.wp P o a W K Q else E := by
  obtain ⟨i0, hi, hz0, hz1, hz2⟩ := info_parts hinfo
  have hnn : n + 1 ≤ (n + 1) * bytes := Nat.le_mul_of_pos_right _ hby
  refine step_append_lies _ hgd s x t ho B e i0 z size bytes ht hi hz0 hz1 hz2 hzs hsz _ n xs hs hown ⟨g, 0, none⟩ 1 1 news hx (by omega) (fun j u hj => by rw [add_off, Nat.zero_add]; exact hnew.at j hj) hone (by omega) (by unfold maxLen; omega) hlen hB _ rfl ?_
  intro b' c' w' hown' hgrow _ _
  exact h _ _ w' hown' (below_grownS hown hB hgrow)

theorem Has.f14f {w : World} {g : Nat} {u0 u1 u2 u3 u4 u5 u6 u7 u8 u9 u10 u11 u12 u13 : Value} (h : Has w g [u0, u1, u2, u3, u4, u5, u6, u7, u8, u9, u10, u11, u12, u13]) :
    w.frozen? ⟨g, 0, none⟩ = false ∧ w.frozen? ⟨g, 1, none⟩ = false ∧ w.frozen? ⟨g, 2, none⟩ = false ∧ w.frozen? ⟨g, 3, none⟩ = false ∧ w.frozen? ⟨g, 4, none⟩ = false ∧ w.frozen? ⟨g, 5, none⟩ = false ∧ w.frozen? ⟨g, 6, none⟩ = false ∧ w.frozen? ⟨g, 7, none⟩ = false ∧ w.frozen? ⟨g, 8, none⟩ = false ∧ w.frozen? ⟨g, 9, none⟩ = false ∧ w.frozen? ⟨g, 10, none⟩ = false ∧ w.frozen? ⟨g, 11, none⟩ = false ∧ w.frozen? ⟨g, 12, none⟩ = false ∧ w.frozen? ⟨g, 13, none⟩ = false :=
  ⟨h.free 0 rfl, h.free 1 rfl, h.free 2 rfl, h.free 3 rfl, h.free 4 rfl, h.free 5 rfl, h.free 6 rfl, h.free 7 rfl, h.free 8 rfl, h.free 9 rfl, h.free 10 rfl, h.free 11 rfl, h.free 12 rfl, h.free 13 rfl⟩
abbrev put14 (w : World) (g : Nat) (u0 u1 u2 u3 u4 u5 u6 u7 u8 u9 u10 u11 u12 u13 : Value) : World := (((((((((((((w.setCell ⟨g, 0, none⟩ u0).setCell ⟨g, 1, none⟩ u1).setCell ⟨g, 2, none⟩ u2).setCell ⟨g, 3, none⟩ u3).setCell ⟨g, 4, none⟩ u4).setCell ⟨g, 5, none⟩ u5).setCell ⟨g, 6, none⟩ u6).setCell ⟨g, 7, none⟩ u7).setCell ⟨g, 8, none⟩ u8).setCell ⟨g, 9, none⟩ u9).setCell ⟨g, 10, none⟩ u10).setCell ⟨g, 11, none⟩ u11).setCell ⟨g, 12, none⟩ u12).setCell ⟨g, 13, none⟩ u13
abbrev putO14 (w : World) (g : Nat) (o : O14) (q : Pq) : World := put14 w g (.int .i64 o.dn) (.int .i64 o.ds) (.int .i64 o.time) (.slice q.po o.deps.length q.pc) (.int .i64 o.kind) (.string o.type) (.string o.id) (.string o.field) (.string o.value) (.int .i64 o.re) (.int .i64 o.im) (.int .i64 o.rn) (.int .i64 o.rs) (.slice q.qo o.dots.length q.qc)
theorem has_putO {w : World} {g : Nat} {xs : List Value} (o : O14) (q : Pq) (h : Has w g xs) (hl : xs.length = 14) : Has (putO14 w g o q) g (oL o q) := by
  match xs, hl with
  | [x0, x1, x2, x3, x4, x5, x6, x7, x8, x9, x10, x11, x12, x13], _ =>
    exact (((((((((((((h.put 0 _).put 1 _).put 2 _).put 3 _).put 4 _).put 5 _).put 6 _).put 7 _).put 8 _).put 9 _).put 10 _).put 11 _).put 12 _).put 13 _
/-- What a function answers whose answer is an operation. -/
theorem ret_op {fn : Func} {tmps : Array Value} {t : Tmp} {w : World} {g : Nat} {u0 u1 u2 u3 u4 u5 u6 u7 u8 u9 u10 u11 u12 u13 : Value} (h : fn.results = #[.cell t 35]) (ht : tmps[t]? = some (.pointer (some ⟨g, 0, none⟩))) (hg : Has w g [u0, u1, u2, u3, u4, u5, u6, u7, u8, u9, u10, u11, u12, u13]) :
    (results fn tmps).run Tryz.prog w = .ok (.agg #[u0, u1, u2, u3, u4, u5, u6, u7, u8, u9, u10, u11, u12, u13]) w := by
  obtain ⟨h0, h1, h2, h3, h4, h5, h6, h7, h8, h9, h10, h11, h12, h13⟩ := hg.f14
  clear hg
  simp [results, h, ht, h0, h1, h2, h3, h4, h5, h6, h7, h8, h9, h10, h11, h12, h13, go_sem]
theorem ret_op2 {fn : Func} {tmps : Array Value} {t u : Tmp} {w : World} {g : Nat} {v u0 u1 u2 u3 u4 u5 u6 u7 u8 u9 u10 u11 u12 u13 : Value} (h : fn.results = #[.cell t 35, .tmp u]) (ht : tmps[t]? = some (.pointer (some ⟨g, 0, none⟩))) (hu : tmps[u]? = some v) (hg : Has w g [u0, u1, u2, u3, u4, u5, u6, u7, u8, u9, u10, u11, u12, u13]) :
    (results fn tmps).run Tryz.prog w = .ok (.tuple #[.agg #[u0, u1, u2, u3, u4, u5, u6, u7, u8, u9, u10, u11, u12, u13], v]) w := by
  obtain ⟨h0, h1, h2, h3, h4, h5, h6, h7, h8, h9, h10, h11, h12, h13⟩ := hg.f14
  clear hg
  simp [results, h, ht, hu, h0, h1, h2, h3, h4, h5, h6, h7, h8, h9, h10, h11, h12, h13, go_sem]
/-- Its rows lie in memory of their own. -/
def OOwn (B : Nat) (w : World) (o : O14) (q : Pq) : Prop := w.ownsRow B 3 1 (.slice q.po o.deps.length q.pc) o.deps.length (flatI o.deps) ∧ w.ownsRow B 32 2 (.slice q.qo o.dots.length q.qc) o.dots.length (flatD o.dots)
theorem OOwn.row {B : Nat} {w : World} {o : O14} {q : Pq} (h : OOwn B w o q) : ORow w o q := ⟨(own_row h.1).row, (own_row h.2).row⟩
theorem OOwn.later {B : Nat} {w w' : World} {o : O14} {q : Pq} (h : OOwn B w o q) (hb : Below w.heap.size w w') : OOwn B w' o q := ⟨own_later h.1 hb, own_later h.2 hb⟩
theorem OOwn.mono {B C : Nat} {w : World} {o : O14} {q : Pq} (h : OOwn B w o q) (hC : C ≤ B) : OOwn C w o q := ⟨own_mono h.1 hC, own_mono h.2 hC⟩
theorem OOwn.set {B : Nat} {w : World} {o : O14} {q : Pq} (h : OOwn B w o q) {g : Nat} (hg : g < B) (i : Nat) (v : Value) : OOwn B (w.setCell ⟨g, i, none⟩ v) o q := ⟨own_set h.1 hg _ _, own_set h.2 hg _ _⟩
theorem OOwn.put {B : Nat} {w : World} {o o' : O14} {q q' : Pq} (h : OOwn B w o q) {g : Nat} (hg : g < B) : OOwn B (putO14 w g o' q') o q :=
  (((((((((((((h.set hg _ _).set hg _ _).set hg _ _).set hg _ _).set hg _ _).set hg _ _).set hg _ _).set hg _ _).set hg _ _).set hg _ _).set hg _ _).set hg _ _).set hg _ _).set hg _ _
theorem ko_put14 {k g : Nat} {w w' : World} (h : KO k w w') (hg : w.heap.size ≤ g) (o : O14) (q : Pq) : KO k w (putO14 w' g o q) := by
  repeat apply ko_new (hg := hg)
  exact h
theorem rdr_put14 {k g : Nat} {s : ByteArray} {z : Option Nat} {w : World} (h : Rdr k s z w) (hne : g ≠ k) (o : O14) (q : Pq) : Rdr k s z (putO14 w g o q) := by
  repeat apply rdr_off (hne := hne)
  exact h

end Go.Proofs.YtgkddimijmnpcaaGreatDoor

