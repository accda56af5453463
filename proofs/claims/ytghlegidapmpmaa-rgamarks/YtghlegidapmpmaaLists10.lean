/-
  Cells that are lists and nothing more: Insert, Erase, Compact, Values, At at them; the laws' own elem.
-/
import Derived.Test.YtghlegidapmpmaaInsR10
import Derived.Test.YtghlegidapmpmaaVal10
namespace Go.Proofs.Ytghlegidapmpmaa
open Go.RowKit Go.Shelf
set_option linter.unusedVariables false
set_option linter.unusedSimpArgs false

theorem insL_none {l : List L5} {e : L5} {d : D2} : insL l e d = none ↔ behindL l d = none := by
  unfold insL
  rw [Option.map_eq_none_iff]
theorem eraL_none {l : List L5} {d : D2} : eraL l d = none ↔ atD l d = none := by
  unfold eraL
  rw [Option.map_eq_none_iff]

/-- A list of those elements, of nothing more. -/
def lcE (l : List L5) : Ce := ⟨3, false, 0, 0, ByteArray.empty, 0, 0, [], l, []⟩
abbrev llL (n : Nat) (q : Pl) : List Value := [.int .i64 3, .bool false, .int .i64 0, .int .i64 0, .string ⟨#[]⟩, .int .i64 0, .int .i64 0, .slice q.eo 0 q.ec, .slice q.lo n q.lc, .slice q.so 0 q.sc]
abbrev llV (n : Nat) (q : Pl) : Value := .agg #[.int .i64 3, .bool false, .int .i64 0, .int .i64 0, .string ⟨#[]⟩, .int .i64 0, .int .i64 0, .slice q.eo 0 q.ec, .slice q.lo n q.lc, .slice q.so 0 q.sc]

theorem SmallX.fit {l : List L5} (h : SmallX l) : Fit (lcE l) := by
  refine ⟨by simp [lcE], ?_, by simp [lcE], by simp [lcE], fun i x hx => by simp [lcE] at hx, fun i x hx => ?_⟩
  · have := h.1
    simp only [lcE]
    omega
  · have := h.2 x (List.mem_of_getElem? hx)
    omega
theorem lc_row {w : World} {l : List L5} {q : Pl} (h : FRow w q.lo (flatL l)) : CRow w (lcE l) q := ⟨FRow.nil _ _, h, FRow.nil _ _⟩

/-- Insert at a list takes it. -/
theorem inss_yes {l : List L5} {q : Pl} {e : L5} {d : D2} (w : World) (m : List L5) (n n' : Nat) (hn : n = l.length) (hr : FRow w q.lo (flatL l)) (hs : SmallX l) (hb : okX l e = true) (hm : insL l e d = some m) (hn' : n' = m.length) :
    Calls Try.prog 5 #[llV n q, lv e, dv d] w fun r w' => ∃ q', r = .returned (.tuple #[llV n' q', .int .i64 0]) ∧ FOwn w.heap.size w' q'.lo (flatL m) ∧ Below w.heap.size w w' := by
  subst hn hn'
  refine Calls.mono (ins_yes (lcE l) q e d m w (lc_row hr) hs.fit rfl hb hm) ?_
  rintro r w1 ⟨q', rfl, o, b⟩
  exact ⟨q', rfl, o.2.1, b⟩
/-- Insert at a list finds no such place. -/
theorem inss_range {l : List L5} {q : Pl} {e : L5} {d : D2} (w : World) (n : Nat) (hn : n = l.length) (hr : FRow w q.lo (flatL l)) (hs : SmallX l) (hb : okX l e = true) (hm : insL l e d = none) :
    Calls Try.prog 5 #[llV n q, lv e, dv d] w fun r w' => r = .returned (.tuple #[zv 0, .int .i64 1001]) ∧ Below w.heap.size w w' := by
  subst hn
  exact ins_range (lcE l) q e d w (lc_row hr) hs.fit rfl hb (insL_none.1 hm)
/-- Insert at a list refuses. -/
theorem inss_no {l : List L5} {q : Pl} {e : L5} {d : D2} (w : World) (n : Nat) (hn : n = l.length) (hr : FRow w q.lo (flatL l)) (hs : SmallX l) (hv : e.val.size ≤ maxLen) (hb : okX l e = false) :
    Calls Try.prog 5 #[llV n q, lv e, dv d] w fun r w' => r = .returned (.tuple #[zv 0, .int .i64 1000]) ∧ Below w.heap.size w w' := by
  subst hn
  exact ins_no (lcE l) q e d w (lc_row hr) hs.fit hv (by rw [show (lcE l).elems = l from rfl, hb]; simp)
/-- Erase at a list takes it. -/
theorem eras_yes {l : List L5} {q : Pl} {d : D2} (w : World) (m : List L5) (n : Nat) (hn : n = l.length) (hr : FRow w q.lo (flatL l)) (hs : SmallX l) (hm : eraL l d = some m) :
    Calls Try.prog 9 #[llV n q, dv d] w fun r w' => ∃ q', r = .returned (.tuple #[llV n q', .int .i64 0]) ∧ FOwn w.heap.size w' q'.lo (flatL m) ∧ Below w.heap.size w w' := by
  subst hn
  unfold eraL at hm
  obtain ⟨k, hk, rfl⟩ := Option.map_eq_some_iff.1 hm
  refine Calls.mono (era_yes (lcE l) q d k w (lc_row hr) hs.fit rfl hk) ?_
  rintro r w1 ⟨q', rfl, o, b⟩
  refine ⟨q', ?_, o.2.1, b⟩
  show Ending.returned (.tuple #[ceV (cL (lcE l) (l.modify k markX)) q', .int .i64 0]) = _
  simp only [ceV, cL, lcE, List.length_modify]
  rfl
/-- Erase at a list finds none. -/
theorem eras_range {l : List L5} {q : Pl} {d : D2} (w : World) (n : Nat) (hn : n = l.length) (hr : FRow w q.lo (flatL l)) (hs : SmallX l) (hm : eraL l d = none) :
    Calls Try.prog 9 #[llV n q, dv d] w fun r w' => r = .returned (.tuple #[zv 0, .int .i64 1001]) ∧ Below w.heap.size w w' := by
  subst hn
  exact era_range (lcE l) q d w (lc_row hr) hs.fit rfl (eraL_none.1 hm)
/-- Compact at a list. -/
theorem coms_yes {l : List L5} {q : Pl} (w : World) (m : List L5) (n n' : Nat) (hn : n = l.length) (hr : FRow w q.lo (flatL l)) (hs : SmallX l) (hm : liveL l = m) (hn' : n' = m.length) :
    Calls Try.prog 10 #[llV n q] w fun r w' => ∃ q', r = .returned (.tuple #[llV n' q', .int .i64 0]) ∧ FOwn w.heap.size w' q'.lo (flatL m) ∧ Below w.heap.size w w' := by
  subst hn hm hn'
  refine Calls.mono (com_yes (lcE l) q w (lc_row hr) hs.fit rfl) ?_
  rintro r w1 ⟨q', rfl, o, b⟩
  exact ⟨q', rfl, o.2.1, b⟩
/-- Values at a list. -/
theorem valx_yes {l : List L5} {q : Pl} (w : World) (m : List ByteArray) (n n' : Nat) (hn : n = l.length) (hr : FRow w q.lo (flatL l)) (hs : SmallX l) (hm : valsX l = m) (hn' : n' = m.length) :
    Calls Try.prog 11 #[llV n q] w fun r w' => ∃ ao ca, r = .returned (.tuple #[.slice ao n' ca, .int .i64 0]) ∧ FOwn w.heap.size w' ao (flatT m) ∧ Below w.heap.size w w' := by
  subst hn hm hn'
  exact xvals_yes (lcE l) q w (lc_row hr) hs.fit rfl
/-- At at a list. -/
theorem ats_any {l : List L5} {q : Pl} (w : World) (k : Int) (n : Nat) (a : D2) (z : Int) (hn : n = l.length) (hr : FRow w q.lo (flatL l)) (hs : SmallX l) (ha : atNum l k = (a, z)) :
    Calls Try.prog 13 #[llV n q, .int .i64 k] w fun r w' => r = .returned (.tuple #[dv a, .int .i64 z]) ∧ Below w.heap.size w w' := by
  subst hn
  refine Calls.mono (rat_yes (lcE l) q k w (lc_row hr) hs.fit rfl) ?_
  rintro r w1 ⟨rfl, b⟩
  refine ⟨?_, b⟩
  rw [show (lcE l).elems = l from rfl, ha]

/-- What a function answers whose answer is an element. -/
theorem ret_elem {fn : Func} {tmps : Array Value} {t : Tmp} {w : World} {g : Nat} {u0 u1 u2 u3 u4 : Value} (h : fn.results = #[.cell t 38]) (ht : tmps[t]? = some (.pointer (some ⟨g, 0, none⟩))) (hg : Has w g [u0, u1, u2, u3, u4]) :
    (results fn tmps).run Try.prog w = .ok (.agg #[u0, u1, u2, u3, u4]) w := by
  obtain ⟨h0, h1, h2, h3, h4⟩ := hg.five
  simp [results, h, ht, h0, h1, h2, h3, h4, go_sem]
theorem elem_any (a b c : Int) (v : ByteArray) (w : World) :
    Calls Try.prog 6 #[.int .i64 a, .int .i64 b, .int .i64 c, .string v] w fun r w' => r = .returned (.agg #[.int .i64 a, .int .i64 b, .int .i64 c, .string v, .bool false]) ∧ Below w.heap.size w w' := by
  go_enter Try.func6, Try.ntmps6
  go_wp2
  exact bodyPost_ret (ret_elem rfl rfl (has_new w [.int .i64 a, .int .i64 b, .int .i64 c, .string v, .bool false] _)) rfl ⟨rfl, (Below.refl _ _).alloc (Nat.le_refl _) _⟩

end Go.Proofs.Ytghlegidapmpmaa
