/-
  Cells that are lists and nothing more: Insert, Erase, Compact, Values, At at them; the laws' own elem.
-/
import Derived.Test.YtgkddimijmnpcaaGreatDoorZInsR10
import Derived.Test.YtgkddimijmnpcaaGreatDoorZPack2
namespace Go.Proofs.YtgkddimijmnpcaaGreatDoor
open Go.RowKit Go.Shelf
set_option linter.unusedVariables false
set_option linter.unusedSimpArgs false

theorem insL_none {l : List L5} {e : L5} {d : D2} : insL l e d = none ↔ behindL l d = none := by
  unfold insL
  rw [Option.map_eq_none_iff]
theorem eraL_none {l : List L5} {d : D2} : eraL l d = none ↔ atD l d = none := by
  unfold eraL
  rw [Option.map_eq_none_iff]

/-- A list of those elements, of nothing more. -/
def lcE (l : List L5) : Ce := ⟨3, false, 0, 0, ByteArray.empty, 0, 0, [], l, []⟩
abbrev llL (n : Nat) (q : Pl) : List Value := [.int .i64 3, .bool false, .int .i64 0, .int .i64 0, .string ⟨#[]⟩, .int .i64 0, .int .i64 0, .slice q.eo 0 q.ec, .slice q.lo n q.lc, .slice q.so 0 q.sc]
abbrev llV (n : Nat) (q : Pl) : Value := .agg #[.int .i64 3, .bool false, .int .i64 0, .int .i64 0, .string ⟨#[]⟩, .int .i64 0, .int .i64 0, .slice q.eo 0 q.ec, .slice q.lo n q.lc, .slice q.so 0 q.sc]

theorem SmallX.fit {l : List L5} (h : SmallX l) : Fit (lcE l) := by
  refine ⟨by simp [lcE], ?_, by simp [lcE], by simp [lcE], fun i x hx => by simp [lcE] at hx, fun i x hx => ?_⟩
  · have := h.1
    simp only [lcE]
    omega
  · have := h.2 x (List.mem_of_getElem? hx)
    omega
theorem lc_row {w : World} {l : List L5} {q : Pl} (h : FRow w q.lo (flatL l)) : CRow w (lcE l) q := ⟨FRow.nil _ _, h, FRow.nil _ _⟩

/-- Insert at a list takes it. -/
theorem inss_yes {l : List L5} {q : Pl} {e : L5} {d : D2} (w : World) (m : List L5) (n n' : Nat) (hn : n = l.length) (hr : FRow w q.lo (flatL l)) (hs : SmallX l) (hb : okX l e = true) (hm : insL l e d = some m) (hn' : n' = m.length) :
    Calls Tryz.prog 63 #[llV n q, lv e, dv d] w fun r w' => ∃ q', r = .returned (.tuple #[llV n' q', .int .i64 0]) ∧ FOwn w.heap.size w' q'.lo (flatL m) ∧ Below w.heap.size w w' := by
  subst hn hn'
  refine Calls.mono (ins_yes (lcE l) q e d m w (lc_row hr) hs.fit rfl hb hm) ?_
  rintro r w1 ⟨q', rfl, o, b⟩
  exact ⟨q', rfl, o.2.1, b⟩
/-- Insert at a list finds no such place. -/
theorem inss_range {l : List L5} {q : Pl} {e : L5} {d : D2} (w : World) (n : Nat) (hn : n = l.length) (hr : FRow w q.lo (flatL l)) (hs : SmallX l) (hb : okX l e = true) (hm : insL l e d = none) :
    Calls Tryz.prog 63 #[llV n q, lv e, dv d] w fun r w' => r = .returned (.tuple #[zv 0, .int .i64 1001]) ∧ Below w.heap.size w w' := by
  subst hn
  exact ins_range (lcE l) q e d w (lc_row hr) hs.fit rfl hb (insL_none.1 hm)
/-- Insert at a list refuses. -/
theorem inss_no {l : List L5} {q : Pl} {e : L5} {d : D2} (w : World) (n : Nat) (hn : n = l.length) (hr : FRow w q.lo (flatL l)) (hs : SmallX l) (hv : e.val.size ≤ maxLen) (hb : okX l e = false) :
    Calls Tryz.prog 63 #[llV n q, lv e, dv d] w fun r w' => r = .returned (.tuple #[zv 0, .int .i64 1000]) ∧ Below w.heap.size w w' := by
  subst hn
  exact ins_no (lcE l) q e d w (lc_row hr) hs.fit hv (by rw [show (lcE l).elems = l from rfl, hb]; simp)
/-- Erase at a list takes it. -/
theorem eras_yes {l : List L5} {q : Pl} {d : D2} (w : World) (m : List L5) (n : Nat) (hn : n = l.length) (hr : FRow w q.lo (flatL l)) (hs : SmallX l) (hm : eraL l d = some m) :
    Calls Tryz.prog 65 #[llV n q, dv d] w fun r w' => ∃ q', r = .returned (.tuple #[llV n q', .int .i64 0]) ∧ FOwn w.heap.size w' q'.lo (flatL m) ∧ Below w.heap.size w w' := by
  subst hn
  unfold eraL at hm
  obtain ⟨k, hk, rfl⟩ := Option.map_eq_some_iff.1 hm
  refine Calls.mono (era_yes (lcE l) q d k w (lc_row hr) hs.fit rfl hk) ?_
  rintro r w1 ⟨q', rfl, o, b⟩
  refine ⟨q', ?_, o.2.1, b⟩
  show Ending.returned (.tuple #[ceV (cL (lcE l) (l.modify k markX)) q', .int .i64 0]) = _
  simp only [ceV, cL, lcE, List.length_modify]
  rfl
/-- Erase at a list finds none. -/
theorem eras_range {l : List L5} {q : Pl} {d : D2} (w : World) (n : Nat) (hn : n = l.length) (hr : FRow w q.lo (flatL l)) (hs : SmallX l) (hm : eraL l d = none) :
    Calls Tryz.prog 65 #[llV n q, dv d] w fun r w' => r = .returned (.tuple #[zv 0, .int .i64 1001]) ∧ Below w.heap.size w w' := by
  subst hn
  exact era_range (lcE l) q d w (lc_row hr) hs.fit rfl (eraL_none.1 hm)
/-- Values at a list. -/
theorem valx_yes {l : List L5} {q : Pl} (w : World) (m : List ByteArray) (n n' : Nat) (hn : n = l.length) (hr : FRow w q.lo (flatL l)) (hs : SmallX l) (hm : valsX l = m) (hn' : n' = m.length) :
    Calls Tryz.prog 129 #[llV n q] w fun r w' => ∃ ao ca, r = .returned (.tuple #[.slice ao n' ca, .int .i64 0]) ∧ FOwn w.heap.size w' ao (flatT m) ∧ Below w.heap.size w w' := by
  subst hn hm hn'
  exact xvals_yes (lcE l) q w (lc_row hr) hs.fit rfl
/-- What a function answers whose answer is an element. -/
theorem ret_elem {fn : Func} {tmps : Array Value} {t : Tmp} {w : World} {g : Nat} {u0 u1 u2 u3 u4 : Value} (h : fn.results = #[.cell t 59]) (ht : tmps[t]? = some (.pointer (some ⟨g, 0, none⟩))) (hg : Has w g [u0, u1, u2, u3, u4]) :
    (results fn tmps).run Tryz.prog w = .ok (.agg #[u0, u1, u2, u3, u4]) w := by
  obtain ⟨h0, h1, h2, h3, h4⟩ := hg.five
  simp [results, h, ht, h0, h1, h2, h3, h4, go_sem]
end Go.Proofs.YtgkddimijmnpcaaGreatDoor

