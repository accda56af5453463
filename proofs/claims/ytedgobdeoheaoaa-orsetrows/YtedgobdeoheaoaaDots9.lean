/-
  Package orset's Dots, and the document's own, by contract.
-/
import Derived.Test.YtedgobdeoheaoaaDrop9
namespace Go.Proofs.Ytedgobdeoheaoaa
open Go.RowKit Go.Shelf
set_option linter.unusedVariables false
set_option linter.unusedSimpArgs false

/-- The same bytes? -/
def eqS (a b : ByteArray) : Bool := a.toList == b.toList
/-- The dots of the entries of that value. -/
def dotsL (l : List E3) (v : ByteArray) : List D2 := (l.filter fun x => eqS x.val v).map dotE

theorem dotsL_step {l : List E3} {v : ByteArray} {i : Nat} {x : E3} (hx : l[i]? = some x) : dotsL (l.take (i + 1)) v = dotsL (l.take i) v ++ (if eqS x.val v then [dotE x] else []) := by
  unfold dotsL
  rw [List.take_add_one, hx, List.filter_append, List.map_append]
  by_cases h : eqS x.val v = true
  · simp [h]
  · simp [h]

theorem dotsL_le (l : List E3) (v : ByteArray) : (dotsL l v).length ≤ l.length := by
  unfold dotsL
  rw [List.length_map]
  exact List.length_filter_le _ _

set_option maxHeartbeats 400000 in
set_option maxRecDepth 100000 in
/-- Dots refuses. -/
theorem dots_no (c : Ce) (p : Pl) (v : ByteArray) (w : World) (hk : (c.kind != 2) = true) :
    Calls Try.prog 16 #[ceV c p, .string v] w fun e w' => e = .returned (.tuple #[.slice none 0 0, .int .i64 900]) ∧ Below w.heap.size w w' := by
  go_enter Try.func16, Try.ntmps16
  go_wp2
  go_ret2
  exact ⟨rfl, (Below.refl _ _).alloc (Nat.le_refl _) _⟩

/-- What the loop keeps. -/
def Dl (w : World) (h : Nat) (c : Ce) (p : Pl) (l : List D2) (ao : Option Addr) (ca : Nat) (wr : World) : Prop :=
  Below h w wr ∧ Has wr h (ceL c p) ∧ wr.ownsRow (h + 1) 32 2 (.slice ao l.length ca) l.length (flatD l)

theorem dl_later {w wr w2 : World} {h : Nat} {c : Ce} {p : Pl} {l : List D2} {ao : Option Addr} {ca : Nat} (H : Dl w h c p l ao ca wr) (hb : Below wr.heap.size wr w2) : Dl w h c p l ao ca w2 :=
  ⟨H.1.trans (hb.mono (by have := H.2.1.1; omega)), H.2.1.later hb, own_later H.2.2 hb⟩

theorem dl_grown {w wr w2 : World} {h : Nat} {c : Ce} {p : Pl} {l : List D2} {x : D2} {ao bo : Option Addr} {ca cb : Nat} {o : Obj} (H : Dl w h c p l ao ca wr) (o2 : w2.ownsRow (h + 1) 32 2 (.slice bo (l.length + 1) cb) (l.length + 1) (flatD l ++ [.int .i64 x.1, .int .i64 x.2])) (b2 : Below (h + 1) (wr.alloc o) w2) : Dl w h c p (l ++ [x]) bo cb w2 := by
  have hs := H.2.1.1
  have hal : Below (h + 1) wr (wr.alloc o) := (Below.refl _ _).alloc (by omega) _
  refine ⟨H.1.trans ((hal.trans b2).mono (by omega)), H.2.1.under (by omega) (hal.trans b2), ?_⟩
  rw [flatD_append, List.length_append]
  exact o2

set_option maxHeartbeats 1000000 in
set_option maxRecDepth 100000 in
/-- Dots takes it. -/
theorem dots_yes (c : Ce) (p : Pl) (v : ByteArray) (w : World) (hr : CRow w c p) (hf : Fit c) (hk : (c.kind != 2) = false) :
    Calls Try.prog 16 #[ceV c p, .string v] w fun e w' => ∃ ao ca, e = .returned (.tuple #[.slice ao (dotsL c.ents v).length ca, .int .i64 0]) ∧ FOwn w.heap.size w' ao (flatD (dotsL c.ents v)) ∧ Below w.heap.size w w' := by
  obtain ⟨h, hh⟩ : ∃ h, w.heap.size = h := ⟨_, rfl⟩
  obtain ⟨eo, ec, lo, lc, so, sc⟩ := p
  have H0 : Hid (Dl w h c ⟨eo, ec, lo, lc, so, sc⟩ [] none 0 (w.alloc (.cells (ceL c ⟨eo, ec, lo, lc, so, sc⟩).toArray 30))) := ⟨hh ▸ (Below.refl _ _).alloc (Nat.le_refl _) _, hh ▸ has_new w (ceL c ⟨eo, ec, lo, lc, so, sc⟩) _, own_nil _ _ _ _⟩
  have HR : Hid (FRow w eo (flatE c.ents) ∧ w.heap.size = h) := ⟨hr.1, hh⟩
  have hl := hf.1
  rw [hh]
  clear hr hf
  go_enter Try.func16, Try.ntmps16
  go_wp2
  clear hh
  go_loopg [6, 8, 15] c.ents.length (fun n s6 _ iv wr => ∃ (i : Nat) (ao : Option Addr) (ca : Nat), i + n = c.ents.length ∧ iv = .int .i64 i ∧ s6 = .slice ao (dotsL (c.ents.take i) v).length ca ∧ Hid (Dl w h c ⟨eo, ec, lo, lc, so, sc⟩ (dotsL (c.ents.take i) v) ao ca wr))
  case atStart => exact ⟨0, none, 0, by omega, rfl, rfl, H0.out⟩
  case round =>
    clear H0
    obtain ⟨i, ao, ca, hin, rfl, rfl, HD⟩ := hrel
    by_cases hi : i < c.ents.length
    · obtain ⟨bk, off, rfl, hb, hc⟩ := HR.out.1 (by rw [flatE_len]; omega)
      obtain ⟨x, hx⟩ : ∃ x, c.ents[i]? = some x := ⟨_, List.getElem?_eq_getElem hi⟩
      obtain ⟨g0, g1, g2⟩ := flatE_at c.ents i hx
      have hb1 : bk < h := HR.out.2 ▸ hb
      have k0 := (HD.out.1.cell (p := ⟨bk, off + i * 3, none⟩) (by exact hb1)).trans (hc _ _ g0)
      have k1 := (HD.out.1.cell (p := ⟨bk, off + i * 3 + 1, none⟩) (by exact hb1)).trans (hc _ _ g1)
      have k2 := (HD.out.1.cell (p := ⟨bk, off + i * 3 + 2, none⟩) (by exact hb1)).trans (hc _ _ g2)
      have HX : Hid (c.ents[i]? = some x) := hx
      obtain ⟨n1, hn1⟩ : ∃ n, wr.heap.size = n := ⟨_, rfl⟩
      have hbn : bk < n1 := by have := HD.out.2.1.1; omega
      have hal : Below wr.heap.size wr (wr.alloc (.cells #[.int .i64 x.node, .int .i64 x.seq, .string x.val] 65)) := (Below.refl _ _).alloc (Nat.le_refl _) _
      have HE : Hid (Dl w h c ⟨some ⟨bk, off, none⟩, ec, lo, lc, so, sc⟩ (dotsL (c.ents.take i) v) ao ca (wr.alloc (.cells #[.int .i64 x.node, .int .i64 x.seq, .string x.val] 65))) := dl_later HD.out hal
      have hle : (dotsL (c.ents.take i) v).length ≤ i := by
        have := dotsL_le (c.ents.take i) v
        rw [List.length_take] at this
        omega
      clear hc hx g0 g1 g2 hal hb
      cases hq : eqS x.val v with
      | true =>
        have HS : Hid (dotsL (c.ents.take (i + 1)) v = dotsL (c.ents.take i) v ++ [dotE x]) := by
          show dotsL (c.ents.take (i + 1)) v = _
          rw [dotsL_step HX.out, hq]; rfl
        have hq2 : (x.val.toList == v.toList) = true := hq
        clear hq
        generalize dotsL (c.ents.take i) v = l at *
        have R2 : FRow ((wr.alloc (.cells #[.int .i64 x.node, .int .i64 x.seq, .string x.val] 65)).alloc (.cells #[.int .i64 x.node, .int .i64 x.seq] 32)) (some ⟨n1 + 1, 0, none⟩) [.int .i64 x.node, .int .i64 x.seq] := frow_newAt (by simp [hn1]) [.int .i64 x.node, .int .i64 x.seq] _
        go_wp2_with (first
          | (at_builtin
             refine wpList_onto rfl _ _ 33 rfl Try.underlying33 Try.infoDot rfl (by decide) (by decide) (B := h + 1) rfl rfl (own_later HE.out.2.2 ((Below.refl _ _).alloc (Nat.le_refl _) _)) R2 rfl (fun u hu => oneD (l := [dotE x]) (by simpa [flatD] using hu)) (by omega) (by have := HE.out.2.1.1; simp at this ⊢; omega) ?_
             intro bo cb w2 o2 n2 b2
             have H2 : Hid (Dl w h c ⟨some ⟨bk, off, none⟩, ec, lo, lc, so, sc⟩ (l ++ [dotE x]) bo cb w2) := dl_grown HE.out o2 b2
             clear o2 n2 b2))
        go_roundg (gk - 1)
        case measure => omega
        case rel => exact ⟨i + 1, bo, cb, by omega, by go_num, by rw [HS.out]; simp, by rw [HS.out]; exact H2.out⟩
      | false =>
        have HS : Hid (dotsL (c.ents.take (i + 1)) v = dotsL (c.ents.take i) v) := by
          show dotsL (c.ents.take (i + 1)) v = _
          rw [dotsL_step HX.out, hq]; simp
        have hq2 : (x.val.toList == v.toList) = false := hq
        clear hq
        generalize dotsL (c.ents.take i) v = l at *
        go_wp2
        go_roundg (gk - 1)
        case measure => omega
        case rel => exact ⟨i + 1, ao, ca, by omega, by go_num, by rw [HS.out], by rw [HS.out]; exact HE.out⟩
    · have hd : decide ((i : Int) < (c.ents.length : Int)) = false := by simp; omega
      go_wp2
      go_ret2
      have e : i = c.ents.length := by omega
      rw [e, List.take_length] at HD ⊢
      exact ⟨ao, ca, rfl, (own_row HD.out.2.2).mono (by omega), HD.out.1⟩

set_option maxHeartbeats 400000 in
set_option maxRecDepth 100000 in
/-- The document's Dots refuses. -/
theorem rdots_no (c : Ce) (p : Pl) (v : ByteArray) (w : World) (hk : (c.kind != 2) = true) :
    Calls Try.prog 17 #[ceV c p, .string v] w fun e w' => e = .returned (.tuple #[.slice none 0 0, .int .i64 900]) ∧ Below w.heap.size w w' := by
  go_enter Try.func17, Try.ntmps17
  go_wp2
  go_ret2
  exact ⟨rfl, (Below.refl _ _).alloc (Nat.le_refl _) _⟩

set_option maxHeartbeats 1000000 in
set_option maxRecDepth 100000 in
/-- The document's Dots takes it. -/
theorem rdots_yes (c : Ce) (p : Pl) (v : ByteArray) (w : World) (hr : CRow w c p) (hf : Fit c) (hk : (c.kind != 2) = false) :
    Calls Try.prog 17 #[ceV c p, .string v] w fun e w' => ∃ ao ca, e = .returned (.tuple #[.slice ao (dotsL c.ents v).length ca, .int .i64 0]) ∧ FOwn w.heap.size w' ao (flatD (dotsL c.ents v)) ∧ Below w.heap.size w w' := by
  obtain ⟨h, hh⟩ : ∃ h, w.heap.size = h := ⟨_, rfl⟩
  have H0 : Hid (Dl w h c p [] none 0 (w.alloc (.cells (ceL c p).toArray 30))) := ⟨hh ▸ (Below.refl _ _).alloc (Nat.le_refl _) _, hh ▸ has_new w (ceL c p) _, own_nil _ _ _ _⟩
  have HR : Hid (FRow w p.eo (flatE c.ents) ∧ w.heap.size = h) := ⟨hr.1, hh⟩
  have hl := hf.1
  rw [hh]
  clear hr hf
  go_enter Try.func17, Try.ntmps17
  go_wp2
  clear hh
  go_loopg [6, 7] c.ents.length (fun n s6 iv wr => ∃ (i : Nat) (ao : Option Addr) (ca : Nat), i + n = c.ents.length ∧ iv = .int .i64 i ∧ s6 = .slice ao (dotsL (c.ents.take i) v).length ca ∧ Hid (Dl w h c p (dotsL (c.ents.take i) v) ao ca wr))
  case atStart => exact ⟨0, none, 0, by omega, rfl, rfl, H0.out⟩
  case round =>
    clear H0
    obtain ⟨i, ao, ca, hin, rfl, rfl, HD⟩ := hrel
    have t7 := HD.out.2.1.at 7 rfl
    by_cases hi : i < c.ents.length
    · obtain ⟨bk, off, ea, hb, hc⟩ := HR.out.1 (by rw [flatE_len]; omega)
      obtain ⟨x, hx⟩ : ∃ x, c.ents[i]? = some x := ⟨_, List.getElem?_eq_getElem hi⟩
      obtain ⟨g0, g1, g2⟩ := flatE_at c.ents i hx
      have hb1 : bk < h := HR.out.2 ▸ hb
      have k0 := (HD.out.1.cell (p := ⟨bk, off + i * 3, none⟩) (by exact hb1)).trans (hc _ _ g0)
      have k1 := (HD.out.1.cell (p := ⟨bk, off + i * 3 + 1, none⟩) (by exact hb1)).trans (hc _ _ g1)
      have k2 := (HD.out.1.cell (p := ⟨bk, off + i * 3 + 2, none⟩) (by exact hb1)).trans (hc _ _ g2)
      rw [ea] at t7
      have HX : Hid (c.ents[i]? = some x) := hx
      obtain ⟨n1, hn1⟩ : ∃ n, wr.heap.size = n := ⟨_, rfl⟩
      have hle : (dotsL (c.ents.take i) v).length ≤ i := by
        have := dotsL_le (c.ents.take i) v
        rw [List.length_take] at this
        omega
      clear hc hx g0 g1 g2 hb ea
      cases hq : eqS x.val v with
      | true =>
        have HS : Hid (dotsL (c.ents.take (i + 1)) v = dotsL (c.ents.take i) v ++ [dotE x]) := by
          show dotsL (c.ents.take (i + 1)) v = _
          rw [dotsL_step HX.out, hq]; rfl
        have hq2 : (x.val.toList == v.toList) = true := hq
        clear hq
        generalize dotsL (c.ents.take i) v = l at *
        have R2 : FRow (wr.alloc (.cells #[.int .i64 x.node, .int .i64 x.seq] 32)) (some ⟨n1, 0, none⟩) [.int .i64 x.node, .int .i64 x.seq] := frow_newAt hn1 [.int .i64 x.node, .int .i64 x.seq] _
        go_wp2_with (first
          | (at_builtin
             refine wpList_onto rfl _ _ 33 rfl Try.underlying33 Try.infoDot rfl (by decide) (by decide) (B := h + 1) rfl rfl (own_later HD.out.2.2 ((Below.refl _ _).alloc (Nat.le_refl _) _)) R2 rfl (fun u hu => oneD (l := [dotE x]) (by simpa [flatD] using hu)) (by omega) (by have := HD.out.2.1.1; simp at this ⊢; omega) ?_
             intro bo cb w2 o2 n2 b2
             have H2 : Hid (Dl w h c p (l ++ [dotE x]) bo cb w2) := dl_grown HD.out o2 b2
             clear o2 n2 b2))
        go_roundg (gk - 1)
        case measure => omega
        case rel => exact ⟨i + 1, bo, cb, by omega, by go_num, by rw [HS.out]; simp, by rw [HS.out]; exact H2.out⟩
      | false =>
        have HS : Hid (dotsL (c.ents.take (i + 1)) v = dotsL (c.ents.take i) v) := by
          show dotsL (c.ents.take (i + 1)) v = _
          rw [dotsL_step HX.out, hq]; simp
        have hq2 : (x.val.toList == v.toList) = false := hq
        clear hq
        generalize dotsL (c.ents.take i) v = l at *
        go_wp2
        go_roundg (gk - 1)
        case measure => omega
        case rel => exact ⟨i + 1, ao, ca, by omega, by go_num, by rw [HS.out], by rw [HS.out]; exact HD.out⟩
    · have hd : decide ((i : Int) < (c.ents.length : Int)) = false := by simp; omega
      go_wp2
      go_ret2
      have e : i = c.ents.length := by omega
      rw [e, List.take_length] at HD ⊢
      exact ⟨ao, ca, rfl, (own_row HD.out.2.2).mono (by omega), HD.out.1⟩

end Go.Proofs.Ytedgobdeoheaoaa
