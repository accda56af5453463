/-
  Package op's writer: dots, op; and Put, by contracts.
-/
import Derived.Test.YtjfgccjdkflfoaaZPack3
import Derived.Test.YtjfgccjdkflfoaaZWhat11
namespace Go.Proofs.Ytjfgccjdkflfoaa
open Go.RowKit
set_option linter.unusedVariables false
set_option linter.unusedSimpArgs false

/-- A row that lies below B. -/
def FLow (B : Nat) (w : World) (ao : Option Addr) (xs : List Value) : Prop := 0 < xs.length → ∃ b off, ao = some ⟨b, off, none⟩ ∧ b < B ∧ ∀ i u, xs[i]? = some u → w.cell? ⟨b, off + i, none⟩ = some u
theorem FLow.kept {B : Nat} {w w' : World} {ao : Option Addr} {xs : List Value} (h : FLow B w ao xs) (hb : Below B w w') : FLow B w' ao xs := fun h0 => by
  obtain ⟨b, off, e, h1, h2⟩ := h h0
  exact ⟨b, off, e, h1, fun i u hu => (hb.cell (p := ⟨b, off + i, none⟩) (by exact h1)).trans (h2 i u hu)⟩
theorem FLow.of {w : World} {ao : Option Addr} {xs : List Value} (h : FRow w ao xs) : FLow w.heap.size w ao xs := h

set_option maxHeartbeats 2000000 in
set_option maxRecDepth 100000 in
theorem wdots_any (b : Nat) (l : List UInt8) (bo : Option Addr) (cb : Nat) (ds : List D2) (w : World) (h : Wrt b l w) (hr : FLow b w bo (flatD ds)) (h0 : ds.length ≤ 64) (h1 : ∀ y ∈ ds, (0 ≤ y.1 ∧ y.1 < 9223372036854775808) ∧ 0 ≤ y.2 ∧ y.2 < 9223372036854775808) (hl : l.length ≤ 100000) :
    Calls Try.prog 49 #[.pointer (some ⟨b, 0, none⟩), .slice bo ds.length cb] w fun e w' => e = .returned (.tuple #[]) ∧ Wrt b (l ++ (pI ds.length ++ ds.flatMap pD)) w' ∧ WF b w w' := by
  have HR : Hid (FLow b w bo (flatD ds)) := hr
  have HM : Hid (∀ y ∈ ds, (0 ≤ y.1 ∧ y.1 < 9223372036854775808) ∧ 0 ≤ y.2 ∧ y.2 < 9223372036854775808) := h1
  have H0 : Hid (Wrt b l w) := h
  have hn9 := pI_len (ds.length : Int)
  clear hr h1 h
  go_enter Try.func49, Try.ntmps49
  go_wp2_with fail
  refine (wnum_any b l (ds.length : Int) _ H0.out (by omega) (by omega)).mono ?_
  rintro e w1 ⟨rfl, g1, k1⟩
  have H1 : Hid (Wrt b (l ++ pI ds.length) w1 ∧ WF b w w1) := ⟨g1, k1⟩
  clear g1 k1
  go_wp2
  go_loopg [5, 12] ds.length (fun n _ iv wr => ∃ i : Nat, i + n = ds.length ∧ iv = .int .i64 i ∧ Hid (Wrt b (l ++ (pI ds.length ++ (ds.take i).flatMap pD)) wr ∧ WF b w wr ∧ ((ds.take i).flatMap pD).length ≤ 18 * i))
  case atStart => exact ⟨0, by omega, rfl, by simpa using H1.out.1, H1.out.2, by simp⟩
  case round =>
    clear H1
    obtain ⟨i, hin, rfl, HJ⟩ := hrel
    by_cases hi : i < ds.length
    · obtain ⟨x, hx⟩ : ∃ x, ds[i]? = some x := ⟨_, List.getElem?_eq_getElem hi⟩
      obtain ⟨bk, off, rfl, hbk, hc⟩ := HR.out (by rw [flatD_len]; omega)
      have hm := HM.out x (List.mem_of_getElem? hx)
      have HT : Hid ((ds.take (i + 1)).flatMap pD = (ds.take i).flatMap pD ++ pD x) := by
        show List.flatMap pD (ds.take (i + 1)) = _
        rw [List.take_add_one, hx]
        simp
      obtain ⟨x1, x2⟩ := x
      have c0 := (HJ.out.2.1.1.cell (p := ⟨bk, off + i * 2, none⟩) (by exact hbk)).trans (hc _ _ (flatD_at ds i hx).1)
      have c1 := (HJ.out.2.1.1.cell (p := ⟨bk, off + i * 2 + 1, none⟩) (by exact hbk)).trans (hc _ _ (flatD_at ds i hx).2)
      obtain ⟨k, hk⟩ : ∃ k, wr.heap.size = k := ⟨_, rfl⟩
      have hbk2 : b < k := hk ▸ HJ.out.1.lt
      have hal : Below wr.heap.size wr (wr.alloc (.cells #[.int .i64 x1, .int .i64 x2] 23)) := (Below.refl _ _).alloc (Nat.le_refl _) _
      have H2 : Hid (Wrt b (l ++ (pI ds.length ++ (ds.take i).flatMap pD)) (wr.alloc (.cells #[.int .i64 x1, .int .i64 x2] 23)) ∧ Box (wr.alloc (.cells #[.int .i64 x1, .int .i64 x2] 23)) k 23 [.int .i64 x1, .int .i64 x2] ∧ WF b w (wr.alloc (.cells #[.int .i64 x1, .int .i64 x2] 23))) :=
        ⟨HJ.out.1.later hal, box_new hk _ [.int .i64 x1, .int .i64 x2], HJ.out.2.1.trans (WF.of hal (by omega))⟩
      clear hal hx hc
      go_upto_region 4 with fail
      generalize hW : wr.alloc (.cells #[.int .i64 x1, .int .i64 x2] 23) = w2 at H2 ⊢
      clear hW hk c0 c1
      obtain ⟨c0, c1⟩ := (⟨H2.out.2.1.has.at 0 rfl, H2.out.2.1.has.at 1 rfl⟩ : w2.cell? ⟨k, 0, none⟩ = some (.int .i64 x1) ∧ w2.cell? ⟨k, 1, none⟩ = some (.int .i64 x2))
      go_wp2_with fail
      refine (wdot_any b _ x1 x2 _ H2.out.1 hm.1 hm.2 (by have := HJ.out.2.2; simp only [List.length_append]; omega)).mono ?_
      rintro e w3 ⟨rfl, g3, k3⟩
      have H3 : Hid (Wrt b (l ++ (pI ds.length ++ (ds.take (i + 1)).flatMap pD)) w3 ∧ WF b w w3 ∧ ((ds.take (i + 1)).flatMap pD).length ≤ 18 * (i + 1)) := by
        rw [HT.out]
        refine ⟨by simpa using g3, H2.out.2.2.trans k3, ?_⟩
        have h1 := HJ.out.2.2
        have h2 := pI_len x1
        have h3 := pI_len x2
        simp only [List.length_append, pD]
        omega
      clear g3 k3
      go_wp2
      go_roundg (gk - 1)
      case measure => omega
      case rel => exact ⟨i + 1, by omega, by go_num, H3.out⟩
    · have hd : decide ((i : Int) < (ds.length : Int)) = false := by simp; omega
      go_wp2
      first | go_ret | go_end0
      refine ⟨rfl, ?_, HJ.out.2.1⟩
      have := HJ.out.1
      rwa [List.take_of_length_le (by omega)] at this

/-- What the writing of an operation keeps. -/
def WS (w : World) (b k : Nat) (o : O14) (q : Pq) (l : List UInt8) (W : World) : Prop := Wrt b l W ∧ Box W k 29 (oL o q) ∧ WF b w W ∧ b < k ∧ l.length ≤ 2000
theorem WS.next {w W W' : World} {b k : Nat} {o : O14} {q : Pq} {l l' : List UInt8} (H : WS w b k o q l W) (h : Wrt b l' W') (hw : WF b W W') (hl : l'.length ≤ 2000) : WS w b k o q l' W' :=
  ⟨h, H.2.1.kept hw H.2.2.2.1 (by decide), H.2.2.1.trans hw, H.2.2.2.1, hl⟩
theorem pT_len (s : ByteArray) : (pT s).length ≤ s.size + 9 := by
  have := Vi.put_length_le s.size
  unfold pT
  rw [List.length_append, size_list]
  omega
theorem flatI_le (l : List Int) : (l.flatMap pI).length ≤ 9 * l.length := by
  induction l with
  | nil => simp
  | cons a l ih =>
    have := pI_len a
    simp only [List.flatMap_cons, List.length_append, List.length_cons]
    omega
theorem flatD_le (l : List D2) : (l.flatMap pD).length ≤ 18 * l.length := by
  induction l with
  | nil => simp
  | cons a l ih =>
    have := pI_len a.1
    have := pI_len a.2
    simp only [List.flatMap_cons, List.length_append, List.length_cons, pD]
    omega

set_option maxHeartbeats 400000 in
theorem fold_any (x : Int) (w : World) (h : winB x = true) : Calls Try.prog 48 #[.int .i64 x] w fun e w' => e = .returned (.int .i64 (foldI x)) ∧ w' = w := by
  have hb : -1099511627776 ≤ x ∧ x ≤ 1099511627776 := of_decide_eq_true h
  unfold foldI
  by_cases h0 : x < 0
  · rw [if_pos h0]
    go_enter Try.func48, Try.ntmps48
    go_wp2
    go_ret
    exact ⟨by go_num, rfl⟩
  · rw [if_neg h0]
    go_enter Try.func48, Try.ntmps48
    go_wp2
    go_ret
    exact ⟨by go_num, rfl⟩

set_option maxHeartbeats 8000000 in
set_option maxRecDepth 100000 in
theorem wop_any (b : Nat) (o : O14) (q : Pq) (w : World) (h : Wrt b [] w) (F : FitO o) (hp : FLow b w q.po (flatI o.deps)) (hq : FLow b w q.qo (flatD o.dots)) :
    Calls Try.prog 22 #[.pointer (some ⟨b, 0, none⟩), oV o q] w fun e w' => e = .returned (.tuple #[]) ∧ Wrt b (putO o) w' ∧ WF b w w' := by
  obtain ⟨k, hk⟩ : ∃ k, w.heap.size = k := ⟨_, rfl⟩
  have hal : Below w.heap.size w (w.alloc (.cells (oL o q).toArray 29)) := (Below.refl _ _).alloc (Nat.le_refl _) _
  have H1 : Hid (WS w b k o q [] (w.alloc (.cells (oL o q).toArray 29))) := ⟨h.later hal, box_new hk _ _, WF.of hal (Nat.le_of_lt h.lt), hk ▸ h.lt, by simp⟩
  have HF : Hid (FitO o) := F
  have HP : Hid (FLow b w q.po (flatI o.deps)) := hp
  have HQ : Hid (FLow b w q.qo (flatD o.dots)) := hq
  clear hal F hp hq h
  obtain ⟨dn, ds, time, deps, kind, ty, idd, field, value, re, im, rn, rs, dots⟩ := o
  obtain ⟨po, pc, qo, qc⟩ := q
  have hl0 := pI_len dn
  have hl1 := pI_len ds
  have hl2 := pI_len time
  have hl3 := flatI_le deps
  have hl4 := HF.out.len
  have hl5 := pI_len kind
  have hl6 := pT_len ty
  have hl7 := pT_len idd
  have hl8 := pT_len field
  have hl9 := HF.out.type
  have hl10 := HF.out.id
  have hl11 := HF.out.field
  simp only at hl4 hl9 hl10 hl11
  go_enter Try.func22, Try.ntmps22
  go_upto_region 1 with fail
  generalize hW : w.alloc (.cells (oL ⟨dn, ds, time, deps, kind, ty, idd, field, value, re, im, rn, rs, dots⟩ ⟨po, pc, qo, qc⟩).toArray 29) = w1 at H1 ⊢
  clear hW hk
  obtain ⟨g0, g1, g2, g3, g4, g5, g6, g7, g8, g9, g10, g11, g12, g13⟩ := (show Has w1 k (oL ⟨dn, ds, time, deps, kind, ty, idd, field, value, re, im, rn, rs, dots⟩ ⟨po, pc, qo, qc⟩) from H1.out.2.1.has).f14
  go_wp2_with fail
  refine (wdot_any b _ dn ds _ H1.out.1 HF.out.dn HF.out.ds (by simp)).mono ?_
  rintro e w2 ⟨rfl, gg, kk⟩
  have H2 : Hid (WS w b k ⟨dn, ds, time, deps, kind, ty, idd, field, value, re, im, rn, rs, dots⟩ ⟨po, pc, qo, qc⟩ ([] ++ pD (dn, ds)) w2) := H1.out.next gg kk (by simp only [List.length_append, List.length_nil, pD, List.length_cons]; omega)
  clear gg kk g0 g1 g2 g3 g4 g5 g6 g7 g8 g9 g10 g11 g12 g13 H1
  obtain ⟨g0, g1, g2, g3, g4, g5, g6, g7, g8, g9, g10, g11, g12, g13⟩ := (show Has w2 k (oL ⟨dn, ds, time, deps, kind, ty, idd, field, value, re, im, rn, rs, dots⟩ ⟨po, pc, qo, qc⟩) from H2.out.2.1.has).f14
  go_wp2_with fail
  refine (wnum_any b _ time _ H2.out.1 HF.out.time (by have := H2.out.2.2.2.2; omega)).mono ?_
  rintro e w3 ⟨rfl, gg, kk⟩
  have H3 : Hid (WS w b k ⟨dn, ds, time, deps, kind, ty, idd, field, value, re, im, rn, rs, dots⟩ ⟨po, pc, qo, qc⟩ (([] ++ pD (dn, ds)) ++ pI time) w3) := H2.out.next gg kk (by simp only [List.length_append, List.length_nil, pD, List.length_cons]; omega)
  clear gg kk g0 g1 g2 g3 g4 g5 g6 g7 g8 g9 g10 g11 g12 g13 H2
  obtain ⟨g0, g1, g2, g3, g4, g5, g6, g7, g8, g9, g10, g11, g12, g13⟩ := (show Has w3 k (oL ⟨dn, ds, time, deps, kind, ty, idd, field, value, re, im, rn, rs, dots⟩ ⟨po, pc, qo, qc⟩) from H3.out.2.1.has).f14
  go_wp2
  clear g0 g1 g2 g3 g4 g5 g6 g7 g8 g9 g10 g11 g12 g13
  go_loopg [5, 19] deps.length (fun n _ iv wr => ∃ i : Nat, i + n = deps.length ∧ iv = .int .i64 i ∧ Hid (WS w b k ⟨dn, ds, time, deps, kind, ty, idd, field, value, re, im, rn, rs, dots⟩ ⟨po, pc, qo, qc⟩ ((([] ++ pD (dn, ds)) ++ pI time) ++ (deps.take i).flatMap pI) wr))
  case atStart => exact ⟨0, by omega, rfl, by show WS w b k ⟨dn, ds, time, deps, kind, ty, idd, field, value, re, im, rn, rs, dots⟩ ⟨po, pc, qo, qc⟩ _ _; simpa using H3.out⟩
  case round =>
    clear H3
    obtain ⟨i, hin, rfl, HJ⟩ := hrel
    by_cases hi : i < deps.length
    · obtain ⟨x, hx⟩ : ∃ x, deps[i]? = some x := ⟨_, List.getElem?_eq_getElem hi⟩
      obtain ⟨bk, off, rfl, hbk, hc⟩ := HP.out (by rw [flatI_len]; omega)
      have hm := HF.out.deps x (List.mem_of_getElem? hx)
      have HT : Hid ((deps.take (i + 1)).flatMap pI = (deps.take i).flatMap pI ++ pI x) := by
        show List.flatMap pI (deps.take (i + 1)) = _
        rw [List.take_add_one, hx]
        simp
      have c0 := (HJ.out.2.2.1.1.cell (p := ⟨bk, off + i, none⟩) (by exact hbk)).trans (hc i (.int .i64 x) (by simp [flatI, hx]))
      clear hx hc
      go_wp2_with fail
      refine (wnum_any b _ x _ HJ.out.1 hm (by have := HJ.out.2.2.2.2; omega)).mono ?_
      rintro e w4 ⟨rfl, gg, kk⟩
      have H4 : Hid (WS w b k ⟨dn, ds, time, deps, kind, ty, idd, field, value, re, im, rn, rs, dots⟩ ⟨some ⟨bk, off, none⟩, pc, qo, qc⟩ ((([] ++ pD (dn, ds)) ++ pI time) ++ (deps.take (i + 1)).flatMap pI) w4) := by
        rw [HT.out]
        refine HJ.out.next (by simpa using gg) kk ?_
        have h1 := flatI_le (deps.take i)
        have h2 : (deps.take i).length ≤ 16 := by rw [List.length_take]; omega
        have h3 := pI_len x
        simp only [List.length_append, List.length_nil, pD, List.length_cons]
        omega
      clear gg kk
      go_wp2
      go_roundg (gk - 1)
      case measure => omega
      case rel => exact ⟨i + 1, by omega, by go_num, H4.out⟩
    · have hd : decide ((i : Int) < (deps.length : Int)) = false := by simp; omega
      have H4 : Hid (WS w b k ⟨dn, ds, time, deps, kind, ty, idd, field, value, re, im, rn, rs, dots⟩ ⟨po, pc, qo, qc⟩ ((([] ++ pD (dn, ds)) ++ pI time) ++ deps.flatMap pI) wr) := by
        have := HJ.out
        rwa [List.take_of_length_le (by omega)] at this
      clear HJ
      obtain ⟨w4, rfl⟩ : ∃ z, z = wr := ⟨_, rfl⟩
      obtain ⟨g0, g1, g2, g3, g4, g5, g6, g7, g8, g9, g10, g11, g12, g13⟩ := (show Has w4 k (oL ⟨dn, ds, time, deps, kind, ty, idd, field, value, re, im, rn, rs, dots⟩ ⟨po, pc, qo, qc⟩) from H4.out.2.1.has).f14
      go_wp2_with fail
      refine (wnum_any b _ kind _ H4.out.1 (by have := HF.out.kind; simp only at this; omega) (by have := H4.out.2.2.2.2; omega)).mono ?_
      rintro e w5 ⟨rfl, gg, kk⟩
      have H5 : Hid (WS w b k ⟨dn, ds, time, deps, kind, ty, idd, field, value, re, im, rn, rs, dots⟩ ⟨po, pc, qo, qc⟩ (((([] ++ pD (dn, ds)) ++ pI time) ++ deps.flatMap pI) ++ pI kind) w5) := H4.out.next gg kk (by simp only [List.length_append, List.length_nil, pD, List.length_cons]; omega)
      clear gg kk g0 g1 g2 g3 g4 g5 g6 g7 g8 g9 g10 g11 g12 g13 H4
      obtain ⟨g0, g1, g2, g3, g4, g5, g6, g7, g8, g9, g10, g11, g12, g13⟩ := (show Has w5 k (oL ⟨dn, ds, time, deps, kind, ty, idd, field, value, re, im, rn, rs, dots⟩ ⟨po, pc, qo, qc⟩) from H5.out.2.1.has).f14
      go_wp2_with fail
      refine (wtext_any b _ ty _ H5.out.1 (by have := HF.out.type; simp only at this; omega) (by have := H5.out.2.2.2.2; omega)).mono ?_
      rintro e w6 ⟨rfl, gg, kk⟩
      have hty := HF.out.type
      have H6 : Hid (WS w b k ⟨dn, ds, time, deps, kind, ty, idd, field, value, re, im, rn, rs, dots⟩ ⟨po, pc, qo, qc⟩ ((((([] ++ pD (dn, ds)) ++ pI time) ++ deps.flatMap pI) ++ pI kind) ++ pT ty) w6) := H5.out.next gg kk (by simp only [List.length_append, List.length_nil, pD, List.length_cons]; omega)
      clear gg kk g0 g1 g2 g3 g4 g5 g6 g7 g8 g9 g10 g11 g12 g13 H5
      obtain ⟨g0, g1, g2, g3, g4, g5, g6, g7, g8, g9, g10, g11, g12, g13⟩ := (show Has w6 k (oL ⟨dn, ds, time, deps, kind, ty, idd, field, value, re, im, rn, rs, dots⟩ ⟨po, pc, qo, qc⟩) from H6.out.2.1.has).f14
      go_wp2_with fail
      refine (wtext_any b _ idd _ H6.out.1 (by have := HF.out.id; simp only at this; omega) (by have := H6.out.2.2.2.2; omega)).mono ?_
      rintro e w7 ⟨rfl, gg, kk⟩
      have H7 : Hid (WS w b k ⟨dn, ds, time, deps, kind, ty, idd, field, value, re, im, rn, rs, dots⟩ ⟨po, pc, qo, qc⟩ (((((([] ++ pD (dn, ds)) ++ pI time) ++ deps.flatMap pI) ++ pI kind) ++ pT ty) ++ pT idd) w7) := H6.out.next gg kk (by simp only [List.length_append, List.length_nil, pD, List.length_cons]; omega)
      clear gg kk g0 g1 g2 g3 g4 g5 g6 g7 g8 g9 g10 g11 g12 g13 H6
      obtain ⟨g0, g1, g2, g3, g4, g5, g6, g7, g8, g9, g10, g11, g12, g13⟩ := (show Has w7 k (oL ⟨dn, ds, time, deps, kind, ty, idd, field, value, re, im, rn, rs, dots⟩ ⟨po, pc, qo, qc⟩) from H7.out.2.1.has).f14
      go_wp2_with fail
      refine (wtext_any b _ field _ H7.out.1 (by have := HF.out.field; simp only at this; omega) (by have := H7.out.2.2.2.2; omega)).mono ?_
      rintro e w8 ⟨rfl, gg, kk⟩
      have H8 : Hid (WS w b k ⟨dn, ds, time, deps, kind, ty, idd, field, value, re, im, rn, rs, dots⟩ ⟨po, pc, qo, qc⟩ ((((((([] ++ pD (dn, ds)) ++ pI time) ++ deps.flatMap pI) ++ pI kind) ++ pT ty) ++ pT idd) ++ pT field) w8) := H7.out.next gg kk (by simp only [List.length_append, List.length_nil, pD, List.length_cons]; omega)
      clear gg kk g0 g1 g2 g3 g4 g5 g6 g7 g8 g9 g10 g11 g12 g13 H7
      obtain ⟨g0, g1, g2, g3, g4, g5, g6, g7, g8, g9, g10, g11, g12, g13⟩ := (show Has w8 k (oL ⟨dn, ds, time, deps, kind, ty, idd, field, value, re, im, rn, rs, dots⟩ ⟨po, pc, qo, qc⟩) from H8.out.2.1.has).f14
      go_wp2_with fail
      refine (parts_any kind _).mono ?_
      rintro e w9 ⟨rfl, b9⟩
      obtain ⟨kp, hkp⟩ : ∃ k, w9.heap.size = k := ⟨_, rfl⟩
      have H9 : Hid (WS w b k ⟨dn, ds, time, deps, kind, ty, idd, field, value, re, im, rn, rs, dots⟩ ⟨po, pc, qo, qc⟩ (headO ⟨dn, ds, time, deps, kind, ty, idd, field, value, re, im, rn, rs, dots⟩) (w9.alloc (.cells (pL kind).toArray 77)) ∧ Box (w9.alloc (.cells (pL kind).toArray 77)) kp 77 (pL kind) ∧ b < kp) := by
        have e : headO ⟨dn, ds, time, deps, kind, ty, idd, field, value, re, im, rn, rs, dots⟩ = (((((([] ++ pD (dn, ds)) ++ pI time) ++ deps.flatMap pI) ++ pI kind) ++ pT ty) ++ pT idd) ++ pT field := by unfold headO pD; simp
        rw [e]
        have hb1 : b ≤ w8.heap.size := Nat.le_of_lt H8.out.1.lt
        have hb : Below w8.heap.size w8 (w9.alloc (.cells (pL kind).toArray 77)) := b9.alloc b9.size _
        exact ⟨H8.out.next (H8.out.1.later hb) (WF.of hb hb1) H8.out.2.2.2.2, box_new hkp _ _, by have := H8.out.1.lt; have := b9.size; omega⟩
      clear H8 b9 g0 g1 g2 g3 g4 g5 g6 g7 g8 g9 g10 g11 g12 g13
      go_upto_region 13 with fail
      generalize hW : w9.alloc (.cells (pL kind).toArray 77) = v0 at H9 ⊢
      clear hW hkp
      have hh8 : Hid ((headO ⟨dn, ds, time, deps, kind, ty, idd, field, value, re, im, rn, rs, dots⟩).length ≤ 600) := by
        have h1 := flatI_le deps
        have h2 := HF.out.type
        have h3 := HF.out.id
        have h4 := HF.out.field
        have h5 := HF.out.len
        have := pI_len dn
        have := pI_len ds
        have := pI_len time
        have := pI_len kind
        have := pT_len ty
        have := pT_len idd
        have := pT_len field
        show (headO ⟨dn, ds, time, deps, kind, ty, idd, field, value, re, im, rn, rs, dots⟩).length ≤ 600
        unfold headO
        simp only [List.length_append]
        simp only at h2 h3 h4 h5
        omega
      have hK := HF.out.kind
      have hk6 : kind = 0 ∨ kind = 1 ∨ kind = 2 ∨ kind = 3 ∨ kind = 4 ∨ kind = 5 := by simp only at hK; omega
      clear hK
      have HF8 := HF
      rcases hk6 with rfl | rfl | rfl | rfl | rfl | rfl
      · have c1 : pNum 0 = false := rfl
        have c2 : pDot 0 = false := rfl
        have c3 : pRef 0 = false := rfl
        have c4 : pVal 0 = true := rfl
        obtain ⟨g0, g1, g2, g3, g4, g5, g6, g7, g8, g9, g10, g11, g12, g13⟩ := (show Has v0 k (oL ⟨dn, ds, time, deps, 0, ty, idd, field, value, re, im, rn, rs, dots⟩ ⟨po, pc, qo, qc⟩) from H9.out.1.2.1.has).f14
        obtain ⟨p0, p1, p2, p3, p4⟩ := (show Has v0 kp (pL 0) from H9.out.2.1.has).fiveP
        rw [c1] at p1
        rw [c2] at p2
        rw [c3] at p3
        rw [c4] at p4
        go_wp2_with fail
        refine (wtext_any b _ value _ H9.out.1.1 (by have := HF.out.value; simp only at this; omega) (by have := H9.out.1.2.2.2.2; omega)).mono ?_
        rintro e v1 ⟨rfl, gg, kk⟩
        have H10 : Hid (WS w b k ⟨dn, ds, time, deps, 0, ty, idd, field, value, re, im, rn, rs, dots⟩ ⟨po, pc, qo, qc⟩ (headO ⟨dn, ds, time, deps, 0, ty, idd, field, value, re, im, rn, rs, dots⟩ ++ pT value) v1 ∧ Box v1 kp 77 (pL 0) ∧ b < kp) := ⟨H9.out.1.next gg kk (by have := hh8.out; have := pT_len value; have := HF.out.value; simp only at this; have := pI_len rn; have := pI_len rs; simp only [List.length_append, pD]; omega), H9.out.2.1.kept kk H9.out.2.2 (by decide), H9.out.2.2⟩
        clear gg kk H9 g0 g1 g2 g3 g4 g5 g6 g7 g8 g9 g10 g11 g12 g13 p0 p1 p2 p3 p4
        have H9 := H10
        clear H10
        obtain ⟨g0, g1, g2, g3, g4, g5, g6, g7, g8, g9, g10, g11, g12, g13⟩ := (show Has v1 k (oL ⟨dn, ds, time, deps, 0, ty, idd, field, value, re, im, rn, rs, dots⟩ ⟨po, pc, qo, qc⟩) from H9.out.1.2.1.has).f14
        obtain ⟨p0, p1, p2, p3, p4⟩ := (show Has v1 kp (pL 0) from H9.out.2.1.has).fiveP
        rw [c1] at p1
        rw [c2] at p2
        rw [c3] at p3
        rw [c4] at p4
        go_wp2
        first | go_ret | go_end0
        exact ⟨rfl, by have := H9.out.1.1; simpa [putO, tailO, pD] using this, H9.out.1.2.2.1⟩
      · have c1 : pNum 1 = true := rfl
        have c2 : pDot 1 = false := rfl
        have c3 : pRef 1 = false := rfl
        have c4 : pVal 1 = false := rfl
        obtain ⟨g0, g1, g2, g3, g4, g5, g6, g7, g8, g9, g10, g11, g12, g13⟩ := (show Has v0 k (oL ⟨dn, ds, time, deps, 1, ty, idd, field, value, re, im, rn, rs, dots⟩ ⟨po, pc, qo, qc⟩) from H9.out.1.2.1.has).f14
        obtain ⟨p0, p1, p2, p3, p4⟩ := (show Has v0 kp (pL 1) from H9.out.2.1.has).fiveP
        rw [c1] at p1
        rw [c2] at p2
        rw [c3] at p3
        rw [c4] at p4
        have hfo := fold_small (HF.out.num rfl).1
        go_wp2_with fail
        refine (fold_any re _ (HF.out.num rfl).1).mono ?_
        rintro e u0 ⟨rfl, hu0⟩
        have hu1 := hu0.symm
        clear hu0
        subst hu1
        go_wp2_with fail
        refine (wnum_any b _ (foldI re) _ H9.out.1.1 hfo (by have := H9.out.1.2.2.2.2; omega)).mono ?_
        rintro e v1 ⟨rfl, gg, kk⟩
        have H10 : Hid (WS w b k ⟨dn, ds, time, deps, 1, ty, idd, field, value, re, im, rn, rs, dots⟩ ⟨po, pc, qo, qc⟩ (headO ⟨dn, ds, time, deps, 1, ty, idd, field, value, re, im, rn, rs, dots⟩ ++ pI (foldI re)) v1 ∧ Box v1 kp 77 (pL 1) ∧ b < kp) := ⟨H9.out.1.next gg kk (by have := hh8.out; have := pI_len (foldI re); have := pI_len (foldI im); simp only [List.length_append, pD]; omega), H9.out.2.1.kept kk H9.out.2.2 (by decide), H9.out.2.2⟩
        clear gg kk H9 g0 g1 g2 g3 g4 g5 g6 g7 g8 g9 g10 g11 g12 g13 p0 p1 p2 p3 p4
        have H9 := H10
        clear H10
        obtain ⟨g0, g1, g2, g3, g4, g5, g6, g7, g8, g9, g10, g11, g12, g13⟩ := (show Has v1 k (oL ⟨dn, ds, time, deps, 1, ty, idd, field, value, re, im, rn, rs, dots⟩ ⟨po, pc, qo, qc⟩) from H9.out.1.2.1.has).f14
        obtain ⟨p0, p1, p2, p3, p4⟩ := (show Has v1 kp (pL 1) from H9.out.2.1.has).fiveP
        rw [c1] at p1
        rw [c2] at p2
        rw [c3] at p3
        rw [c4] at p4
        have hfo := fold_small (HF.out.num rfl).2
        go_wp2_with fail
        refine (fold_any im _ (HF.out.num rfl).2).mono ?_
        rintro e u0 ⟨rfl, hu0⟩
        have hu1 := hu0.symm
        clear hu0
        subst hu1
        go_wp2_with fail
        refine (wnum_any b _ (foldI im) _ H9.out.1.1 hfo (by have := H9.out.1.2.2.2.2; omega)).mono ?_
        rintro e v2 ⟨rfl, gg, kk⟩
        have H10 : Hid (WS w b k ⟨dn, ds, time, deps, 1, ty, idd, field, value, re, im, rn, rs, dots⟩ ⟨po, pc, qo, qc⟩ (headO ⟨dn, ds, time, deps, 1, ty, idd, field, value, re, im, rn, rs, dots⟩ ++ pI (foldI re) ++ pI (foldI im)) v2 ∧ Box v2 kp 77 (pL 1) ∧ b < kp) := ⟨H9.out.1.next gg kk (by have := hh8.out; have := pI_len (foldI re); have := pI_len (foldI im); simp only [List.length_append, pD]; omega), H9.out.2.1.kept kk H9.out.2.2 (by decide), H9.out.2.2⟩
        clear gg kk H9 g0 g1 g2 g3 g4 g5 g6 g7 g8 g9 g10 g11 g12 g13 p0 p1 p2 p3 p4
        have H9 := H10
        clear H10
        obtain ⟨g0, g1, g2, g3, g4, g5, g6, g7, g8, g9, g10, g11, g12, g13⟩ := (show Has v2 k (oL ⟨dn, ds, time, deps, 1, ty, idd, field, value, re, im, rn, rs, dots⟩ ⟨po, pc, qo, qc⟩) from H9.out.1.2.1.has).f14
        obtain ⟨p0, p1, p2, p3, p4⟩ := (show Has v2 kp (pL 1) from H9.out.2.1.has).fiveP
        rw [c1] at p1
        rw [c2] at p2
        rw [c3] at p3
        rw [c4] at p4
        go_wp2
        first | go_ret | go_end0
        exact ⟨rfl, by have := H9.out.1.1; simpa [putO, tailO, pD] using this, H9.out.1.2.2.1⟩
      · have c1 : pNum 2 = false := rfl
        have c2 : pDot 2 = false := rfl
        have c3 : pRef 2 = false := rfl
        have c4 : pVal 2 = true := rfl
        obtain ⟨g0, g1, g2, g3, g4, g5, g6, g7, g8, g9, g10, g11, g12, g13⟩ := (show Has v0 k (oL ⟨dn, ds, time, deps, 2, ty, idd, field, value, re, im, rn, rs, dots⟩ ⟨po, pc, qo, qc⟩) from H9.out.1.2.1.has).f14
        obtain ⟨p0, p1, p2, p3, p4⟩ := (show Has v0 kp (pL 2) from H9.out.2.1.has).fiveP
        rw [c1] at p1
        rw [c2] at p2
        rw [c3] at p3
        rw [c4] at p4
        go_wp2_with fail
        refine (wtext_any b _ value _ H9.out.1.1 (by have := HF.out.value; simp only at this; omega) (by have := H9.out.1.2.2.2.2; omega)).mono ?_
        rintro e v1 ⟨rfl, gg, kk⟩
        have H10 : Hid (WS w b k ⟨dn, ds, time, deps, 2, ty, idd, field, value, re, im, rn, rs, dots⟩ ⟨po, pc, qo, qc⟩ (headO ⟨dn, ds, time, deps, 2, ty, idd, field, value, re, im, rn, rs, dots⟩ ++ pT value) v1 ∧ Box v1 kp 77 (pL 2) ∧ b < kp) := ⟨H9.out.1.next gg kk (by have := hh8.out; have := pT_len value; have := HF.out.value; simp only at this; have := pI_len rn; have := pI_len rs; simp only [List.length_append, pD]; omega), H9.out.2.1.kept kk H9.out.2.2 (by decide), H9.out.2.2⟩
        clear gg kk H9 g0 g1 g2 g3 g4 g5 g6 g7 g8 g9 g10 g11 g12 g13 p0 p1 p2 p3 p4
        have H9 := H10
        clear H10
        obtain ⟨g0, g1, g2, g3, g4, g5, g6, g7, g8, g9, g10, g11, g12, g13⟩ := (show Has v1 k (oL ⟨dn, ds, time, deps, 2, ty, idd, field, value, re, im, rn, rs, dots⟩ ⟨po, pc, qo, qc⟩) from H9.out.1.2.1.has).f14
        obtain ⟨p0, p1, p2, p3, p4⟩ := (show Has v1 kp (pL 2) from H9.out.2.1.has).fiveP
        rw [c1] at p1
        rw [c2] at p2
        rw [c3] at p3
        rw [c4] at p4
        go_wp2
        first | go_ret | go_end0
        exact ⟨rfl, by have := H9.out.1.1; simpa [putO, tailO, pD] using this, H9.out.1.2.2.1⟩
      · have c1 : pNum 3 = false := rfl
        have c2 : pDot 3 = true := rfl
        have c3 : pRef 3 = false := rfl
        have c4 : pVal 3 = false := rfl
        obtain ⟨g0, g1, g2, g3, g4, g5, g6, g7, g8, g9, g10, g11, g12, g13⟩ := (show Has v0 k (oL ⟨dn, ds, time, deps, 3, ty, idd, field, value, re, im, rn, rs, dots⟩ ⟨po, pc, qo, qc⟩) from H9.out.1.2.1.has).f14
        obtain ⟨p0, p1, p2, p3, p4⟩ := (show Has v0 kp (pL 3) from H9.out.2.1.has).fiveP
        rw [c1] at p1
        rw [c2] at p2
        rw [c3] at p3
        rw [c4] at p4
        go_wp2_with fail
        refine (wdots_any b _ qo qc dots _ H9.out.1.1 (HQ.out.kept H9.out.1.2.2.1.1) HF.out.dots.1 HF.out.dots.2 (by have := H9.out.1.2.2.2.2; omega)).mono ?_
        rintro e v1 ⟨rfl, gg, kk⟩
        have H10 : Hid (WS w b k ⟨dn, ds, time, deps, 3, ty, idd, field, value, re, im, rn, rs, dots⟩ ⟨po, pc, qo, qc⟩ (headO ⟨dn, ds, time, deps, 3, ty, idd, field, value, re, im, rn, rs, dots⟩ ++ (pI dots.length ++ dots.flatMap pD)) v1 ∧ Box v1 kp 77 (pL 3) ∧ b < kp) := ⟨H9.out.1.next gg kk (by have := hh8.out; have := pI_len dots.length; have := flatD_le dots; have := HF.out.dots.1; simp only at this; simp only [List.length_append, pD]; omega), H9.out.2.1.kept kk H9.out.2.2 (by decide), H9.out.2.2⟩
        clear gg kk H9 g0 g1 g2 g3 g4 g5 g6 g7 g8 g9 g10 g11 g12 g13 p0 p1 p2 p3 p4
        have H9 := H10
        clear H10
        obtain ⟨g0, g1, g2, g3, g4, g5, g6, g7, g8, g9, g10, g11, g12, g13⟩ := (show Has v1 k (oL ⟨dn, ds, time, deps, 3, ty, idd, field, value, re, im, rn, rs, dots⟩ ⟨po, pc, qo, qc⟩) from H9.out.1.2.1.has).f14
        obtain ⟨p0, p1, p2, p3, p4⟩ := (show Has v1 kp (pL 3) from H9.out.2.1.has).fiveP
        rw [c1] at p1
        rw [c2] at p2
        rw [c3] at p3
        rw [c4] at p4
        go_wp2
        first | go_ret | go_end0
        exact ⟨rfl, by have := H9.out.1.1; simpa [putO, tailO, pD] using this, H9.out.1.2.2.1⟩
      · have c1 : pNum 4 = false := rfl
        have c2 : pDot 4 = false := rfl
        have c3 : pRef 4 = true := rfl
        have c4 : pVal 4 = true := rfl
        obtain ⟨g0, g1, g2, g3, g4, g5, g6, g7, g8, g9, g10, g11, g12, g13⟩ := (show Has v0 k (oL ⟨dn, ds, time, deps, 4, ty, idd, field, value, re, im, rn, rs, dots⟩ ⟨po, pc, qo, qc⟩) from H9.out.1.2.1.has).f14
        obtain ⟨p0, p1, p2, p3, p4⟩ := (show Has v0 kp (pL 4) from H9.out.2.1.has).fiveP
        rw [c1] at p1
        rw [c2] at p2
        rw [c3] at p3
        rw [c4] at p4
        go_wp2_with fail
        refine (wdot_any b _ rn rs _ H9.out.1.1 HF.out.ref.1 HF.out.ref.2 (by have := H9.out.1.2.2.2.2; omega)).mono ?_
        rintro e v1 ⟨rfl, gg, kk⟩
        have H10 : Hid (WS w b k ⟨dn, ds, time, deps, 4, ty, idd, field, value, re, im, rn, rs, dots⟩ ⟨po, pc, qo, qc⟩ (headO ⟨dn, ds, time, deps, 4, ty, idd, field, value, re, im, rn, rs, dots⟩ ++ pD (rn, rs)) v1 ∧ Box v1 kp 77 (pL 4) ∧ b < kp) := ⟨H9.out.1.next gg kk (by have := hh8.out; have := pI_len rn; have := pI_len rs; simp only [List.length_append, pD]; omega), H9.out.2.1.kept kk H9.out.2.2 (by decide), H9.out.2.2⟩
        clear gg kk H9 g0 g1 g2 g3 g4 g5 g6 g7 g8 g9 g10 g11 g12 g13 p0 p1 p2 p3 p4
        have H9 := H10
        clear H10
        obtain ⟨g0, g1, g2, g3, g4, g5, g6, g7, g8, g9, g10, g11, g12, g13⟩ := (show Has v1 k (oL ⟨dn, ds, time, deps, 4, ty, idd, field, value, re, im, rn, rs, dots⟩ ⟨po, pc, qo, qc⟩) from H9.out.1.2.1.has).f14
        obtain ⟨p0, p1, p2, p3, p4⟩ := (show Has v1 kp (pL 4) from H9.out.2.1.has).fiveP
        rw [c1] at p1
        rw [c2] at p2
        rw [c3] at p3
        rw [c4] at p4
        go_wp2_with fail
        refine (wtext_any b _ value _ H9.out.1.1 (by have := HF.out.value; simp only at this; omega) (by have := H9.out.1.2.2.2.2; omega)).mono ?_
        rintro e v2 ⟨rfl, gg, kk⟩
        have H10 : Hid (WS w b k ⟨dn, ds, time, deps, 4, ty, idd, field, value, re, im, rn, rs, dots⟩ ⟨po, pc, qo, qc⟩ (headO ⟨dn, ds, time, deps, 4, ty, idd, field, value, re, im, rn, rs, dots⟩ ++ pD (rn, rs) ++ pT value) v2 ∧ Box v2 kp 77 (pL 4) ∧ b < kp) := ⟨H9.out.1.next gg kk (by have := hh8.out; have := pT_len value; have := HF.out.value; simp only at this; have := pI_len rn; have := pI_len rs; simp only [List.length_append, pD]; omega), H9.out.2.1.kept kk H9.out.2.2 (by decide), H9.out.2.2⟩
        clear gg kk H9 g0 g1 g2 g3 g4 g5 g6 g7 g8 g9 g10 g11 g12 g13 p0 p1 p2 p3 p4
        have H9 := H10
        clear H10
        obtain ⟨g0, g1, g2, g3, g4, g5, g6, g7, g8, g9, g10, g11, g12, g13⟩ := (show Has v2 k (oL ⟨dn, ds, time, deps, 4, ty, idd, field, value, re, im, rn, rs, dots⟩ ⟨po, pc, qo, qc⟩) from H9.out.1.2.1.has).f14
        obtain ⟨p0, p1, p2, p3, p4⟩ := (show Has v2 kp (pL 4) from H9.out.2.1.has).fiveP
        rw [c1] at p1
        rw [c2] at p2
        rw [c3] at p3
        rw [c4] at p4
        go_wp2
        first | go_ret | go_end0
        exact ⟨rfl, by have := H9.out.1.1; simpa [putO, tailO, pD] using this, H9.out.1.2.2.1⟩
      · have c1 : pNum 5 = false := rfl
        have c2 : pDot 5 = false := rfl
        have c3 : pRef 5 = true := rfl
        have c4 : pVal 5 = false := rfl
        obtain ⟨g0, g1, g2, g3, g4, g5, g6, g7, g8, g9, g10, g11, g12, g13⟩ := (show Has v0 k (oL ⟨dn, ds, time, deps, 5, ty, idd, field, value, re, im, rn, rs, dots⟩ ⟨po, pc, qo, qc⟩) from H9.out.1.2.1.has).f14
        obtain ⟨p0, p1, p2, p3, p4⟩ := (show Has v0 kp (pL 5) from H9.out.2.1.has).fiveP
        rw [c1] at p1
        rw [c2] at p2
        rw [c3] at p3
        rw [c4] at p4
        go_wp2_with fail
        refine (wdot_any b _ rn rs _ H9.out.1.1 HF.out.ref.1 HF.out.ref.2 (by have := H9.out.1.2.2.2.2; omega)).mono ?_
        rintro e v1 ⟨rfl, gg, kk⟩
        have H10 : Hid (WS w b k ⟨dn, ds, time, deps, 5, ty, idd, field, value, re, im, rn, rs, dots⟩ ⟨po, pc, qo, qc⟩ (headO ⟨dn, ds, time, deps, 5, ty, idd, field, value, re, im, rn, rs, dots⟩ ++ pD (rn, rs)) v1 ∧ Box v1 kp 77 (pL 5) ∧ b < kp) := ⟨H9.out.1.next gg kk (by have := hh8.out; have := pI_len rn; have := pI_len rs; simp only [List.length_append, pD]; omega), H9.out.2.1.kept kk H9.out.2.2 (by decide), H9.out.2.2⟩
        clear gg kk H9 g0 g1 g2 g3 g4 g5 g6 g7 g8 g9 g10 g11 g12 g13 p0 p1 p2 p3 p4
        have H9 := H10
        clear H10
        obtain ⟨g0, g1, g2, g3, g4, g5, g6, g7, g8, g9, g10, g11, g12, g13⟩ := (show Has v1 k (oL ⟨dn, ds, time, deps, 5, ty, idd, field, value, re, im, rn, rs, dots⟩ ⟨po, pc, qo, qc⟩) from H9.out.1.2.1.has).f14
        obtain ⟨p0, p1, p2, p3, p4⟩ := (show Has v1 kp (pL 5) from H9.out.2.1.has).fiveP
        rw [c1] at p1
        rw [c2] at p2
        rw [c3] at p3
        rw [c4] at p4
        go_wp2
        first | go_ret | go_end0
        exact ⟨rfl, by have := H9.out.1.1; simpa [putO, tailO, pD] using this, H9.out.1.2.2.1⟩

end Go.Proofs.Ytjfgccjdkflfoaa

