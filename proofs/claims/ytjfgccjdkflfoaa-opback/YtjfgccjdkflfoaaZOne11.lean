/-
  The law's own operation of each kind: 'one', by contract.
-/
import Derived.Test.YtjfgccjdkflfoaaZOpWords11
namespace Go.Proofs.Ytjfgccjdkflfoaa
open Go.RowKit
set_option linter.unusedVariables false
set_option linter.unusedSimpArgs false

abbrev bT : ByteArray := ⟨#[84]⟩
abbrev bi : ByteArray := ⟨#[105]⟩
abbrev bf : ByteArray := ⟨#[102]⟩
abbrev bv : ByteArray := ⟨#[118]⟩
/-- The operation of that kind. -/
def oneO (k : Nat) : O14 :=
  if k = 0 then ⟨1, 3, 9, [4, 2], 0, bT, bi, bf, bv, 0, 0, 0, 0, []⟩
  else if k = 1 then ⟨1, 3, 9, [4, 2], 1, bT, bi, bf, noS, -2, 3, 0, 0, []⟩
  else if k = 2 then ⟨1, 3, 9, [4, 2], 2, bT, bi, bf, bv, 0, 0, 0, 0, []⟩
  else if k = 3 then ⟨1, 3, 9, [4, 2], 3, bT, bi, bf, noS, 0, 0, 0, 0, [(0, 4), (1, 2)]⟩
  else if k = 4 then ⟨1, 3, 9, [4, 2], 4, bT, bi, bf, bv, 0, 0, 0, 1, []⟩
  else ⟨1, 3, 9, [4, 2], 5, bT, bi, bf, noS, 0, 0, 0, 1, []⟩

theorem own_made (w : World) (xs : List Value) (e : TypeId) (s n : Nat) (hl : xs.length = n * s) (hn : n ≤ maxLen) : (w.alloc (.cells xs.toArray e)).ownsRow w.heap.size e s (.slice (some ⟨w.heap.size, 0, none⟩) n n) n xs :=
  by simpa using World.ownsRow_lit w xs.toArray n (base := w.heap.size) (e := e) (size := s) (Nat.le_refl _) hn (by simpa using hl)
theorem own_ne {B n s : Nat} {e : TypeId} {v : Value} {xs : List Value} {w : World} (h : w.ownsRow B e s v n xs) {g : Nat} (hg : v.ownBlock ≠ some g) (o : Nat) (u : Value) : (w.setCell ⟨g, o, none⟩ u).ownsRow B e s v n xs :=
  h.kept (row := some g) ⟨rfl, rfl, rfl, by simp, fun j hj hjk => Below.heap_setCell _ _ _ _ (fun e => hjk (by have e2 : j = g := e; rw [e2]))⟩ (Or.inr hg)

/-- What 'one' keeps: room for the answer in block h, Deps in block h + 1, the operation in block h + 2. -/
structure ROne (w : World) (h : Nat) (o : O14) (q : Pq) (w1 : World) : Prop where
  res : Has w1 h zL
  cur : Has w1 (h + 2) (oL o q)
  own : OOwn (h + 1) w1 o q
  low : Below h w w1
  dp : (Value.slice q.po o.deps.length q.pc).ownBlock ≠ some (h + 2)
  ds : (Value.slice q.qo o.dots.length q.qc).ownBlock ≠ some (h + 2)
theorem ROne.set {w w1 : World} {h : Nat} {o o' : O14} {q : Pq} (H : ROne w h o q w1) (i : Nat) (v : Value) (he : (oL o q).set i v = oL o' q) (hd : o'.deps = o.deps) (ht : o'.dots = o.dots) : ROne w h o' q (w1.setCell ⟨h + 2, i, none⟩ v) :=
  ⟨H.res.other (by omega) _ _, he ▸ H.cur.put i v, ⟨by rw [hd]; exact own_ne H.own.1 H.dp _ _, by rw [ht]; exact own_ne H.own.2 H.ds _ _⟩, H.low.setCell (p := ⟨h + 2, i, none⟩) (by show h ≤ h + 2; omega) _, by rw [hd]; exact H.dp, by rw [ht]; exact H.ds⟩
theorem ROne.dots {w w1 : World} {h : Nat} {o : O14} {q : Pq} (H : ROne w h o q w1) (hs : w1.heap.size = h + 3) (l : List D2) (hl : l.length ≤ maxLen) : ROne w h { o with dots := l } ⟨q.po, q.pc, some ⟨h + 3, 0, none⟩, l.length⟩ ((w1.setCell ⟨h + 2, 13, none⟩ (.slice (some ⟨h + 3, 0, none⟩) l.length l.length)).alloc (.cells (flatD l).toArray 23)) := by
  have r1 := H.res.other (show h + 2 ≠ h by omega) 13 (.slice (some ⟨h + 3, 0, none⟩) l.length l.length)
  have c1 := H.cur.put 13 (.slice (some ⟨h + 3, 0, none⟩) l.length l.length)
  have d1 := own_ne H.own.1 H.dp 13 (.slice (some ⟨h + 3, 0, none⟩) l.length l.length)
  have b1 : Below h w (w1.setCell ⟨h + 2, 13, none⟩ (.slice (some ⟨h + 3, 0, none⟩) l.length l.length)) := H.low.setCell (p := ⟨h + 2, 13, none⟩) (by show h ≤ h + 2; omega) _
  have s1 : (w1.setCell ⟨h + 2, 13, none⟩ (.slice (some ⟨h + 3, 0, none⟩) l.length l.length)).heap.size = h + 3 := by simpa using hs
  generalize w1.setCell ⟨h + 2, 13, none⟩ (.slice (some ⟨h + 3, 0, none⟩) l.length l.length) = w2 at r1 c1 d1 b1 s1 ⊢
  have hal : Below w2.heap.size w2 (w2.alloc (.cells (flatD l).toArray 23)) := (Below.refl _ _).alloc (Nat.le_refl _) _
  have ho := own_made w2 (flatD l) 23 2 l.length (flatD_len l) hl
  rw [s1] at ho
  exact ⟨r1.later hal, c1.later hal, ⟨own_later d1 hal, own_mono ho (by omega)⟩, b1.trans (hal.mono (by omega)), H.dp, by simp [Value.ownBlock]⟩
theorem rone_new (w : World) (k : Int) : ROne w w.heap.size ⟨1, 3, 9, [4, 2], k, bT, bi, bf, noS, 0, 0, 0, 0, []⟩ ⟨some ⟨w.heap.size + 1, 0, none⟩, 2, none, 0⟩ (((w.alloc (.cells zL.toArray 29)).alloc (.cells #[.int .i64 4, .int .i64 2] 3)).alloc (.cells (oL ⟨1, 3, 9, [4, 2], k, bT, bi, bf, noS, 0, 0, 0, 0, []⟩ ⟨some ⟨w.heap.size + 1, 0, none⟩, 2, none, 0⟩).toArray 29)) := by
  have a1 : Below w.heap.size w (w.alloc (.cells zL.toArray 29)) := (Below.refl _ _).alloc (Nat.le_refl _) _
  generalize hw1 : w.alloc (.cells zL.toArray 29) = w1 at a1 ⊢
  have r1 : Has w1 w.heap.size zL := hw1 ▸ has_new w zL _
  have s1 : w1.heap.size = w.heap.size + 1 := by rw [← hw1]; simp
  have a2 : Below w1.heap.size w1 (w1.alloc (.cells #[.int .i64 4, .int .i64 2] 3)) := (Below.refl _ _).alloc (Nat.le_refl _) _
  have o2 := own_made w1 (flatI [4, 2]) 3 1 2 rfl (by decide)
  have e2 : (flatI [4, 2]).toArray = #[.int .i64 4, .int .i64 2] := rfl
  rw [e2] at o2
  generalize hw2 : w1.alloc (.cells #[.int .i64 4, .int .i64 2] 3) = w2 at a2 o2 ⊢
  have s2 : w2.heap.size = w.heap.size + 2 := by rw [← hw2]; simp [s1]
  generalize hob : (Obj.cells (oL ⟨1, 3, 9, [4, 2], k, bT, bi, bf, noS, 0, 0, 0, 0, []⟩ ⟨some ⟨w.heap.size + 1, 0, none⟩, 2, none, 0⟩).toArray 29) = ob
  have a3 : Below w2.heap.size w2 (w2.alloc ob) := (Below.refl _ _).alloc (Nat.le_refl _) _
  have n3 := has_new w2 (oL ⟨1, 3, 9, [4, 2], k, bT, bi, bf, noS, 0, 0, 0, 0, []⟩ ⟨some ⟨w.heap.size + 1, 0, none⟩, 2, none, 0⟩) 29
  rw [hob, s2] at n3
  rw [s1] at o2
  exact ⟨(r1.later a2).later a3, n3, ⟨own_later o2 a3, own_nil _ _ _ _⟩, (a1.trans (a2.mono (by omega))).trans (a3.mono (by omega)), by simp [Value.ownBlock], by simp [Value.ownBlock]⟩

set_option maxHeartbeats 2000000 in
set_option maxRecDepth 100000 in
theorem one_0 (w : World) : Calls Try.prog 21 #[.int .i64 0] w fun e w' => ∃ q, e = .returned (oV (oneO 0) q) ∧ OOwn w.heap.size w' (oneO 0) q ∧ Below w.heap.size w w' := by
  obtain ⟨h, hh⟩ : ∃ h, w.heap.size = h := ⟨_, rfl⟩
  have H0 := rone_new w 0
  have hz : (((w.alloc (.cells zL.toArray 29)).alloc (.cells #[.int .i64 4, .int .i64 2] 3)).alloc (.cells (oL ⟨1, 3, 9, [4, 2], 0, bT, bi, bf, noS, 0, 0, 0, 0, []⟩ ⟨some ⟨w.heap.size + 1, 0, none⟩, 2, none, 0⟩).toArray 29)).heap.size = h + 3 := by simp [hh]
  rw [hh] at H0 hz ⊢
  have H1 : Hid (ROne w h ⟨1, 3, 9, [4, 2], 0, bT, bi, bf, noS, 0, 0, 0, 0, []⟩ ⟨some ⟨h + 1, 0, none⟩, 2, none, 0⟩ (((w.alloc (.cells zL.toArray 29)).alloc (.cells #[.int .i64 4, .int .i64 2] 3)).alloc (.cells (oL ⟨1, 3, 9, [4, 2], 0, bT, bi, bf, noS, 0, 0, 0, 0, []⟩ ⟨some ⟨h + 1, 0, none⟩, 2, none, 0⟩).toArray 29))) := H0
  have HZ : Hid ((((w.alloc (.cells zL.toArray 29)).alloc (.cells #[.int .i64 4, .int .i64 2] 3)).alloc (.cells (oL ⟨1, 3, 9, [4, 2], 0, bT, bi, bf, noS, 0, 0, 0, 0, []⟩ ⟨some ⟨h + 1, 0, none⟩, 2, none, 0⟩).toArray 29)).heap.size = h + 3) := hz
  clear H0 hz
  go_enter Try.func21, Try.ntmps21
  go_upto_region 2 with fail
  try simp only [World.size_alloc, hh, Nat.add_assoc, Nat.reduceAdd]
  generalize hE : ((w.alloc (.cells zL.toArray 29)).alloc (.cells #[.int .i64 4, .int .i64 2] 3)).alloc (.cells (oL ⟨1, 3, 9, [4, 2], 0, bT, bi, bf, noS, 0, 0, 0, 0, []⟩ ⟨some ⟨h + 1, 0, none⟩, 2, none, 0⟩).toArray 29) = w1 at H1 HZ ⊢
  clear hE hh
  have t8 := H1.out.cur.at 8 rfl
  have y8 := H1.out.cur.free 8 rfl
  go_upto_region 15 with fail
  have H2 : Hid (ROne w h ⟨1, 3, 9, [4, 2], 0, bT, bi, bf, bv, 0, 0, 0, 0, []⟩ ⟨some ⟨h + 1, 0, none⟩, 2, none, 0⟩ (World.setCell w1 (⟨h + 2, 8, none⟩ : Addr) (.string bv))) := (ROne.set (o' := ⟨1, 3, 9, [4, 2], 0, bT, bi, bf, bv, 0, 0, 0, 0, []⟩) H1.out 8 (.string bv) rfl rfl rfl)
  clear H1 HZ t8 y8
  generalize hE : (World.setCell w1 (⟨h + 2, 8, none⟩ : Addr) (.string bv)) = w2 at H2 ⊢
  clear hE
  obtain ⟨a0, a1, a2, a3, a4, a5, a6, a7, a8, a9, a10, a11, a12, a13⟩ := (show Has w2 (h + 2) (oL ⟨1, 3, 9, [4, 2], 0, bT, bi, bf, bv, 0, 0, 0, 0, []⟩ ⟨some ⟨h + 1, 0, none⟩, 2, none, 0⟩) from H2.out.cur).f14
  obtain ⟨b0, b1, b2, b3, b4, b5, b6, b7, b8, b9, b10, b11, b12, b13⟩ := (show Has w2 h zL from H2.out.res).f14
  obtain ⟨f0, f1, f2, f3, f4, f5, f6, f7, f8, f9, f10, f11, f12, f13⟩ := (show Has w2 h zL from H2.out.res).f14f
  have HEND : Has (putO14 w2 h ⟨1, 3, 9, [4, 2], 0, bT, bi, bf, bv, 0, 0, 0, 0, []⟩ ⟨some ⟨h + 1, 0, none⟩, 2, none, 0⟩) h (oL ⟨1, 3, 9, [4, 2], 0, bT, bi, bf, bv, 0, 0, 0, 0, []⟩ ⟨some ⟨h + 1, 0, none⟩, 2, none, 0⟩) ∧ OOwn h (putO14 w2 h ⟨1, 3, 9, [4, 2], 0, bT, bi, bf, bv, 0, 0, 0, 0, []⟩ ⟨some ⟨h + 1, 0, none⟩, 2, none, 0⟩) ⟨1, 3, 9, [4, 2], 0, bT, bi, bf, bv, 0, 0, 0, 0, []⟩ ⟨some ⟨h + 1, 0, none⟩, 2, none, 0⟩ ∧ Below h w (putO14 w2 h ⟨1, 3, 9, [4, 2], 0, bT, bi, bf, bv, 0, 0, 0, 0, []⟩ ⟨some ⟨h + 1, 0, none⟩, 2, none, 0⟩) := ⟨has_putO ⟨1, 3, 9, [4, 2], 0, bT, bi, bf, bv, 0, 0, 0, 0, []⟩ ⟨some ⟨h + 1, 0, none⟩, 2, none, 0⟩ H2.out.res rfl, (OOwn.put H2.out.own (Nat.lt_succ_self _)).mono (Nat.le_succ _), below_putO14 H2.out.low (Nat.le_refl _) _ _⟩
  have HE2 : Hid (Has (putO14 w2 h ⟨1, 3, 9, [4, 2], 0, bT, bi, bf, bv, 0, 0, 0, 0, []⟩ ⟨some ⟨h + 1, 0, none⟩, 2, none, 0⟩) h (oL ⟨1, 3, 9, [4, 2], 0, bT, bi, bf, bv, 0, 0, 0, 0, []⟩ ⟨some ⟨h + 1, 0, none⟩, 2, none, 0⟩) ∧ OOwn h (putO14 w2 h ⟨1, 3, 9, [4, 2], 0, bT, bi, bf, bv, 0, 0, 0, 0, []⟩ ⟨some ⟨h + 1, 0, none⟩, 2, none, 0⟩) ⟨1, 3, 9, [4, 2], 0, bT, bi, bf, bv, 0, 0, 0, 0, []⟩ ⟨some ⟨h + 1, 0, none⟩, 2, none, 0⟩ ∧ Below h w (putO14 w2 h ⟨1, 3, 9, [4, 2], 0, bT, bi, bf, bv, 0, 0, 0, 0, []⟩ ⟨some ⟨h + 1, 0, none⟩, 2, none, 0⟩)) := HEND
  clear HEND
  go_wp2
  exact bodyPost_ret (ret_op rfl rfl HE2.out.1) rfl ⟨⟨some ⟨h + 1, 0, none⟩, 2, none, 0⟩, rfl, HE2.out.2⟩

set_option maxHeartbeats 2000000 in
set_option maxRecDepth 100000 in
theorem one_1 (w : World) : Calls Try.prog 21 #[.int .i64 1] w fun e w' => ∃ q, e = .returned (oV (oneO 1) q) ∧ OOwn w.heap.size w' (oneO 1) q ∧ Below w.heap.size w w' := by
  obtain ⟨h, hh⟩ : ∃ h, w.heap.size = h := ⟨_, rfl⟩
  have H0 := rone_new w 1
  have hz : (((w.alloc (.cells zL.toArray 29)).alloc (.cells #[.int .i64 4, .int .i64 2] 3)).alloc (.cells (oL ⟨1, 3, 9, [4, 2], 1, bT, bi, bf, noS, 0, 0, 0, 0, []⟩ ⟨some ⟨w.heap.size + 1, 0, none⟩, 2, none, 0⟩).toArray 29)).heap.size = h + 3 := by simp [hh]
  rw [hh] at H0 hz ⊢
  have H1 : Hid (ROne w h ⟨1, 3, 9, [4, 2], 1, bT, bi, bf, noS, 0, 0, 0, 0, []⟩ ⟨some ⟨h + 1, 0, none⟩, 2, none, 0⟩ (((w.alloc (.cells zL.toArray 29)).alloc (.cells #[.int .i64 4, .int .i64 2] 3)).alloc (.cells (oL ⟨1, 3, 9, [4, 2], 1, bT, bi, bf, noS, 0, 0, 0, 0, []⟩ ⟨some ⟨h + 1, 0, none⟩, 2, none, 0⟩).toArray 29))) := H0
  have HZ : Hid ((((w.alloc (.cells zL.toArray 29)).alloc (.cells #[.int .i64 4, .int .i64 2] 3)).alloc (.cells (oL ⟨1, 3, 9, [4, 2], 1, bT, bi, bf, noS, 0, 0, 0, 0, []⟩ ⟨some ⟨h + 1, 0, none⟩, 2, none, 0⟩).toArray 29)).heap.size = h + 3) := hz
  clear H0 hz
  go_enter Try.func21, Try.ntmps21
  go_upto_region 2 with fail
  try simp only [World.size_alloc, hh, Nat.add_assoc, Nat.reduceAdd]
  generalize hE : ((w.alloc (.cells zL.toArray 29)).alloc (.cells #[.int .i64 4, .int .i64 2] 3)).alloc (.cells (oL ⟨1, 3, 9, [4, 2], 1, bT, bi, bf, noS, 0, 0, 0, 0, []⟩ ⟨some ⟨h + 1, 0, none⟩, 2, none, 0⟩).toArray 29) = w1 at H1 HZ ⊢
  clear hE hh
  have t9 := H1.out.cur.at 9 rfl
  have y9 := H1.out.cur.free 9 rfl
  have t10 := H1.out.cur.at 10 rfl
  have y10 := H1.out.cur.free 10 rfl
  go_upto_region 15 with fail
  have H2 : Hid (ROne w h ⟨1, 3, 9, [4, 2], 1, bT, bi, bf, noS, (-2), 3, 0, 0, []⟩ ⟨some ⟨h + 1, 0, none⟩, 2, none, 0⟩ (World.setCell (World.setCell w1 (⟨h + 2, 9, none⟩ : Addr) (.int .i64 (-2))) (⟨h + 2, 10, none⟩ : Addr) (.int .i64 3))) := (ROne.set (o' := ⟨1, 3, 9, [4, 2], 1, bT, bi, bf, noS, (-2), 3, 0, 0, []⟩) (ROne.set (o' := ⟨1, 3, 9, [4, 2], 1, bT, bi, bf, noS, (-2), 0, 0, 0, []⟩) H1.out 9 (.int .i64 (-2)) rfl rfl rfl) 10 (.int .i64 3) rfl rfl rfl)
  clear H1 HZ t9 y9 t10 y10
  generalize hE : (World.setCell (World.setCell w1 (⟨h + 2, 9, none⟩ : Addr) (.int .i64 (-2))) (⟨h + 2, 10, none⟩ : Addr) (.int .i64 3)) = w2 at H2 ⊢
  clear hE
  obtain ⟨a0, a1, a2, a3, a4, a5, a6, a7, a8, a9, a10, a11, a12, a13⟩ := (show Has w2 (h + 2) (oL ⟨1, 3, 9, [4, 2], 1, bT, bi, bf, noS, (-2), 3, 0, 0, []⟩ ⟨some ⟨h + 1, 0, none⟩, 2, none, 0⟩) from H2.out.cur).f14
  obtain ⟨b0, b1, b2, b3, b4, b5, b6, b7, b8, b9, b10, b11, b12, b13⟩ := (show Has w2 h zL from H2.out.res).f14
  obtain ⟨f0, f1, f2, f3, f4, f5, f6, f7, f8, f9, f10, f11, f12, f13⟩ := (show Has w2 h zL from H2.out.res).f14f
  have HEND : Has (putO14 w2 h ⟨1, 3, 9, [4, 2], 1, bT, bi, bf, noS, (-2), 3, 0, 0, []⟩ ⟨some ⟨h + 1, 0, none⟩, 2, none, 0⟩) h (oL ⟨1, 3, 9, [4, 2], 1, bT, bi, bf, noS, (-2), 3, 0, 0, []⟩ ⟨some ⟨h + 1, 0, none⟩, 2, none, 0⟩) ∧ OOwn h (putO14 w2 h ⟨1, 3, 9, [4, 2], 1, bT, bi, bf, noS, (-2), 3, 0, 0, []⟩ ⟨some ⟨h + 1, 0, none⟩, 2, none, 0⟩) ⟨1, 3, 9, [4, 2], 1, bT, bi, bf, noS, (-2), 3, 0, 0, []⟩ ⟨some ⟨h + 1, 0, none⟩, 2, none, 0⟩ ∧ Below h w (putO14 w2 h ⟨1, 3, 9, [4, 2], 1, bT, bi, bf, noS, (-2), 3, 0, 0, []⟩ ⟨some ⟨h + 1, 0, none⟩, 2, none, 0⟩) := ⟨has_putO ⟨1, 3, 9, [4, 2], 1, bT, bi, bf, noS, (-2), 3, 0, 0, []⟩ ⟨some ⟨h + 1, 0, none⟩, 2, none, 0⟩ H2.out.res rfl, (OOwn.put H2.out.own (Nat.lt_succ_self _)).mono (Nat.le_succ _), below_putO14 H2.out.low (Nat.le_refl _) _ _⟩
  have HE2 : Hid (Has (putO14 w2 h ⟨1, 3, 9, [4, 2], 1, bT, bi, bf, noS, (-2), 3, 0, 0, []⟩ ⟨some ⟨h + 1, 0, none⟩, 2, none, 0⟩) h (oL ⟨1, 3, 9, [4, 2], 1, bT, bi, bf, noS, (-2), 3, 0, 0, []⟩ ⟨some ⟨h + 1, 0, none⟩, 2, none, 0⟩) ∧ OOwn h (putO14 w2 h ⟨1, 3, 9, [4, 2], 1, bT, bi, bf, noS, (-2), 3, 0, 0, []⟩ ⟨some ⟨h + 1, 0, none⟩, 2, none, 0⟩) ⟨1, 3, 9, [4, 2], 1, bT, bi, bf, noS, (-2), 3, 0, 0, []⟩ ⟨some ⟨h + 1, 0, none⟩, 2, none, 0⟩ ∧ Below h w (putO14 w2 h ⟨1, 3, 9, [4, 2], 1, bT, bi, bf, noS, (-2), 3, 0, 0, []⟩ ⟨some ⟨h + 1, 0, none⟩, 2, none, 0⟩)) := HEND
  clear HEND
  go_wp2
  exact bodyPost_ret (ret_op rfl rfl HE2.out.1) rfl ⟨⟨some ⟨h + 1, 0, none⟩, 2, none, 0⟩, rfl, HE2.out.2⟩

set_option maxHeartbeats 2000000 in
set_option maxRecDepth 100000 in
theorem one_2 (w : World) : Calls Try.prog 21 #[.int .i64 2] w fun e w' => ∃ q, e = .returned (oV (oneO 2) q) ∧ OOwn w.heap.size w' (oneO 2) q ∧ Below w.heap.size w w' := by
  obtain ⟨h, hh⟩ : ∃ h, w.heap.size = h := ⟨_, rfl⟩
  have H0 := rone_new w 2
  have hz : (((w.alloc (.cells zL.toArray 29)).alloc (.cells #[.int .i64 4, .int .i64 2] 3)).alloc (.cells (oL ⟨1, 3, 9, [4, 2], 2, bT, bi, bf, noS, 0, 0, 0, 0, []⟩ ⟨some ⟨w.heap.size + 1, 0, none⟩, 2, none, 0⟩).toArray 29)).heap.size = h + 3 := by simp [hh]
  rw [hh] at H0 hz ⊢
  have H1 : Hid (ROne w h ⟨1, 3, 9, [4, 2], 2, bT, bi, bf, noS, 0, 0, 0, 0, []⟩ ⟨some ⟨h + 1, 0, none⟩, 2, none, 0⟩ (((w.alloc (.cells zL.toArray 29)).alloc (.cells #[.int .i64 4, .int .i64 2] 3)).alloc (.cells (oL ⟨1, 3, 9, [4, 2], 2, bT, bi, bf, noS, 0, 0, 0, 0, []⟩ ⟨some ⟨h + 1, 0, none⟩, 2, none, 0⟩).toArray 29))) := H0
  have HZ : Hid ((((w.alloc (.cells zL.toArray 29)).alloc (.cells #[.int .i64 4, .int .i64 2] 3)).alloc (.cells (oL ⟨1, 3, 9, [4, 2], 2, bT, bi, bf, noS, 0, 0, 0, 0, []⟩ ⟨some ⟨h + 1, 0, none⟩, 2, none, 0⟩).toArray 29)).heap.size = h + 3) := hz
  clear H0 hz
  go_enter Try.func21, Try.ntmps21
  go_upto_region 2 with fail
  try simp only [World.size_alloc, hh, Nat.add_assoc, Nat.reduceAdd]
  generalize hE : ((w.alloc (.cells zL.toArray 29)).alloc (.cells #[.int .i64 4, .int .i64 2] 3)).alloc (.cells (oL ⟨1, 3, 9, [4, 2], 2, bT, bi, bf, noS, 0, 0, 0, 0, []⟩ ⟨some ⟨h + 1, 0, none⟩, 2, none, 0⟩).toArray 29) = w1 at H1 HZ ⊢
  clear hE hh
  have t8 := H1.out.cur.at 8 rfl
  have y8 := H1.out.cur.free 8 rfl
  go_upto_region 15 with fail
  have H2 : Hid (ROne w h ⟨1, 3, 9, [4, 2], 2, bT, bi, bf, bv, 0, 0, 0, 0, []⟩ ⟨some ⟨h + 1, 0, none⟩, 2, none, 0⟩ (World.setCell w1 (⟨h + 2, 8, none⟩ : Addr) (.string bv))) := (ROne.set (o' := ⟨1, 3, 9, [4, 2], 2, bT, bi, bf, bv, 0, 0, 0, 0, []⟩) H1.out 8 (.string bv) rfl rfl rfl)
  clear H1 HZ t8 y8
  generalize hE : (World.setCell w1 (⟨h + 2, 8, none⟩ : Addr) (.string bv)) = w2 at H2 ⊢
  clear hE
  obtain ⟨a0, a1, a2, a3, a4, a5, a6, a7, a8, a9, a10, a11, a12, a13⟩ := (show Has w2 (h + 2) (oL ⟨1, 3, 9, [4, 2], 2, bT, bi, bf, bv, 0, 0, 0, 0, []⟩ ⟨some ⟨h + 1, 0, none⟩, 2, none, 0⟩) from H2.out.cur).f14
  obtain ⟨b0, b1, b2, b3, b4, b5, b6, b7, b8, b9, b10, b11, b12, b13⟩ := (show Has w2 h zL from H2.out.res).f14
  obtain ⟨f0, f1, f2, f3, f4, f5, f6, f7, f8, f9, f10, f11, f12, f13⟩ := (show Has w2 h zL from H2.out.res).f14f
  have HEND : Has (putO14 w2 h ⟨1, 3, 9, [4, 2], 2, bT, bi, bf, bv, 0, 0, 0, 0, []⟩ ⟨some ⟨h + 1, 0, none⟩, 2, none, 0⟩) h (oL ⟨1, 3, 9, [4, 2], 2, bT, bi, bf, bv, 0, 0, 0, 0, []⟩ ⟨some ⟨h + 1, 0, none⟩, 2, none, 0⟩) ∧ OOwn h (putO14 w2 h ⟨1, 3, 9, [4, 2], 2, bT, bi, bf, bv, 0, 0, 0, 0, []⟩ ⟨some ⟨h + 1, 0, none⟩, 2, none, 0⟩) ⟨1, 3, 9, [4, 2], 2, bT, bi, bf, bv, 0, 0, 0, 0, []⟩ ⟨some ⟨h + 1, 0, none⟩, 2, none, 0⟩ ∧ Below h w (putO14 w2 h ⟨1, 3, 9, [4, 2], 2, bT, bi, bf, bv, 0, 0, 0, 0, []⟩ ⟨some ⟨h + 1, 0, none⟩, 2, none, 0⟩) := ⟨has_putO ⟨1, 3, 9, [4, 2], 2, bT, bi, bf, bv, 0, 0, 0, 0, []⟩ ⟨some ⟨h + 1, 0, none⟩, 2, none, 0⟩ H2.out.res rfl, (OOwn.put H2.out.own (Nat.lt_succ_self _)).mono (Nat.le_succ _), below_putO14 H2.out.low (Nat.le_refl _) _ _⟩
  have HE2 : Hid (Has (putO14 w2 h ⟨1, 3, 9, [4, 2], 2, bT, bi, bf, bv, 0, 0, 0, 0, []⟩ ⟨some ⟨h + 1, 0, none⟩, 2, none, 0⟩) h (oL ⟨1, 3, 9, [4, 2], 2, bT, bi, bf, bv, 0, 0, 0, 0, []⟩ ⟨some ⟨h + 1, 0, none⟩, 2, none, 0⟩) ∧ OOwn h (putO14 w2 h ⟨1, 3, 9, [4, 2], 2, bT, bi, bf, bv, 0, 0, 0, 0, []⟩ ⟨some ⟨h + 1, 0, none⟩, 2, none, 0⟩) ⟨1, 3, 9, [4, 2], 2, bT, bi, bf, bv, 0, 0, 0, 0, []⟩ ⟨some ⟨h + 1, 0, none⟩, 2, none, 0⟩ ∧ Below h w (putO14 w2 h ⟨1, 3, 9, [4, 2], 2, bT, bi, bf, bv, 0, 0, 0, 0, []⟩ ⟨some ⟨h + 1, 0, none⟩, 2, none, 0⟩)) := HEND
  clear HEND
  go_wp2
  exact bodyPost_ret (ret_op rfl rfl HE2.out.1) rfl ⟨⟨some ⟨h + 1, 0, none⟩, 2, none, 0⟩, rfl, HE2.out.2⟩

set_option maxHeartbeats 2000000 in
set_option maxRecDepth 100000 in
theorem one_3 (w : World) : Calls Try.prog 21 #[.int .i64 3] w fun e w' => ∃ q, e = .returned (oV (oneO 3) q) ∧ OOwn w.heap.size w' (oneO 3) q ∧ Below w.heap.size w w' := by
  obtain ⟨h, hh⟩ : ∃ h, w.heap.size = h := ⟨_, rfl⟩
  have H0 := rone_new w 3
  have hz : (((w.alloc (.cells zL.toArray 29)).alloc (.cells #[.int .i64 4, .int .i64 2] 3)).alloc (.cells (oL ⟨1, 3, 9, [4, 2], 3, bT, bi, bf, noS, 0, 0, 0, 0, []⟩ ⟨some ⟨w.heap.size + 1, 0, none⟩, 2, none, 0⟩).toArray 29)).heap.size = h + 3 := by simp [hh]
  rw [hh] at H0 hz ⊢
  have H1 : Hid (ROne w h ⟨1, 3, 9, [4, 2], 3, bT, bi, bf, noS, 0, 0, 0, 0, []⟩ ⟨some ⟨h + 1, 0, none⟩, 2, none, 0⟩ (((w.alloc (.cells zL.toArray 29)).alloc (.cells #[.int .i64 4, .int .i64 2] 3)).alloc (.cells (oL ⟨1, 3, 9, [4, 2], 3, bT, bi, bf, noS, 0, 0, 0, 0, []⟩ ⟨some ⟨h + 1, 0, none⟩, 2, none, 0⟩).toArray 29))) := H0
  have HZ : Hid ((((w.alloc (.cells zL.toArray 29)).alloc (.cells #[.int .i64 4, .int .i64 2] 3)).alloc (.cells (oL ⟨1, 3, 9, [4, 2], 3, bT, bi, bf, noS, 0, 0, 0, 0, []⟩ ⟨some ⟨h + 1, 0, none⟩, 2, none, 0⟩).toArray 29)).heap.size = h + 3) := hz
  clear H0 hz
  go_enter Try.func21, Try.ntmps21
  go_upto_region 2 with fail
  try simp only [World.size_alloc, hh, Nat.add_assoc, Nat.reduceAdd]
  generalize hE : ((w.alloc (.cells zL.toArray 29)).alloc (.cells #[.int .i64 4, .int .i64 2] 3)).alloc (.cells (oL ⟨1, 3, 9, [4, 2], 3, bT, bi, bf, noS, 0, 0, 0, 0, []⟩ ⟨some ⟨h + 1, 0, none⟩, 2, none, 0⟩).toArray 29) = w1 at H1 HZ ⊢
  clear hE hh
  have hs := HZ.out
  have t13 : (w1.alloc (.cells (flatD [(0, 4), (1, 2)]).toArray 23)).cell? ⟨h + 2, 13, none⟩ = some (.slice none 0 0) := (H1.out.cur.alloc _).at 13 rfl
  have y13 : (w1.alloc (.cells (flatD [(0, 4), (1, 2)]).toArray 23)).frozen? ⟨h + 2, 13, none⟩ = false := (H1.out.cur.alloc _).free 13 rfl
  simp only [flatD, d2, List.flatMap_cons, List.flatMap_nil, List.append_nil, List.cons_append, List.nil_append] at t13 y13
  go_upto_region 15 with fail
  have H2 : Hid (ROne w h ⟨1, 3, 9, [4, 2], 3, bT, bi, bf, noS, 0, 0, 0, 0, [(0, 4), (1, 2)]⟩ ⟨some ⟨h + 1, 0, none⟩, 2, some ⟨h + 3, 0, none⟩, 2⟩ ((w1.setCell (⟨h + 2, 13, none⟩ : Addr) (.slice (some ⟨h + 3, 0, none⟩) 2 2)).alloc (.cells #[.int .i64 0, .int .i64 4, .int .i64 1, .int .i64 2] 23))) := H1.out.dots HZ.out [(0, 4), (1, 2)] (by decide)
  clear H1 t13 y13 hs HZ
  generalize hE : ((w1.setCell (⟨h + 2, 13, none⟩ : Addr) (.slice (some ⟨h + 3, 0, none⟩) 2 2)).alloc (.cells #[.int .i64 0, .int .i64 4, .int .i64 1, .int .i64 2] 23)) = w2 at H2 ⊢
  clear hE
  obtain ⟨a0, a1, a2, a3, a4, a5, a6, a7, a8, a9, a10, a11, a12, a13⟩ := (show Has w2 (h + 2) (oL ⟨1, 3, 9, [4, 2], 3, bT, bi, bf, noS, 0, 0, 0, 0, [(0, 4), (1, 2)]⟩ ⟨some ⟨h + 1, 0, none⟩, 2, some ⟨h + 3, 0, none⟩, 2⟩) from H2.out.cur).f14
  obtain ⟨b0, b1, b2, b3, b4, b5, b6, b7, b8, b9, b10, b11, b12, b13⟩ := (show Has w2 h zL from H2.out.res).f14
  obtain ⟨f0, f1, f2, f3, f4, f5, f6, f7, f8, f9, f10, f11, f12, f13⟩ := (show Has w2 h zL from H2.out.res).f14f
  have HEND : Has (putO14 w2 h ⟨1, 3, 9, [4, 2], 3, bT, bi, bf, noS, 0, 0, 0, 0, [(0, 4), (1, 2)]⟩ ⟨some ⟨h + 1, 0, none⟩, 2, some ⟨h + 3, 0, none⟩, 2⟩) h (oL ⟨1, 3, 9, [4, 2], 3, bT, bi, bf, noS, 0, 0, 0, 0, [(0, 4), (1, 2)]⟩ ⟨some ⟨h + 1, 0, none⟩, 2, some ⟨h + 3, 0, none⟩, 2⟩) ∧ OOwn h (putO14 w2 h ⟨1, 3, 9, [4, 2], 3, bT, bi, bf, noS, 0, 0, 0, 0, [(0, 4), (1, 2)]⟩ ⟨some ⟨h + 1, 0, none⟩, 2, some ⟨h + 3, 0, none⟩, 2⟩) ⟨1, 3, 9, [4, 2], 3, bT, bi, bf, noS, 0, 0, 0, 0, [(0, 4), (1, 2)]⟩ ⟨some ⟨h + 1, 0, none⟩, 2, some ⟨h + 3, 0, none⟩, 2⟩ ∧ Below h w (putO14 w2 h ⟨1, 3, 9, [4, 2], 3, bT, bi, bf, noS, 0, 0, 0, 0, [(0, 4), (1, 2)]⟩ ⟨some ⟨h + 1, 0, none⟩, 2, some ⟨h + 3, 0, none⟩, 2⟩) := ⟨has_putO ⟨1, 3, 9, [4, 2], 3, bT, bi, bf, noS, 0, 0, 0, 0, [(0, 4), (1, 2)]⟩ ⟨some ⟨h + 1, 0, none⟩, 2, some ⟨h + 3, 0, none⟩, 2⟩ H2.out.res rfl, (OOwn.put H2.out.own (Nat.lt_succ_self _)).mono (Nat.le_succ _), below_putO14 H2.out.low (Nat.le_refl _) _ _⟩
  have HE2 : Hid (Has (putO14 w2 h ⟨1, 3, 9, [4, 2], 3, bT, bi, bf, noS, 0, 0, 0, 0, [(0, 4), (1, 2)]⟩ ⟨some ⟨h + 1, 0, none⟩, 2, some ⟨h + 3, 0, none⟩, 2⟩) h (oL ⟨1, 3, 9, [4, 2], 3, bT, bi, bf, noS, 0, 0, 0, 0, [(0, 4), (1, 2)]⟩ ⟨some ⟨h + 1, 0, none⟩, 2, some ⟨h + 3, 0, none⟩, 2⟩) ∧ OOwn h (putO14 w2 h ⟨1, 3, 9, [4, 2], 3, bT, bi, bf, noS, 0, 0, 0, 0, [(0, 4), (1, 2)]⟩ ⟨some ⟨h + 1, 0, none⟩, 2, some ⟨h + 3, 0, none⟩, 2⟩) ⟨1, 3, 9, [4, 2], 3, bT, bi, bf, noS, 0, 0, 0, 0, [(0, 4), (1, 2)]⟩ ⟨some ⟨h + 1, 0, none⟩, 2, some ⟨h + 3, 0, none⟩, 2⟩ ∧ Below h w (putO14 w2 h ⟨1, 3, 9, [4, 2], 3, bT, bi, bf, noS, 0, 0, 0, 0, [(0, 4), (1, 2)]⟩ ⟨some ⟨h + 1, 0, none⟩, 2, some ⟨h + 3, 0, none⟩, 2⟩)) := HEND
  clear HEND
  go_wp2
  exact bodyPost_ret (ret_op rfl rfl HE2.out.1) rfl ⟨⟨some ⟨h + 1, 0, none⟩, 2, some ⟨h + 3, 0, none⟩, 2⟩, rfl, HE2.out.2⟩

set_option maxHeartbeats 2000000 in
set_option maxRecDepth 100000 in
theorem one_4 (w : World) : Calls Try.prog 21 #[.int .i64 4] w fun e w' => ∃ q, e = .returned (oV (oneO 4) q) ∧ OOwn w.heap.size w' (oneO 4) q ∧ Below w.heap.size w w' := by
  obtain ⟨h, hh⟩ : ∃ h, w.heap.size = h := ⟨_, rfl⟩
  have H0 := rone_new w 4
  have hz : (((w.alloc (.cells zL.toArray 29)).alloc (.cells #[.int .i64 4, .int .i64 2] 3)).alloc (.cells (oL ⟨1, 3, 9, [4, 2], 4, bT, bi, bf, noS, 0, 0, 0, 0, []⟩ ⟨some ⟨w.heap.size + 1, 0, none⟩, 2, none, 0⟩).toArray 29)).heap.size = h + 3 := by simp [hh]
  rw [hh] at H0 hz ⊢
  have H1 : Hid (ROne w h ⟨1, 3, 9, [4, 2], 4, bT, bi, bf, noS, 0, 0, 0, 0, []⟩ ⟨some ⟨h + 1, 0, none⟩, 2, none, 0⟩ (((w.alloc (.cells zL.toArray 29)).alloc (.cells #[.int .i64 4, .int .i64 2] 3)).alloc (.cells (oL ⟨1, 3, 9, [4, 2], 4, bT, bi, bf, noS, 0, 0, 0, 0, []⟩ ⟨some ⟨h + 1, 0, none⟩, 2, none, 0⟩).toArray 29))) := H0
  have HZ : Hid ((((w.alloc (.cells zL.toArray 29)).alloc (.cells #[.int .i64 4, .int .i64 2] 3)).alloc (.cells (oL ⟨1, 3, 9, [4, 2], 4, bT, bi, bf, noS, 0, 0, 0, 0, []⟩ ⟨some ⟨h + 1, 0, none⟩, 2, none, 0⟩).toArray 29)).heap.size = h + 3) := hz
  clear H0 hz
  go_enter Try.func21, Try.ntmps21
  go_upto_region 2 with fail
  try simp only [World.size_alloc, hh, Nat.add_assoc, Nat.reduceAdd]
  generalize hE : ((w.alloc (.cells zL.toArray 29)).alloc (.cells #[.int .i64 4, .int .i64 2] 3)).alloc (.cells (oL ⟨1, 3, 9, [4, 2], 4, bT, bi, bf, noS, 0, 0, 0, 0, []⟩ ⟨some ⟨h + 1, 0, none⟩, 2, none, 0⟩).toArray 29) = w1 at H1 HZ ⊢
  clear hE hh
  have t8 := H1.out.cur.at 8 rfl
  have y8 := H1.out.cur.free 8 rfl
  have t11 := H1.out.cur.at 11 rfl
  have y11 := H1.out.cur.free 11 rfl
  have t12 := H1.out.cur.at 12 rfl
  have y12 := H1.out.cur.free 12 rfl
  go_upto_region 15 with fail
  have H2 : Hid (ROne w h ⟨1, 3, 9, [4, 2], 4, bT, bi, bf, bv, 0, 0, 0, 1, []⟩ ⟨some ⟨h + 1, 0, none⟩, 2, none, 0⟩ (World.setCell (World.setCell (World.setCell w1 (⟨h + 2, 8, none⟩ : Addr) (.string bv)) (⟨h + 2, 11, none⟩ : Addr) (.int .i64 0)) (⟨h + 2, 12, none⟩ : Addr) (.int .i64 1))) := (ROne.set (o' := ⟨1, 3, 9, [4, 2], 4, bT, bi, bf, bv, 0, 0, 0, 1, []⟩) (ROne.set (o' := ⟨1, 3, 9, [4, 2], 4, bT, bi, bf, bv, 0, 0, 0, 0, []⟩) (ROne.set (o' := ⟨1, 3, 9, [4, 2], 4, bT, bi, bf, bv, 0, 0, 0, 0, []⟩) H1.out 8 (.string bv) rfl rfl rfl) 11 (.int .i64 0) rfl rfl rfl) 12 (.int .i64 1) rfl rfl rfl)
  clear H1 HZ t8 y8 t11 y11 t12 y12
  generalize hE : (World.setCell (World.setCell (World.setCell w1 (⟨h + 2, 8, none⟩ : Addr) (.string bv)) (⟨h + 2, 11, none⟩ : Addr) (.int .i64 0)) (⟨h + 2, 12, none⟩ : Addr) (.int .i64 1)) = w2 at H2 ⊢
  clear hE
  obtain ⟨a0, a1, a2, a3, a4, a5, a6, a7, a8, a9, a10, a11, a12, a13⟩ := (show Has w2 (h + 2) (oL ⟨1, 3, 9, [4, 2], 4, bT, bi, bf, bv, 0, 0, 0, 1, []⟩ ⟨some ⟨h + 1, 0, none⟩, 2, none, 0⟩) from H2.out.cur).f14
  obtain ⟨b0, b1, b2, b3, b4, b5, b6, b7, b8, b9, b10, b11, b12, b13⟩ := (show Has w2 h zL from H2.out.res).f14
  obtain ⟨f0, f1, f2, f3, f4, f5, f6, f7, f8, f9, f10, f11, f12, f13⟩ := (show Has w2 h zL from H2.out.res).f14f
  have HEND : Has (putO14 w2 h ⟨1, 3, 9, [4, 2], 4, bT, bi, bf, bv, 0, 0, 0, 1, []⟩ ⟨some ⟨h + 1, 0, none⟩, 2, none, 0⟩) h (oL ⟨1, 3, 9, [4, 2], 4, bT, bi, bf, bv, 0, 0, 0, 1, []⟩ ⟨some ⟨h + 1, 0, none⟩, 2, none, 0⟩) ∧ OOwn h (putO14 w2 h ⟨1, 3, 9, [4, 2], 4, bT, bi, bf, bv, 0, 0, 0, 1, []⟩ ⟨some ⟨h + 1, 0, none⟩, 2, none, 0⟩) ⟨1, 3, 9, [4, 2], 4, bT, bi, bf, bv, 0, 0, 0, 1, []⟩ ⟨some ⟨h + 1, 0, none⟩, 2, none, 0⟩ ∧ Below h w (putO14 w2 h ⟨1, 3, 9, [4, 2], 4, bT, bi, bf, bv, 0, 0, 0, 1, []⟩ ⟨some ⟨h + 1, 0, none⟩, 2, none, 0⟩) := ⟨has_putO ⟨1, 3, 9, [4, 2], 4, bT, bi, bf, bv, 0, 0, 0, 1, []⟩ ⟨some ⟨h + 1, 0, none⟩, 2, none, 0⟩ H2.out.res rfl, (OOwn.put H2.out.own (Nat.lt_succ_self _)).mono (Nat.le_succ _), below_putO14 H2.out.low (Nat.le_refl _) _ _⟩
  have HE2 : Hid (Has (putO14 w2 h ⟨1, 3, 9, [4, 2], 4, bT, bi, bf, bv, 0, 0, 0, 1, []⟩ ⟨some ⟨h + 1, 0, none⟩, 2, none, 0⟩) h (oL ⟨1, 3, 9, [4, 2], 4, bT, bi, bf, bv, 0, 0, 0, 1, []⟩ ⟨some ⟨h + 1, 0, none⟩, 2, none, 0⟩) ∧ OOwn h (putO14 w2 h ⟨1, 3, 9, [4, 2], 4, bT, bi, bf, bv, 0, 0, 0, 1, []⟩ ⟨some ⟨h + 1, 0, none⟩, 2, none, 0⟩) ⟨1, 3, 9, [4, 2], 4, bT, bi, bf, bv, 0, 0, 0, 1, []⟩ ⟨some ⟨h + 1, 0, none⟩, 2, none, 0⟩ ∧ Below h w (putO14 w2 h ⟨1, 3, 9, [4, 2], 4, bT, bi, bf, bv, 0, 0, 0, 1, []⟩ ⟨some ⟨h + 1, 0, none⟩, 2, none, 0⟩)) := HEND
  clear HEND
  go_wp2
  exact bodyPost_ret (ret_op rfl rfl HE2.out.1) rfl ⟨⟨some ⟨h + 1, 0, none⟩, 2, none, 0⟩, rfl, HE2.out.2⟩

set_option maxHeartbeats 2000000 in
set_option maxRecDepth 100000 in
theorem one_5 (w : World) : Calls Try.prog 21 #[.int .i64 5] w fun e w' => ∃ q, e = .returned (oV (oneO 5) q) ∧ OOwn w.heap.size w' (oneO 5) q ∧ Below w.heap.size w w' := by
  obtain ⟨h, hh⟩ : ∃ h, w.heap.size = h := ⟨_, rfl⟩
  have H0 := rone_new w 5
  have hz : (((w.alloc (.cells zL.toArray 29)).alloc (.cells #[.int .i64 4, .int .i64 2] 3)).alloc (.cells (oL ⟨1, 3, 9, [4, 2], 5, bT, bi, bf, noS, 0, 0, 0, 0, []⟩ ⟨some ⟨w.heap.size + 1, 0, none⟩, 2, none, 0⟩).toArray 29)).heap.size = h + 3 := by simp [hh]
  rw [hh] at H0 hz ⊢
  have H1 : Hid (ROne w h ⟨1, 3, 9, [4, 2], 5, bT, bi, bf, noS, 0, 0, 0, 0, []⟩ ⟨some ⟨h + 1, 0, none⟩, 2, none, 0⟩ (((w.alloc (.cells zL.toArray 29)).alloc (.cells #[.int .i64 4, .int .i64 2] 3)).alloc (.cells (oL ⟨1, 3, 9, [4, 2], 5, bT, bi, bf, noS, 0, 0, 0, 0, []⟩ ⟨some ⟨h + 1, 0, none⟩, 2, none, 0⟩).toArray 29))) := H0
  have HZ : Hid ((((w.alloc (.cells zL.toArray 29)).alloc (.cells #[.int .i64 4, .int .i64 2] 3)).alloc (.cells (oL ⟨1, 3, 9, [4, 2], 5, bT, bi, bf, noS, 0, 0, 0, 0, []⟩ ⟨some ⟨h + 1, 0, none⟩, 2, none, 0⟩).toArray 29)).heap.size = h + 3) := hz
  clear H0 hz
  go_enter Try.func21, Try.ntmps21
  go_upto_region 2 with fail
  try simp only [World.size_alloc, hh, Nat.add_assoc, Nat.reduceAdd]
  generalize hE : ((w.alloc (.cells zL.toArray 29)).alloc (.cells #[.int .i64 4, .int .i64 2] 3)).alloc (.cells (oL ⟨1, 3, 9, [4, 2], 5, bT, bi, bf, noS, 0, 0, 0, 0, []⟩ ⟨some ⟨h + 1, 0, none⟩, 2, none, 0⟩).toArray 29) = w1 at H1 HZ ⊢
  clear hE hh
  have t11 := H1.out.cur.at 11 rfl
  have y11 := H1.out.cur.free 11 rfl
  have t12 := H1.out.cur.at 12 rfl
  have y12 := H1.out.cur.free 12 rfl
  go_upto_region 15 with fail
  have H2 : Hid (ROne w h ⟨1, 3, 9, [4, 2], 5, bT, bi, bf, noS, 0, 0, 0, 1, []⟩ ⟨some ⟨h + 1, 0, none⟩, 2, none, 0⟩ (World.setCell (World.setCell w1 (⟨h + 2, 11, none⟩ : Addr) (.int .i64 0)) (⟨h + 2, 12, none⟩ : Addr) (.int .i64 1))) := (ROne.set (o' := ⟨1, 3, 9, [4, 2], 5, bT, bi, bf, noS, 0, 0, 0, 1, []⟩) (ROne.set (o' := ⟨1, 3, 9, [4, 2], 5, bT, bi, bf, noS, 0, 0, 0, 0, []⟩) H1.out 11 (.int .i64 0) rfl rfl rfl) 12 (.int .i64 1) rfl rfl rfl)
  clear H1 HZ t11 y11 t12 y12
  generalize hE : (World.setCell (World.setCell w1 (⟨h + 2, 11, none⟩ : Addr) (.int .i64 0)) (⟨h + 2, 12, none⟩ : Addr) (.int .i64 1)) = w2 at H2 ⊢
  clear hE
  obtain ⟨a0, a1, a2, a3, a4, a5, a6, a7, a8, a9, a10, a11, a12, a13⟩ := (show Has w2 (h + 2) (oL ⟨1, 3, 9, [4, 2], 5, bT, bi, bf, noS, 0, 0, 0, 1, []⟩ ⟨some ⟨h + 1, 0, none⟩, 2, none, 0⟩) from H2.out.cur).f14
  obtain ⟨b0, b1, b2, b3, b4, b5, b6, b7, b8, b9, b10, b11, b12, b13⟩ := (show Has w2 h zL from H2.out.res).f14
  obtain ⟨f0, f1, f2, f3, f4, f5, f6, f7, f8, f9, f10, f11, f12, f13⟩ := (show Has w2 h zL from H2.out.res).f14f
  have HEND : Has (putO14 w2 h ⟨1, 3, 9, [4, 2], 5, bT, bi, bf, noS, 0, 0, 0, 1, []⟩ ⟨some ⟨h + 1, 0, none⟩, 2, none, 0⟩) h (oL ⟨1, 3, 9, [4, 2], 5, bT, bi, bf, noS, 0, 0, 0, 1, []⟩ ⟨some ⟨h + 1, 0, none⟩, 2, none, 0⟩) ∧ OOwn h (putO14 w2 h ⟨1, 3, 9, [4, 2], 5, bT, bi, bf, noS, 0, 0, 0, 1, []⟩ ⟨some ⟨h + 1, 0, none⟩, 2, none, 0⟩) ⟨1, 3, 9, [4, 2], 5, bT, bi, bf, noS, 0, 0, 0, 1, []⟩ ⟨some ⟨h + 1, 0, none⟩, 2, none, 0⟩ ∧ Below h w (putO14 w2 h ⟨1, 3, 9, [4, 2], 5, bT, bi, bf, noS, 0, 0, 0, 1, []⟩ ⟨some ⟨h + 1, 0, none⟩, 2, none, 0⟩) := ⟨has_putO ⟨1, 3, 9, [4, 2], 5, bT, bi, bf, noS, 0, 0, 0, 1, []⟩ ⟨some ⟨h + 1, 0, none⟩, 2, none, 0⟩ H2.out.res rfl, (OOwn.put H2.out.own (Nat.lt_succ_self _)).mono (Nat.le_succ _), below_putO14 H2.out.low (Nat.le_refl _) _ _⟩
  have HE2 : Hid (Has (putO14 w2 h ⟨1, 3, 9, [4, 2], 5, bT, bi, bf, noS, 0, 0, 0, 1, []⟩ ⟨some ⟨h + 1, 0, none⟩, 2, none, 0⟩) h (oL ⟨1, 3, 9, [4, 2], 5, bT, bi, bf, noS, 0, 0, 0, 1, []⟩ ⟨some ⟨h + 1, 0, none⟩, 2, none, 0⟩) ∧ OOwn h (putO14 w2 h ⟨1, 3, 9, [4, 2], 5, bT, bi, bf, noS, 0, 0, 0, 1, []⟩ ⟨some ⟨h + 1, 0, none⟩, 2, none, 0⟩) ⟨1, 3, 9, [4, 2], 5, bT, bi, bf, noS, 0, 0, 0, 1, []⟩ ⟨some ⟨h + 1, 0, none⟩, 2, none, 0⟩ ∧ Below h w (putO14 w2 h ⟨1, 3, 9, [4, 2], 5, bT, bi, bf, noS, 0, 0, 0, 1, []⟩ ⟨some ⟨h + 1, 0, none⟩, 2, none, 0⟩)) := HEND
  clear HEND
  go_wp2
  exact bodyPost_ret (ret_op rfl rfl HE2.out.1) rfl ⟨⟨some ⟨h + 1, 0, none⟩, 2, none, 0⟩, rfl, HE2.out.2⟩

theorem one_any (k : Nat) (hk : k ≤ 5) (w : World) : Calls Try.prog 21 #[.int .i64 (k : Nat)] w fun e w' => ∃ q, e = .returned (oV (oneO k) q) ∧ OOwn w.heap.size w' (oneO k) q ∧ Below w.heap.size w w' := by
  have : k = 0 ∨ k = 1 ∨ k = 2 ∨ k = 3 ∨ k = 4 ∨ k = 5 := by omega
  rcases this with rfl | rfl | rfl | rfl | rfl | rfl
  · exact one_0 w
  · exact one_1 w
  · exact one_2 w
  · exact one_3 w
  · exact one_4 w
  · exact one_5 w

end Go.Proofs.Ytjfgccjdkflfoaa

