/-
  Package op's reader: a row of dots; unfold; by contracts.
-/
import Derived.Test.YtjfgccjdkflfoaaZRead11
import Derived.Test.YtjfgccjdkflfoaaZMay11
import Derived.Test.YtjfgccjdkflfoaaZPack1
import Derived.Deep.AppendLies
import Derived.Test.YtjfgccjdkflfoaaZPack2
import Derived.Deep.Cut
import Derived.Deep.CutRange
import Derived.Deep.MidRow
import Derived.BigFrame
import Derived.BigQuiet
namespace Go.Proofs.Ytjfgccjdkflfoaa
open Go.RowKit
set_option linter.unusedVariables false
set_option linter.unusedSimpArgs false

theorem unfold_any (x : Int) (w : World) (h : 0 ≤ x ∧ x < 9223372036854775808) : Calls Try.prog 53 #[.int .i64 x] w fun e w' => e = .returned (.int .i64 (unfI x)) ∧ w' = w := by
  obtain ⟨n, rfl⟩ := Int.eq_ofNat_of_zero_le h.1
  have hn : n < 9223372036854775808 := by omega
  have e1 : Int.tmod (n : Int) 2 = ((n % 2 : Nat) : Int) := by rw [Int.tmod_eq_emod_of_nonneg (by omega)]; omega
  have e2 : Int.tdiv (n : Int) 2 = ((n / 2 : Nat) : Int) := by rw [Int.tdiv_eq_ediv_of_nonneg (by omega)]; omega
  obtain ⟨m, hm⟩ : ∃ m, n / 2 = m := ⟨_, rfl⟩
  rw [hm] at e2
  unfold unfI
  by_cases h2 : n % 2 = 0
  · rw [h2] at e1
    rw [if_pos (by omega)]
    have e3 : (n : Int) / 2 = (m : Int) := by omega
    rw [e3]
    go_enter Try.func53, Try.ntmps53
    go_wp2
    go_ret
    exact ⟨by go_num, rfl⟩
  · have h3 : n % 2 = 1 := by omega
    rw [h3] at e1
    rw [if_neg (by omega)]
    have e3 : (n : Int) / 2 = (m : Int) := by omega
    rw [e3]
    go_enter Try.func53, Try.ntmps53
    go_wp2
    go_ret
    exact ⟨by go_num, rfl⟩

theorem rdr_under {k B : Nat} {s : ByteArray} {z : Option Nat} {w w' : World} (h : Rdr k s z w) (hk : k < B) (hb : Below B w w') : Rdr k s z w' := by
  cases z with
  | none => obtain ⟨a, h, ha⟩ := h; exact ⟨a, h.under hk hb, ha⟩
  | some c => exact ⟨h.1.under hk hb, h.2⟩
theorem ko_above {k B : Nat} {w w1 w2 : World} (h : KO k w w1) (hB : w.heap.size ≤ B) (hk : k < B) (hb : Below B w1 w2) : KO k w w2 :=
  ⟨h.1.trans (hb.mono (Nat.zero_le _)), fun j hj hS => (hb.block j (by omega)).trans (h.2 j hj hS)⟩

theorem rdN_bound {s : List UInt8} {z : Option Nat} : 0 ≤ (rdN s z).1 ∧ (rdN s z).1 < 9223372036854775808 := by
  cases z with
  | none => exact ⟨Int.le_refl _, by show (0 : Int) < _; omega⟩
  | some a =>
    unfold rdN
    simp only
    by_cases h : (Vi.getI s a).2.2 = 0
    · rw [if_pos h]
      have hg : Vi.getI s a = ((Vi.getI s a).1, (Vi.getI s a).2.1, 0) := by rw [← h]
      have := (Vi.getI_ok hg).2.2.1
      simp only
      omega
    · rw [if_neg h]
      simp only
      omega
theorem rdM_len (s : List UInt8) : ∀ (n : Nat) (z : Option Nat), (rdM s n z).1.length = n
  | 0, _ => rfl
  | n + 1, z => by simp [rdM, rdM_len s n z]
theorem rdL_len (s : List UInt8) : ∀ (n : Nat) (z : Option Nat), (rdL s n z).1.length = n
  | 0, _ => rfl
  | n + 1, z => by simp [rdL, rdL_len s n z]

set_option maxHeartbeats 2000000 in
set_option maxRecDepth 100000 in
/-- As many dots as are told. -/
theorem rdots_yes (k : Nat) (s : ByteArray) (z : Option Nat) (w : World) (hs : s.size ≤ maxLen) (h : Rdr k s z w) (h64 : ¬ 64 < (rdN s.data.toList z).1) :
    Calls Try.prog 54 #[.pointer (some ⟨k, 0, none⟩)] w fun e w' => ∃ ao ca, e = .returned (.slice ao (rdM s.data.toList (rdN s.data.toList z).1.toNat (rdN s.data.toList z).2).1.length ca) ∧ w'.ownsRow w.heap.size 23 2 (.slice ao (rdM s.data.toList (rdN s.data.toList z).1.toNat (rdN s.data.toList z).2).1.length ca) (rdM s.data.toList (rdN s.data.toList z).1.toNat (rdN s.data.toList z).2).1.length (flatD (rdM s.data.toList (rdN s.data.toList z).1.toNat (rdN s.data.toList z).2).1) ∧ Rdr k s (rdM s.data.toList (rdN s.data.toList z).1.toNat (rdN s.data.toList z).2).2 w' ∧ KO k w w' := by
  have C1 := rnum_any k s z w hs h
  have hb := rdN_bound (s := s.data.toList) (z := z)
  generalize hz : rdN s.data.toList z = p at C1 hb h64 ⊢
  obtain ⟨m, z1⟩ := p
  clear hz
  simp only at C1 hb h64 ⊢
  obtain ⟨M, rfl⟩ := Int.eq_ofNat_of_zero_le hb.1
  have hM : M ≤ 64 := by omega
  rw [Int.toNat_natCast]
  rw [rdM_len]
  obtain ⟨B, hB⟩ : ∃ B, w.heap.size = B := ⟨_, rfl⟩
  have hkB : k < B := hB ▸ h.lt
  rw [hB]
  have HB : Hid (w.heap.size = B) := hB
  clear hB h h64
  go_enter Try.func54, Try.ntmps54
  go_wp2_with fail
  refine C1.mono ?_
  rintro e w1 ⟨rfl, r1, k1⟩
  have H1 : Hid (Rdr k s z1 w1 ∧ KO k w w1) := ⟨r1, k1⟩
  clear C1 r1 k1
  go_wp2
  go_loopg [4, 13] M (fun n s4 iv wr => ∃ (i : Nat) (ao : Option Addr) (ca : Nat), i + n = M ∧ iv = .int .i64 i ∧ s4 = .slice ao i ca ∧ Hid (wr.ownsRow B 23 2 (.slice ao i ca) i (flatD (rdM s.data.toList i z1).1) ∧ Rdr k s (rdM s.data.toList i z1).2 wr ∧ KO k w wr ∧ B ≤ wr.heap.size))
  case atStart => exact ⟨0, none, 0, by omega, rfl, rfl, own_nil _ _ _ _, H1.out.1, H1.out.2, by rw [← HB.out]; exact Kept.size H1.out.2⟩
  case round =>
    clear H1
    obtain ⟨i, ao, ca, hin, rfl, rfl, HJ⟩ := hrel
    by_cases hi : i < M
    · obtain ⟨l, hl⟩ : ∃ l, (rdM s.data.toList i z1).1 = l := ⟨_, rfl⟩
      obtain ⟨z2, hz2⟩ : ∃ l, (rdM s.data.toList i z1).2 = l := ⟨_, rfl⟩
      have HL : Hid (l.length = i) := by rw [← hl]; exact rdM_len _ _ _
      have HN : Hid ((rdM s.data.toList (i + 1) z1).1 = l ++ [(rdD s.data.toList z2).1] ∧ (rdM s.data.toList (i + 1) z1).2 = (rdD s.data.toList z2).2) := by
        rw [← hl, ← hz2]
        exact ⟨rfl, rfl⟩
      rw [hl, hz2] at HJ
      have C2 := rdot_any k s z2 wr hs HJ.out.2.1
      obtain ⟨⟨x, y⟩, hxy⟩ : ∃ d, (rdD s.data.toList z2).1 = d := ⟨_, rfl⟩
      obtain ⟨z3, hz3⟩ : ∃ d, (rdD s.data.toList z2).2 = d := ⟨_, rfl⟩
      rw [hxy, hz3] at HN C2
      simp only at C2
      clear hl hz2 hxy hz3
      go_wp2_with fail
      refine C2.mono ?_
      rintro e w2 ⟨rfl, r2, k2⟩
      obtain ⟨n2, hn2⟩ : ∃ n, w2.heap.size = n := ⟨_, rfl⟩
      have hB2 : B ≤ n2 := by have := Kept.size k2; have := HJ.out.2.2.2; omega
      have R : Hid (FRow (w2.alloc (.cells #[.int .i64 x, .int .i64 y] 23)) (some ⟨n2, 0, none⟩) [.int .i64 x, .int .i64 y]) := frow_newAt hn2 [.int .i64 x, .int .i64 y] _
      have hal : Below w2.heap.size w2 (w2.alloc (.cells #[.int .i64 x, .int .i64 y] 23)) := (Below.refl _ _).alloc (Nat.le_refl _) _
      have O : Hid ((w2.alloc (.cells #[.int .i64 x, .int .i64 y] 23)).ownsRow B 23 2 (.slice ao i ca) i (flatD l) ∧ Rdr k s z3 (w2.alloc (.cells #[.int .i64 x, .int .i64 y] 23)) ∧ KO k w (w2.alloc (.cells #[.int .i64 x, .int .i64 y] 23))) :=
        ⟨own_later (own_ko HJ.out.1 k2 hkB) hal, r2.later hal, (HJ.out.2.2.1.trans k2).trans (Kept.of hal)⟩
      clear r2 k2 C2 hal
      go_wp2_with (at_builtin; refine wpList_onto rfl _ _ 27 rfl Try.underlying27 Try.infoDot rfl (by decide) (by decide) (B := B) rfl rfl O.out.1 R.out rfl (fun u hu => oneD (l := [(x, y)]) (by simpa [flatD, d2] using hu)) (by omega) (by simp; omega) ?_; intro b2 c2 w3 o3 n3 bb3; have H3 : Hid (w3.ownsRow B 23 2 (.slice b2 (i + 1) c2) (i + 1) (flatD (l ++ [(x, y)])) ∧ Below B (w2.alloc (.cells #[.int .i64 x, .int .i64 y] 23)) w3) := ⟨by rw [flatD_append]; exact o3, bb3⟩; clear o3 n3 bb3)
      go_roundg (gk - 1)
      case measure => omega
      case rel =>
        refine ⟨i + 1, b2, c2, by omega, by go_num, rfl, ?_⟩
        have hb := H3.out.2
        show _ ∧ _ ∧ _ ∧ _
        rw [HN.out.1, HN.out.2]
        refine ⟨H3.out.1, rdr_under O.out.2.1 hkB hb, ko_above O.out.2.2 (by rw [HB.out]; exact Nat.le_refl _) hkB hb, by have := hb.size; simp at this; omega⟩
    · have hd : decide ((i : Int) < (M : Int)) = false := by simp; omega
      have hiM : i = M := by omega
      subst hiM
      go_wp2
      go_ret
      exact ⟨ao, ca, rfl, HJ.out.1, HJ.out.2.1, HJ.out.2.2.1⟩

end Go.Proofs.Ytjfgccjdkflfoaa

/-
  What the reading of an operation keeps: the reader, the place of the answer, the operation that is made, its two rows. A step of append in a region that draws its order.
-/
namespace Go.Proofs.Ytjfgccjdkflfoaa
open Go.RowKit
set_option linter.unusedVariables false
set_option linter.unusedSimpArgs false

abbrev pq0 : Pq := ⟨none, 0, none, 0⟩
abbrev zL : List Value := [.int .i64 0, .int .i64 0, .int .i64 0, .slice none 0 0, .int .i64 0, .string ⟨#[]⟩, .string ⟨#[]⟩, .string ⟨#[]⟩, .string ⟨#[]⟩, .int .i64 0, .int .i64 0, .int .i64 0, .int .i64 0, .slice none 0 0]

structure RS (w0 : World) (k g4 g5 : Nat) (s : ByteArray) (z : Option Nat) (o : O14) (q : Pq) (w : World) : Prop where
  rd : Rdr k s z w
  res : Has w g4 zL
  cur : Has w g5 (oL o q)
  deps : w.ownsRow (g5 + 1) 3 1 (.slice q.po o.deps.length q.pc) o.deps.length (flatI o.deps)
  dots : w.ownsRow (g5 + 1) 23 2 (.slice q.qo o.dots.length q.qc) o.dots.length (flatD o.dots)
  ko : KO k w0 w
  kg : k < g5
  k4 : g4 ≠ k
  h45 : g4 < g5
  h4 : w0.heap.size ≤ g4

theorem own_set {B n s : Nat} {e : TypeId} {v : Value} {xs : List Value} {w : World} (h : w.ownsRow B e s v n xs) {g : Nat} (hg : g < B) (o : Nat) (u : Value) : (w.setCell ⟨g, o, none⟩ u).ownsRow B e s v n xs :=
  h.kept (row := some g) ⟨rfl, rfl, rfl, by simp, fun j hj hjk => Below.heap_setCell _ _ _ _ (fun e => hjk (by have e2 : j = g := e; rw [e2]))⟩ (by
    rcases hv : v.ownBlock with _ | b
    · exact Or.inl rfl
    · exact Or.inr (by have := (h.lt b hv).1; intro e; injection e; omega))
section
variable {w0 w w' : World} {k g4 g5 : Nat} {s : ByteArray} {z z' : Option Nat} {o : O14} {q : Pq}
theorem RS.call (H : RS w0 k g4 g5 s z o q w) (r : Rdr k s z' w') (kk : KO k w w') : RS w0 k g4 g5 s z' o q w' :=
  ⟨r, H.res.ko kk H.k4, H.cur.ko kk (by have := H.kg; omega), own_ko H.deps kk (by have := H.kg; omega), own_ko H.dots kk (by have := H.kg; omega), H.ko.trans kk, H.kg, H.k4, H.h45, H.h4⟩
theorem RS.later (H : RS w0 k g4 g5 s z o q w) (hb : Below w.heap.size w w') : RS w0 k g4 g5 s z o q w' :=
  ⟨H.rd.later hb, H.res.later hb, H.cur.later hb, own_later H.deps hb, own_later H.dots hb, H.ko.trans (Kept.of hb), H.kg, H.k4, H.h45, H.h4⟩
theorem RS.set (H : RS w0 k g4 g5 s z o q w) (i : Nat) (v : Value) (o' : O14) (he : (oL o q).set i v = oL o' q) (hd : o'.deps = o.deps) (ht : o'.dots = o.dots) : RS w0 k g4 g5 s z o' q (w.setCell ⟨g5, i, none⟩ v) :=
  ⟨rdr_off H.rd (by have := H.kg; omega) _ _, H.res.other (by have := H.h45; omega) _ _, he ▸ H.cur.put i v, by rw [hd]; exact own_set H.deps (Nat.lt_succ_self _) _ _, by rw [ht]; exact own_set H.dots (Nat.lt_succ_self _) _ _,
    ko_new H.ko (by have := H.h45; have := H.h4; omega) _ _, H.kg, H.k4, H.h45, H.h4⟩
/-- Behind an append to the row of its Deps. -/
theorem RS.depsB (H : RS w0 k g4 g5 s z o q w) {w2 : World} (hb : Below (g5 + 1) w w2) {bo : Option Addr} {cb : Nat} {l : List Int} (ho : w2.ownsRow (g5 + 1) 3 1 (.slice bo l.length cb) l.length (flatI l))
    (hdots : o.dots = []) (hq : q.qo = none ∧ q.qc = 0) : RS w0 k g4 g5 s z { o with deps := l } ⟨bo, cb, q.qo, q.qc⟩ (w2.setCell ⟨g5, 3, none⟩ (.slice bo l.length cb)) := by
  have hk5 := H.kg
  have h45 := H.h45
  have h4 := H.h4
  have hd2 : w2.ownsRow (g5 + 1) 23 2 (.slice q.qo o.dots.length q.qc) o.dots.length (flatD o.dots) := by
    rw [hdots, hq.1, hq.2]
    exact own_nil _ _ _ _
  have hcur : Has w2 g5 (oL o q) := H.cur.under (Nat.lt_succ_self _) hb
  exact ⟨rdr_off (rdr_under H.rd (by omega) hb) (by omega) _ _, (H.res.under (by omega) hb).other (by omega) _ _, hcur.put 3 _, own_set ho (Nat.lt_succ_self _) _ _, own_set hd2 (Nat.lt_succ_self _) _ _,
    ko_new (ko_above H.ko (by omega) (by omega) hb) (by omega) _ _, hk5, H.k4, h45, h4⟩
/-- Behind a row of dots. -/
theorem RS.dotsB (H : RS w0 k g4 g5 s z o q w) (r : Rdr k s z' w') (kk : KO k w w') {ao : Option Addr} {ca n : Nat} {l : List D2} (hn : n = l.length) (ho : w'.ownsRow w.heap.size 23 2 (.slice ao n ca) n (flatD l)) :
    RS w0 k g4 g5 s z' { o with dots := l } ⟨q.po, q.pc, ao, ca⟩ (w'.setCell ⟨g5, 13, none⟩ (.slice ao n ca)) := by
  subst hn
  have C := H.call r kk
  have h5 := H.cur.1
  exact ⟨rdr_off C.rd (by have := H.kg; omega) _ _, C.res.other (by have := H.h45; omega) _ _, C.cur.put 13 _, own_set C.deps (Nat.lt_succ_self _) _ _, own_set (own_mono ho (by omega)) (Nat.lt_succ_self _) _ _,
    ko_new C.ko (by have := H.h45; have := H.h4; omega) _ _, H.kg, H.k4, H.h45, H.h4⟩
end

/-- 'append(own, x)' in a region that draws its order; x lies in a block of its own. -/
theorem step_onto1 {P : Program} {ops : Array Oper} {o : Oper} {a : Act} {K : Act → World → Prop} {Q : Exit → Act → World → Prop} {E : Prop} (hgd : o.guard = none) (s x : Operand) (t : TypeId)
    (ho : o.op = .call { callee := .builtin .append, args := #[s, x], argTypes := #[t, t] })
    {e : TypeId} {size bytes : Nat} {z : Value} (ht : P.underlying t = some (.slice e)) (hinfo : (P.info? e).map (fun i => (i.zero, i.size, i.bytes)) = some (some z, size, bytes)) (hzs : z.cells.size = size) (hsz : 0 < size) (hby : 0 < bytes)
    {B n g : Nat} {bo : Option Addr} {cb : Nat} {xs news : List Value} {W : World}
    (hs : a.eval s = .slice bo n cb) (hx : a.eval x = .slice (some ⟨g, 0, none⟩) 1 1)
    (hown : W.ownsRow B e size (.slice bo n cb) n xs) (hnew : Has W g news) (hl : news.length = size) (hone : ∀ u ∈ news, u.oneCell' = true) (hlen : (n + 1) * bytes ≤ 140737488355328) (hB : B ≤ W.heap.size)
    (h : ∀ bo' cb' w', w'.ownsRow B e size (.slice bo' (n + 1) cb') (n + 1) (xs ++ news) → Below B W w' → K (a.put o.dst (.slice bo' (n + 1) cb')) w') :
    if Region.wanted o (yielded ops a.tmps) = true then Oper.wp P o a W K Q else E := by
  obtain ⟨i0, hi, hz0, hz1, hz2⟩ := info_parts hinfo
  have hnn : n + 1 ≤ (n + 1) * bytes := Nat.le_mul_of_pos_right _ hby
  refine step_append_lies _ hgd s x t ho B e i0 z size bytes ht hi hz0 hz1 hz2 hzs hsz _ n xs hs hown ⟨g, 0, none⟩ 1 1 news hx (by omega) (fun j u hj => by rw [add_off, Nat.zero_add]; exact hnew.at j hj) hone (by omega) (by unfold maxLen; omega) hlen hB _ rfl ?_
  intro b' c' w' hown' hgrow _ _
  exact h _ _ w' hown' (below_grownS hown hB hgrow)

theorem Has.f14f {w : World} {g : Nat} {u0 u1 u2 u3 u4 u5 u6 u7 u8 u9 u10 u11 u12 u13 : Value} (h : Has w g [u0, u1, u2, u3, u4, u5, u6, u7, u8, u9, u10, u11, u12, u13]) :
    w.frozen? ⟨g, 0, none⟩ = false ∧ w.frozen? ⟨g, 1, none⟩ = false ∧ w.frozen? ⟨g, 2, none⟩ = false ∧ w.frozen? ⟨g, 3, none⟩ = false ∧ w.frozen? ⟨g, 4, none⟩ = false ∧ w.frozen? ⟨g, 5, none⟩ = false ∧ w.frozen? ⟨g, 6, none⟩ = false ∧ w.frozen? ⟨g, 7, none⟩ = false ∧ w.frozen? ⟨g, 8, none⟩ = false ∧ w.frozen? ⟨g, 9, none⟩ = false ∧ w.frozen? ⟨g, 10, none⟩ = false ∧ w.frozen? ⟨g, 11, none⟩ = false ∧ w.frozen? ⟨g, 12, none⟩ = false ∧ w.frozen? ⟨g, 13, none⟩ = false :=
  ⟨h.free 0 rfl, h.free 1 rfl, h.free 2 rfl, h.free 3 rfl, h.free 4 rfl, h.free 5 rfl, h.free 6 rfl, h.free 7 rfl, h.free 8 rfl, h.free 9 rfl, h.free 10 rfl, h.free 11 rfl, h.free 12 rfl, h.free 13 rfl⟩
abbrev put14 (w : World) (g : Nat) (u0 u1 u2 u3 u4 u5 u6 u7 u8 u9 u10 u11 u12 u13 : Value) : World := (((((((((((((w.setCell ⟨g, 0, none⟩ u0).setCell ⟨g, 1, none⟩ u1).setCell ⟨g, 2, none⟩ u2).setCell ⟨g, 3, none⟩ u3).setCell ⟨g, 4, none⟩ u4).setCell ⟨g, 5, none⟩ u5).setCell ⟨g, 6, none⟩ u6).setCell ⟨g, 7, none⟩ u7).setCell ⟨g, 8, none⟩ u8).setCell ⟨g, 9, none⟩ u9).setCell ⟨g, 10, none⟩ u10).setCell ⟨g, 11, none⟩ u11).setCell ⟨g, 12, none⟩ u12).setCell ⟨g, 13, none⟩ u13
abbrev putO14 (w : World) (g : Nat) (o : O14) (q : Pq) : World := put14 w g (.int .i64 o.dn) (.int .i64 o.ds) (.int .i64 o.time) (.slice q.po o.deps.length q.pc) (.int .i64 o.kind) (.string o.type) (.string o.id) (.string o.field) (.string o.value) (.int .i64 o.re) (.int .i64 o.im) (.int .i64 o.rn) (.int .i64 o.rs) (.slice q.qo o.dots.length q.qc)
theorem has_putO {w : World} {g : Nat} {xs : List Value} (o : O14) (q : Pq) (h : Has w g xs) (hl : xs.length = 14) : Has (putO14 w g o q) g (oL o q) := by
  match xs, hl with
  | [x0, x1, x2, x3, x4, x5, x6, x7, x8, x9, x10, x11, x12, x13], _ =>
    exact (((((((((((((h.put 0 _).put 1 _).put 2 _).put 3 _).put 4 _).put 5 _).put 6 _).put 7 _).put 8 _).put 9 _).put 10 _).put 11 _).put 12 _).put 13 _
/-- What a function answers whose answer is an operation. -/
theorem ret_op {fn : Func} {tmps : Array Value} {t : Tmp} {w : World} {g : Nat} {u0 u1 u2 u3 u4 u5 u6 u7 u8 u9 u10 u11 u12 u13 : Value} (h : fn.results = #[.cell t 29]) (ht : tmps[t]? = some (.pointer (some ⟨g, 0, none⟩))) (hg : Has w g [u0, u1, u2, u3, u4, u5, u6, u7, u8, u9, u10, u11, u12, u13]) :
    (results fn tmps).run Try.prog w = .ok (.agg #[u0, u1, u2, u3, u4, u5, u6, u7, u8, u9, u10, u11, u12, u13]) w := by
  obtain ⟨h0, h1, h2, h3, h4, h5, h6, h7, h8, h9, h10, h11, h12, h13⟩ := hg.f14
  clear hg
  simp [results, h, ht, h0, h1, h2, h3, h4, h5, h6, h7, h8, h9, h10, h11, h12, h13, go_sem]
theorem ret_op2 {fn : Func} {tmps : Array Value} {t u : Tmp} {w : World} {g : Nat} {v u0 u1 u2 u3 u4 u5 u6 u7 u8 u9 u10 u11 u12 u13 : Value} (h : fn.results = #[.cell t 29, .tmp u]) (ht : tmps[t]? = some (.pointer (some ⟨g, 0, none⟩))) (hu : tmps[u]? = some v) (hg : Has w g [u0, u1, u2, u3, u4, u5, u6, u7, u8, u9, u10, u11, u12, u13]) :
    (results fn tmps).run Try.prog w = .ok (.tuple #[.agg #[u0, u1, u2, u3, u4, u5, u6, u7, u8, u9, u10, u11, u12, u13], v]) w := by
  obtain ⟨h0, h1, h2, h3, h4, h5, h6, h7, h8, h9, h10, h11, h12, h13⟩ := hg.f14
  clear hg
  simp [results, h, ht, hu, h0, h1, h2, h3, h4, h5, h6, h7, h8, h9, h10, h11, h12, h13, go_sem]
/-- Its rows lie in memory of their own. -/
def OOwn (B : Nat) (w : World) (o : O14) (q : Pq) : Prop := w.ownsRow B 3 1 (.slice q.po o.deps.length q.pc) o.deps.length (flatI o.deps) ∧ w.ownsRow B 23 2 (.slice q.qo o.dots.length q.qc) o.dots.length (flatD o.dots)
theorem OOwn.row {B : Nat} {w : World} {o : O14} {q : Pq} (h : OOwn B w o q) : ORow w o q := ⟨(own_row h.1).row, (own_row h.2).row⟩
theorem OOwn.later {B : Nat} {w w' : World} {o : O14} {q : Pq} (h : OOwn B w o q) (hb : Below w.heap.size w w') : OOwn B w' o q := ⟨own_later h.1 hb, own_later h.2 hb⟩
theorem OOwn.mono {B C : Nat} {w : World} {o : O14} {q : Pq} (h : OOwn B w o q) (hC : C ≤ B) : OOwn C w o q := ⟨own_mono h.1 hC, own_mono h.2 hC⟩
theorem OOwn.set {B : Nat} {w : World} {o : O14} {q : Pq} (h : OOwn B w o q) {g : Nat} (hg : g < B) (i : Nat) (v : Value) : OOwn B (w.setCell ⟨g, i, none⟩ v) o q := ⟨own_set h.1 hg _ _, own_set h.2 hg _ _⟩
theorem OOwn.put {B : Nat} {w : World} {o o' : O14} {q q' : Pq} (h : OOwn B w o q) {g : Nat} (hg : g < B) : OOwn B (putO14 w g o' q') o q :=
  (((((((((((((h.set hg _ _).set hg _ _).set hg _ _).set hg _ _).set hg _ _).set hg _ _).set hg _ _).set hg _ _).set hg _ _).set hg _ _).set hg _ _).set hg _ _).set hg _ _).set hg _ _
theorem ko_put14 {k g : Nat} {w w' : World} (h : KO k w w') (hg : w.heap.size ≤ g) (o : O14) (q : Pq) : KO k w (putO14 w' g o q) := by
  repeat apply ko_new (hg := hg)
  exact h
theorem rdr_put14 {k g : Nat} {s : ByteArray} {z : Option Nat} {w : World} (h : Rdr k s z w) (hne : g ≠ k) (o : O14) (q : Pq) : Rdr k s z (putO14 w g o q) := by
  repeat apply rdr_off (hne := hne)
  exact h

end Go.Proofs.Ytjfgccjdkflfoaa

/-
  Package op's writer: number, text, dot, dots, by contracts: what it writes behind what stands there.
-/
namespace Go.Proofs.Ytjfgccjdkflfoaa
open Go.RowKit
set_option linter.unusedVariables false
set_option linter.unusedSimpArgs false

set_option maxHeartbeats 1000000 in
set_option maxRecDepth 100000 in
theorem wnum_any (b : Nat) (l : List UInt8) (x : Int) (w : World) (h : Wrt b l w) (h0 : 0 ≤ x ∧ x < 9223372036854775808) (hl : l.length ≤ 1000000) :
    Calls Try.prog 46 #[.pointer (some ⟨b, 0, none⟩), .int .i64 x] w fun e w' => e = .returned (.tuple #[]) ∧ Wrt b (l ++ pI x) w' ∧ WF b w w' := by
  obtain ⟨n, rfl⟩ := Int.eq_ofNat_of_zero_le h0.1
  have hn9 := Vi.put_length_le n
  have HW : Hid (Wrt b l w) := h
  have hlt := h.lt
  clear h
  go_enter Try.func46, Try.ntmps46
  go_wp2_with fail
  refine (put_nat n _ (by omega)).mono ?_
  rintro e w1 ⟨rfl, b1⟩
  have H1 := HW.out.later b1
  go_wp2_with fail
  refine (wstring_any b l _ _ H1 (by simp [ByteArray.size]; omega)).mono ?_
  rintro e w2 ⟨rfl, h2, k2⟩
  go_wp2
  first | go_ret | go_end0
  refine ⟨rfl, ?_, (WF.of b1 (Nat.le_of_lt hlt)).trans k2⟩
  simpa [pI] using h2

theorem pT_size (s : ByteArray) : (⟨(pT s).toArray⟩ : ByteArray).size = (Vi.put s.size).length + s.size := by
  show (List.toArray (pT s)).size = _
  unfold pT
  rw [List.size_toArray, List.length_append, size_list]

set_option maxHeartbeats 1000000 in
set_option maxRecDepth 100000 in
theorem wtext_any (b : Nat) (l : List UInt8) (s : ByteArray) (w : World) (h : Wrt b l w) (hs : s.size ≤ 65536) (hl : l.length ≤ 1000000) :
    Calls Try.prog 47 #[.pointer (some ⟨b, 0, none⟩), .string s] w fun e w' => e = .returned (.tuple #[]) ∧ Wrt b (l ++ pT s) w' ∧ WF b w w' := by
  have hn9 := Vi.put_length_le s.size
  have HW : Hid (Wrt b l w) := h
  have hlt := h.lt
  have hp : Vi.putText s.data.toList = (pT s, 0) := by
    unfold Vi.putText pT
    rw [size_list, if_neg (by omega)]
  clear h
  go_enter Try.func47, Try.ntmps47
  go_wp2_with fail
  refine (putText_any s _ (by unfold maxLen; omega) hp).mono ?_
  rintro e w1 ⟨rfl, b1⟩
  have H1 := HW.out.later b1
  go_wp2_with fail
  refine (wstring_any b l _ _ H1 (by rw [pT_size]; omega)).mono ?_
  rintro e w2 ⟨rfl, h2, k2⟩
  go_wp2
  first | go_ret | go_end0
  exact ⟨rfl, by simpa using h2, (WF.of b1 (Nat.le_of_lt hlt)).trans k2⟩

set_option maxHeartbeats 1000000 in
set_option maxRecDepth 100000 in
theorem wdot_any (b : Nat) (l : List UInt8) (x y : Int) (w : World) (h : Wrt b l w) (h0 : 0 ≤ x ∧ x < 9223372036854775808) (h1 : 0 ≤ y ∧ y < 9223372036854775808) (hl : l.length ≤ 900000) :
    Calls Try.prog 45 #[.pointer (some ⟨b, 0, none⟩), .agg #[.int .i64 x, .int .i64 y]] w fun e w' => e = .returned (.tuple #[]) ∧ Wrt b (l ++ pD (x, y)) w' ∧ WF b w w' := by
  obtain ⟨k, hk⟩ : ∃ k, w.heap.size = k := ⟨_, rfl⟩
  have hbk : b < k := hk ▸ h.lt
  have hal : Below w.heap.size w (w.alloc (.cells #[.int .i64 x, .int .i64 y] 23)) := (Below.refl _ _).alloc (Nat.le_refl _) _
  have H0 : Hid (Wrt b l (w.alloc (.cells #[.int .i64 x, .int .i64 y] 23)) ∧ Box (w.alloc (.cells #[.int .i64 x, .int .i64 y] 23)) k 23 [.int .i64 x, .int .i64 y] ∧ WF b w (w.alloc (.cells #[.int .i64 x, .int .i64 y] 23))) := ⟨h.later hal, box_new hk _ [.int .i64 x, .int .i64 y], WF.of hal (by omega)⟩
  have hx9 := pI_len x
  clear h hal
  go_enter Try.func45, Try.ntmps45
  go_upto_region 1 with fail
  generalize hW : w.alloc (.cells #[.int .i64 x, .int .i64 y] 23) = w1 at H0 ⊢
  clear hW hk
  obtain ⟨c0, c1⟩ := (⟨H0.out.2.1.has.at 0 rfl, H0.out.2.1.has.at 1 rfl⟩ : w1.cell? ⟨k, 0, none⟩ = some (.int .i64 x) ∧ w1.cell? ⟨k, 1, none⟩ = some (.int .i64 y))
  go_wp2_with fail
  refine (wnum_any b l x _ H0.out.1 h0 (by omega)).mono ?_
  rintro e w2 ⟨rfl, g2, k2⟩
  have H2 : Hid (Wrt b (l ++ pI x) w2 ∧ WF b w w2) := ⟨g2, H0.out.2.2.trans k2⟩
  have B2 := H0.out.2.1.kept k2 hbk (by decide)
  obtain ⟨c0, c1⟩ := (⟨B2.has.at 0 rfl, B2.has.at 1 rfl⟩ : w2.cell? ⟨k, 0, none⟩ = some (.int .i64 x) ∧ w2.cell? ⟨k, 1, none⟩ = some (.int .i64 y))
  clear g2 k2
  go_wp2_with fail
  refine (wnum_any b (l ++ pI x) y _ H2.out.1 h1 (by simp; omega)).mono ?_
  rintro e w3 ⟨rfl, g3, k3⟩
  go_wp2
  first | go_ret | go_end0
  exact ⟨rfl, by unfold pD; rw [← List.append_assoc]; exact g3, H2.out.2.trans k3⟩

end Go.Proofs.Ytjfgccjdkflfoaa

/-
  An operation that comes as an argument: what its fourteen cells hold, where its rows lie, what memory bears of it.
-/
namespace Go.Proofs.Ytjfgccjdkflfoaa
open Go.ChangeShapes Go.WideShapes Go.ChangeAt Go.RowKit
set_option linter.unusedVariables false
set_option linter.unusedSimpArgs false

section
variable {H : Type} {enc : TypeId × Value → H} {w : World}

theorem dec_dot2 (fuel : Nat) (cs : List Value) (x : DataW H × List MemPlace) (h : DataW.trod enc Try.prog w 0 (fun _ => true) true fuel 23 cs = some x) (hl : cs.length = 2) : ∃ a : D2, cs = d2 a ∧ ∀ k ∈ ([] : List Nat), k ∈ x.1.weights Try.prog 23 := by
  match cs, hl with
  | [a, b], _ =>
    obtain ⟨y, z, rfl, rfl, _, _⟩ := dec_two Try.underlying23 rfl rfl rfl rfl h
    exact ⟨(y, z), rfl, fun k hk => by simp at hk⟩

set_option maxRecDepth 100000 in
/-- An operation that comes as an argument. -/
theorem open_op {base : Nat} {v : Value} {d : DataW H} {p : List MemPlace} (ok : Value.okWide Try.prog w .any base 29 v) (h : DataW.Trod enc Try.prog w 0 (fun _ => true) true 29 v d p) (hw : ∀ n, n ∈ d.weights Try.prog 29 → n ≤ reachBytes) :
    ∃ (o : O14) (q : Pq), v = oV o q ∧ ORow w o q ∧ Siz o := by
  have c0 : Try.prog.cellsOf 29 = 14 := by kernel_rfl
  have c1 : Try.prog.cellsOf 23 = 2 := by kernel_rfl
  have c2 : Try.prog.cellsOf 26 = 2 := by kernel_rfl
  have c3 : Try.prog.cellsOf 3 = 1 := by kernel_rfl
  have c5 : Try.prog.cellsOf 9 = 1 := by kernel_rfl
  have c6 : Try.prog.cellsOf 27 = 1 := by kernel_rfl
  have c8 : Try.prog.cellsOf 24 = 1 := by kernel_rfl
  obtain ⟨cs, rfl, hcs⟩ := okWide_struct Try.underlying29 ok
  rw [c0] at hcs
  obtain ⟨fuel, hf⟩ := h
  obtain ⟨xs, n, _, hx, _, hxl, hg⟩ := DataW.trod_struct Try.underlying29 hf
  obtain ⟨l⟩ := cs
  match l, hcs, xs, hxl with
  | [a0, a1, a2, a3, a4, a5, a6, a7, a8, a9, a10, a11, a12, a13], _, [y0, y1, y2, y3, y4, y5, y6, y7, y8, y9, y10], _ =>
    have g0 := hg 0 _ rfl
    have g1 := hg 1 _ rfl
    have g2 := hg 2 _ rfl
    have g3 := hg 3 _ rfl
    have g4 := hg 4 _ rfl
    have g5 := hg 5 _ rfl
    have g6 := hg 6 _ rfl
    have g7 := hg 7 _ rfl
    have g8 := hg 8 _ rfl
    have g9 := hg 9 _ rfl
    have g10 := hg 10 _ rfl
    simp [Value.cells, c1, c2, c3, c5, c6, c8] at g0 g1 g2 g3 g4 g5 g6 g7 g8 g9 g10
    obtain ⟨dn, ds, rfl, rfl, _, _⟩ := dec_two Try.underlying23 rfl rfl rfl rfl g0
    obtain ⟨time, ht, _, _⟩ := DataW.trod_int Try.underlying3 g1
    obtain ⟨kind, hk, _, _⟩ := DataW.trod_int Try.underlying3 g3
    obtain ⟨s4, hs4, hy4, _⟩ := DataW.trod_string Try.underlying9 g4
    obtain ⟨s5, hs5, hy5, _⟩ := DataW.trod_string Try.underlying9 g5
    obtain ⟨s6, hs6, hy6, _⟩ := DataW.trod_string Try.underlying9 g6
    obtain ⟨s7, hs7, hy7, _⟩ := DataW.trod_string Try.underlying9 g7
    obtain ⟨re, im, rfl, rfl, _, _⟩ := dec_two Try.underlying26 rfl rfl rfl rfl g8
    obtain ⟨rn, rs, rfl, rfl, _, _⟩ := dec_two Try.underlying23 rfl rfl rfl rfl g9
    obtain ⟨d2', p2⟩ := y2
    obtain ⟨d10, p10⟩ := y10
    obtain ⟨is, so, sc, rfl, re7, k7⟩ := rows_trod (0 : Int) (fun a => [.int .i64 a]) 1 8 (fun _ => rfl) (fun _ => []) Try.underlying24 (by kernel_rfl) (by decide) (by kernel_rfl) dec_int g2
    obtain ⟨es, eo, ec, rfl, re5, k5⟩ := rows_trod ((0, 0) : D2) d2 2 16 (fun _ => rfl) (fun _ => []) Try.underlying27 (by kernel_rfl) (by decide) (by kernel_rfl) dec_dot2 g10
    simp only [List.cons.injEq, and_true] at ht hk hs4 hs5 hs6 hs7
    subst ht hk hs4 hs5 hs6 hs7
    simp only [Prod.mk.injEq] at hx
    have hall : ∀ (j : Nat) (tt : TypeId) (dd : DataW H), ([23, 3, 24, 3, 9, 9, 9, 9, 26, 23, 27] : List TypeId)[j]? = some tt → ([y0.1, y1.1, d2', y3.1, y4.1, y5.1, y6.1, y7.1, y8.1, y9.1, d10] : List (DataW H))[j]? = some dd → ∀ k ∈ dd.weights Try.prog tt, k ≤ 140737488351232 := fun j tt dd hj hd k hk => by
      have h1 := hw k (by
        rw [hx.1]
        simp only [DataW.weights, Try.underlying29]
        exact DataW.weights_mem_each hj hd k hk)
      unfold reachBytes at h1
      omega
    have kk7 := k7 140737488351232 (hall 2 _ _ rfl rfl)
    have kk5 := k5 140737488351232 (hall 10 _ _ rfl rfl)
    refine ⟨⟨dn, ds, time, is, kind, s4, s5, s6, s7, re, im, rn, rs, es⟩, ⟨so, sc, eo, ec⟩, rfl, ⟨?_, re5⟩, ⟨kk7.1, kk5.1, ?_, ?_, ?_, ?_⟩⟩
    · show FRow w so (flatI is)
      rw [flatI_flat]; exact re7
    · exact hall 4 _ _ rfl rfl s4.size (by rw [hy4]; simp [DataW.weights])
    · exact hall 5 _ _ rfl rfl s5.size (by rw [hy5]; simp [DataW.weights])
    · exact hall 6 _ _ rfl rfl s6.size (by rw [hy6]; simp [DataW.weights])
    · exact hall 7 _ _ rfl rfl s7.size (by rw [hy7]; simp [DataW.weights])

end

end Go.Proofs.Ytjfgccjdkflfoaa

/-
  An operation is read out of its block in one step.
-/
namespace Go.Proofs.Ytjfgccjdkflfoaa
open Go.RowKit
set_option linter.unusedVariables false
set_option linter.unusedSimpArgs false

theorem Try.infoOp : (Try.prog.info? 29).map (·.size) = some 14 := by kernel_rfl
/-- Read in one step. -/
abbrev Ld (W : World) (g : Nat) (v : Value) : Prop := (Instr.loadAt 29 (.pointer (some ⟨g, 0, none⟩))).run Try.prog W = .ok v W
theorem ld_op {W : World} {g : Nat} {o : O14} {q : Pq} (h : Has W g (oL o q)) : Ld W g (oV o q) :=
  run_loadAt_mid W g 0 29 (oL o q) _ (fun j v hv => by rw [Nat.zero_add]; exact h.at j hv) Try.underlying29 rfl Try.infoOp
theorem ld_any {B : Nat} {W : World} {g : Nat} {o : O14} {q : Pq} (h : Has W g (oL o q)) (hg : g < B) (r : MW B W) : Ld r.w g (oV o q) := ld_op (h.under hg r.h.1)

theorem exec_ld {op : Oper} {a : Act} {W : World} {x : Operand} {g : Nat} {v : Value} (hl : Ld W g v) (ho : op.op = .load 29 x) (hx : a.eval x = .pointer (some ⟨g, 0, none⟩)) : (execOp a.eval op).run Try.prog W = .ok (.value v) W := by
  unfold execOp
  simp only [ho, hx, Sem.run_bind, Sem.run_pure, Result.andThen_ok, hl]
/-- At a list of operations. -/
theorem wpList_ld {ops : Array Oper} {rest : List Oper} {op : Oper} {a : Act} {W : World} {Q : Exit → Act → World → Prop} {x : Operand} {g : Nat} {v : Value} (hl : Ld W g v) (hw : Region.wanted op (yielded ops a.tmps) = true) (ho : op.op = .load 29 x) (hx : a.eval x = .pointer (some ⟨g, 0, none⟩))
    (h : wpList Try.prog ops Q rest (a.put op.dst v) W) : wpList Try.prog ops Q (op :: rest) a W :=
  BigFrame.wpList_want hw fun K hK => by
    unfold Oper.wp
    rw [exec_ld hl ho hx]
    exact hK _ _ h
/-- In a region that draws its order. -/
theorem wpQuiet_ld {ops : Array Oper} {rest : List Oper} {op : Oper} {a : Act} {C : World → Prop} {Q : Act → Prop} {x : Operand} {g : Nat} {v : Value} (hl : ∀ w, C w → Ld w g v) (hw : Region.wanted op (yielded ops a.tmps) = true) (ho : op.op = .load 29 x) (hx : a.eval x = .pointer (some ⟨g, 0, none⟩))
    (h : wpQuiet Try.prog ops C Q rest (a.put op.dst v)) : wpQuiet Try.prog ops C Q (op :: rest) a :=
  BigFrame.wpQuiet_want hw fun K hK => ⟨v, fun w hC => by
    unfold Oper.quietAt
    rw [exec_ld (hl w hC) ho hx]
    exact ⟨rfl, rfl⟩, hK _ h⟩
/-- .. of the worlds that stand above one. -/
theorem ld_mild {B : Nat} {W : World} {g : Nat} {o : O14} {q : Pq} (h : Has W g (oL o q)) (hg : g < B) : ∀ w, (∃ r : MW B W, w = r.w) → Ld w g (oV o q) := fun w ⟨r, e⟩ => e ▸ ld_any h hg r

end Go.Proofs.Ytjfgccjdkflfoaa

