/-
  The document's reader: a folded number; what the loop over Dots keeps; what the end of GetOp asks.
-/
import Derived.Test.YtjfgccjdkflfoaaZGet11
import Derived.Test.YtjfgccjdkflfoaaZWriteOp11
import Derived.Test.YtjfgccjdkflfoaaZOpMay11
namespace Go.Proofs.Ytjfgccjdkflfoaa
open Go.RowKit
set_option linter.unusedVariables false
set_option linter.unusedSimpArgs false

theorem and_low (n m : Nat) (h : n < 9223372036854775808) (hm : m < 9223372036854775808) : bits .and .i64 (n : Int) (m : Int) = ((n &&& m : Nat) : Int) := by
  show IntKind.i64.wrap ((BitVec.ofInt 64 (n : Int) &&& BitVec.ofInt 64 (m : Int)).toNat : Int) = _
  rw [BitVec.toNat_and, ofInt_u64 m (by omega), ofInt_u64 n (by omega), IntKind.wrap_i64]
  have := Nat.and_le_left (n := n) (m := m)
  omega
theorem and_one (n : Nat) (h : n < 9223372036854775808) : bits .and .i64 (n : Int) 1 = ((n % 2 : Nat) : Int) := by
  have h1 := and_low n 1 h (by omega)
  rw [Nat.and_one_is_mod] at h1
  exact h1

set_option maxHeartbeats 1000000 in
set_option maxRecDepth 100000 in
theorem dpart_any (k : Nat) (s : ByteArray) (z : Option Nat) (w : World) (hs : s.size ≤ maxLen) (h : Rdr k s z w) :
    Calls Try.prog 30 #[.pointer (some ⟨k, 0, none⟩)] w fun e w' => e = .returned (.int .i64 (unfI (rdN s.data.toList z).1)) ∧ Rdr k s (rdN s.data.toList z).2 w' ∧ KO k w w' := by
  have C1 := dnum_any k s z w hs h
  have hb := rdN_bound (s := s.data.toList) (z := z)
  generalize hz : rdN s.data.toList z = p at C1 hb ⊢
  obtain ⟨x, z1⟩ := p
  clear hz h
  simp only at C1 hb ⊢
  obtain ⟨n, rfl⟩ := Int.eq_ofNat_of_zero_le hb.1
  have hn : n < 9223372036854775808 := by omega
  have e1 := and_one n hn
  obtain ⟨m, hm⟩ : ∃ m, n / 2 = m := ⟨_, rfl⟩
  have e3 : (n : Int) / 2 = (m : Int) := by omega
  have hm2 : m < 4611686018427387904 := by omega
  unfold unfI
  by_cases h2 : n % 2 = 0
  · rw [h2] at e1
    rw [if_pos (by omega), e3]
    clear hm hb h2
    go_enter Try.func30, Try.ntmps30
    go_wp2_with fail
    refine C1.mono ?_
    rintro e w1 ⟨rfl, r1, k1⟩
    go_wp2
    go_ret
    exact ⟨by go_num, r1, k1⟩
  · have h3 : n % 2 = 1 := by omega
    rw [h3] at e1
    rw [if_neg (by omega), e3]
    clear hm hb h2 h3
    go_enter Try.func30, Try.ntmps30
    go_wp2_with fail
    refine C1.mono ?_
    rintro e w1 ⟨rfl, r1, k1⟩
    go_wp2
    go_ret
    exact ⟨by go_num, r1, k1⟩

theorem flatD_snoc (l : List D2) (x y : Int) : flatD (l ++ [(x, y)]) = flatD l ++ [.int .i64 x, .int .i64 y] := by simp [flatD, d2]

/-- What is kept at the begin. -/
theorem rs_start {w w1 v0 : World} {k g4 g5 : Nat} {s : ByteArray} {z : Option Nat} (o : O14) (hw : w.heap.size = g4) (h1 : Has w1 g4 zL) (hb : Below g4 w w1) (hk : k = g4 + 1) (r : Rdr k s z v0) (kk : KO k w1 v0) (h5 : v0.heap.size = g5) (hd : o.deps = []) (ht : o.dots = []) :
    RS w k g4 g5 s z o pq0 (v0.alloc (.cells (oL o pq0).toArray 29)) := by
  subst hw
  have hal : Below v0.heap.size v0 (v0.alloc (.cells (oL o pq0).toArray 29)) := (Below.refl _ _).alloc (Nat.le_refl _) _
  have hlt := r.lt
  refine ⟨r.later hal, (h1.ko kk (by omega)).later hal, h5 ▸ has_new v0 (oL o pq0) _, by rw [hd]; exact own_nil _ _ _ _, by rw [ht]; exact own_nil _ _ _ _, (Kept.of hb).trans (kk.trans (Kept.of hal)), by omega, by omega, by omega, Nat.le_refl _⟩

/-- In the loop over Dots: the row of the dots is younger than the one of Deps. -/
structure RD (w0 : World) (k g4 g5 B : Nat) (s : ByteArray) (z : Option Nat) (o : O14) (q : Pq) (w : World) : Prop where
  rs : RS w0 k g4 g5 s z o q w
  ds : w.ownsRow B 23 2 (.slice q.qo o.dots.length q.qc) o.dots.length (flatD o.dots)
  dp : ∀ g, (Value.slice q.po o.deps.length q.pc).ownBlock = some g → g < B
  gb : g5 < B
  sz : B ≤ w.heap.size
section
variable {w0 w w' : World} {k g4 g5 B : Nat} {s : ByteArray} {z z' : Option Nat} {o : O14} {q : Pq}
theorem RD.start (H : RS w0 k g4 g5 s z o q w) (hd : o.dots = []) (hq : q.qo = none ∧ q.qc = 0) : RD w0 k g4 g5 w.heap.size s z o q w :=
  ⟨H, by rw [hd, hq.1, hq.2]; exact own_nil _ _ _ _, fun g hg => (H.deps.lt g hg).2, H.cur.1, Nat.le_refl _⟩
theorem RD.call (H : RD w0 k g4 g5 B s z o q w) (r : Rdr k s z' w') (kk : KO k w w') : RD w0 k g4 g5 B s z' o q w' :=
  ⟨H.rs.call r kk, own_ko H.ds kk (by have := H.rs.kg; have := H.gb; omega), H.dp, H.gb, Nat.le_trans H.sz (Kept.size kk)⟩
theorem RD.later (H : RD w0 k g4 g5 B s z o q w) (hb : Below w.heap.size w w') : RD w0 k g4 g5 B s z o q w' :=
  ⟨H.rs.later hb, own_later H.ds hb, H.dp, H.gb, Nat.le_trans H.sz hb.size⟩
/-- Behind an append to the row of its dots. -/
theorem RD.dotsC (H : RD w0 k g4 g5 B s z o q w) {w2 : World} (hb : Below B w w2) {bo : Option Addr} {cb : Nat} {l : List D2} (ho : w2.ownsRow B 23 2 (.slice bo l.length cb) l.length (flatD l)) :
    RD w0 k g4 g5 B s z { o with dots := l } ⟨q.po, q.pc, bo, cb⟩ (w2.setCell ⟨g5, 13, none⟩ (.slice bo l.length cb)) := by
  have hk5 := H.rs.kg
  have h45 := H.rs.h45
  have h4 := H.rs.h4
  have hB := H.gb
  have hs := hb.size
  have hz := H.sz
  have hw : w0.heap.size ≤ w.heap.size := Kept.size H.rs.ko
  have hcur : Has w2 g5 (oL o q) := H.rs.cur.under hB hb
  have hdp : w2.ownsRow (g5 + 1) 3 1 (.slice q.po o.deps.length q.pc) o.deps.length (flatI o.deps) := own_under H.rs.deps H.dp hb
  refine ⟨⟨rdr_off (rdr_under H.rs.rd (by omega) hb) (by omega) _ _, (H.rs.res.under (by omega) hb).other (by omega) _ _, hcur.put 13 _, own_set hdp (Nat.lt_succ_self _) _ _, own_set (own_mono ho (by omega)) (Nat.lt_succ_self _) _ _,
    ko_new ?_ (by omega) _ _, hk5, H.rs.k4, h45, h4⟩, own_set ho hB _ _, H.dp, hB, by simp; omega⟩
  exact ko_above H.rs.ko (by omega) (by omega) hb
end

/-- What the end asks: s is an operation of m nodes just if it was read to its end and may be. -/
def EndO (s : List UInt8) (m : Nat) (o : O14) (z : Option Nat) : Prop := okG s m = (decide (z = some s.length) && mayO o m) ∧ (okG s m = true → (rdO s m).1 = o)
theorem endO_of {s : List UInt8} {m : Nat} {o : O14} {z : Option Nat} (h : rdO s m = (o, z)) (hm : 1 ≤ m ∧ m ≤ 16) : EndO s m o z := by
  unfold EndO
  rw [okG_nat h, h]
  refine ⟨?_, fun _ => rfl⟩
  rw [decide_eq_true (show 1 ≤ (m : Int) ∧ (m : Int) ≤ 16 by omega), Bool.true_and]
theorem EndO.no {s : List UInt8} {m : Nat} {o : O14} {z : Option Nat} (h : EndO s m o z) (hz : ¬ z = some s.length ∨ mayO o m = false) : getO s m = o0 ∧ getE s m = 1100 := by
  have e : okG s m = false := by
    rw [h.1]
    rcases hz with hz | hz
    · rw [decide_eq_false hz, Bool.false_and]
    · rw [hz, Bool.and_false]
  unfold getO getE
  rw [e]
  exact ⟨rfl, rfl⟩
theorem EndO.yes {s : List UInt8} {m : Nat} {o : O14} {z : Option Nat} (h : EndO s m o z) (hz : z = some s.length) (hm : mayO o m = true) : getO s m = o ∧ getE s m = 0 := by
  have e : okG s m = true := by rw [h.1, hm, decide_eq_true hz]; rfl
  have := h.2 e
  unfold getO getE
  rw [e, Int.toNat_natCast, this]
  exact ⟨rfl, rfl⟩
theorem rdM_none (s : List UInt8) (j : Nat) : ∀ (i : Nat) {z : Option Nat}, (rdM s j z).2 = none → (rdM s (j + i) z).2 = none
  | 0, _, h => h
  | i + 1, z, h => by
    show (rdM s (j + i + 1) z).2 = none
    simp only [rdM, rdM_none s j i h]
    simp [rdD, rdN]
theorem may_many {o : O14} {n : Int} (hk : o.kind = 3) (hl : 64 < o.dots.length) : mayO o n = false := by
  cases h : mayO o n with
  | false => rfl
  | true =>
    have := (fit_of h).dots.1
    omega
/-- .. behind the loop over Dots. -/
theorem endO_dots {s : List UInt8} {m i : Nat} {o1 : O14} {z7 z8 z : Option Nat} {K : Int} {l : List D2} (HE : rdHead s m = (o1, z7)) (hk : o1.kind = 3) (hN : rdN s z7 = (K, z8)) (hl : rdM s i z8 = (l, z)) (hm : 1 ≤ m ∧ m ≤ 16) (hi : (i : Int) ≤ K)
    (hend : z = none ∨ (i : Int) = K ∨ i = 65) (hi2 : i ≤ 65) : EndO s m { o1 with dots := l } z := by
  have hlen : l.length = i := by
    have := rdM_len s i z8
    rw [hl] at this
    exact this
  have hO : rdO s m = if 64 < K then (o1, none) else ({ o1 with dots := (rdM s K.toNat z8).1 }, (rdM s K.toNat z8).2) := by
    unfold rdO
    rw [HE]
    simp only [rdTail, hk, hN]
    rw [if_neg (by decide), if_pos trivial]
  by_cases h64 : 64 < K
  · rw [if_pos h64] at hO
    have e : okG s m = false := by
      rw [okG_nat hO]
      simp
    unfold EndO
    rw [e]
    refine ⟨?_, fun h => by cases h⟩
    by_cases hz : z = none
    · rw [hz]; simp
    · have h65 : 64 < l.length := by
        rcases hend with h | h | h
        · exact absurd h hz
        · omega
        · omega
      rw [may_many (by exact hk) h65, Bool.and_false]
  · rw [if_neg h64] at hO
    by_cases hiK : (i : Int) = K
    · have : K.toNat = i := by omega
      rw [this, hl] at hO
      exact endO_of hO hm
    · have hz : z = none := by
        rcases hend with h | h | h
        · exact h
        · exact absurd h hiK
        · omega
      have e0 : (rdM s K.toNat z8).2 = none := by
        obtain ⟨j, hj⟩ : ∃ j, K.toNat = i + j := ⟨K.toNat - i, by omega⟩
        rw [hj]
        exact rdM_none s i j (by rw [hl]; exact hz)
      rw [e0] at hO
      have e : okG s m = false := by
        rw [okG_nat hO]
        simp
      unfold EndO
      rw [e, hz]
      exact ⟨by simp, fun h => by cases h⟩
theorem siz_head {s : List UInt8} {n : Nat} (hn : n ≤ 16) {o : O14} {z : Option Nat} (h : rdHead s n = (o, z)) (l : List D2) (hl : l.length ≤ 65) : Siz { o with dots := l } := by
  have h1 := rdL_len s n (rdN s (rdD s (some 0)).2).2
  unfold rdHead at h
  simp only [Prod.mk.injEq] at h
  obtain ⟨rfl, _⟩ := h
  refine ⟨?_, ?_, ?_, ?_, ?_, by simp [ByteArray.size]⟩
  · simp only; rw [h1]; omega
  · simp only; omega
  · exact Nat.le_trans (rdT_size _ _) (by decide)
  · exact Nat.le_trans (rdT_size _ _) (by decide)
  · exact Nat.le_trans (rdT_size _ _) (by decide)

end Go.Proofs.Ytjfgccjdkflfoaa

/-
  Package op's Put, by contract.
-/
namespace Go.Proofs.Ytjfgccjdkflfoaa
open Go.RowKit
set_option linter.unusedVariables false
set_option linter.unusedSimpArgs false

/-- What Put answers. -/
def putA (o : O14) (n : Int) : ByteArray := if mayO o n then ⟨(putO o).toArray⟩ else noS
def putE (o : O14) (n : Int) : Int := if mayO o n then 0 else 1100

set_option maxHeartbeats 2000000 in
set_option maxRecDepth 100000 in
theorem oput_any (o : O14) (q : Pq) (n : Int) (w : World) (hr : ORow w o q) (hs : Siz o) : Calls Try.prog 9 #[oV o q, .int .i64 n] w fun e w' => e = .returned (.tuple #[.string (putA o n), .int .i64 (putE o n)]) ∧ Below w.heap.size w w' := by
  obtain ⟨h, hh⟩ : ∃ h, w.heap.size = h := ⟨_, rfl⟩
  have H0 : Hid (OBox w h o q (w.alloc (.cells (oL o q).toArray 29)) ∧ (w.alloc (.cells (oL o q).toArray 29)).heap.size = h + 1) := obox_new hh hr _
  rw [hh]
  clear hr
  go_enter Try.func9, Try.ntmps9
  go_wp2_with fail
  generalize hW : w.alloc (.cells (oL o q).toArray 29) = w1 at H0 ⊢
  clear hW hh
  obtain ⟨g0, g1, g2, g3, g4, g5, g6, g7, g8, g9, g10, g11, g12, g13⟩ := (show Has w1 h (oL o q) from H0.out.1.1).f14
  have C := omay_any o q n w1 H0.out.1.2.1 hs
  cases hm : mayO o n with
  | false =>
    rw [hm] at C
    go_wp2_with fail
    refine C.mono ?_
    rintro e w2 ⟨rfl, b2⟩
    have H2 : Hid (OBox w h o q w2) := H0.out.1.later b2
    go_wp2
    go_ret2
    exact ⟨by unfold putA putE; simp [hm], H2.out.2.2.1⟩
  | true =>
    rw [hm] at C
    go_wp2_with fail
    refine C.mono ?_
    rintro e w2 ⟨rfl, b2⟩
    have H2 : Hid (OBox w h o q w2) := H0.out.1.later b2
    clear b2 H0 g0 g1 g2 g3 g4 g5 g6 g7 g8 g9 g10 g11 g12 g13 C
    have HF : Hid (FitO o) := fit_of hm
    obtain ⟨b, hb⟩ : ∃ b, w2.heap.size = b := ⟨_, rfl⟩
    have H3 : Hid (OBox w h o q (w2.alloc (.cells #[.pointer none, .slice none 0 0] 56)) ∧ Wrt b [] (w2.alloc (.cells #[.pointer none, .slice none 0 0] 56)) ∧ FLow b (w2.alloc (.cells #[.pointer none, .slice none 0 0] 56)) q.po (flatI o.deps) ∧ FLow b (w2.alloc (.cells #[.pointer none, .slice none 0 0] 56)) q.qo (flatD o.dots) ∧ h ≤ b) := by
      subst hb
      have hal : Below w2.heap.size w2 (w2.alloc (.cells #[.pointer none, .slice none 0 0] 56)) := (Below.refl _ _).alloc (Nat.le_refl _) _
      exact ⟨H2.out.later hal, wrt_new w2, (FLow.of H2.out.2.1.1).kept hal, (FLow.of H2.out.2.1.2).kept hal, by have := H2.out.2.2.2; omega⟩
    clear H2
    go_upto_region 4 with fail
    generalize hW : w2.alloc (.cells #[.pointer none, .slice none 0 0] 56) = w3 at H3 ⊢
    clear hW hb
    obtain ⟨g0, g1, g2, g3, g4, g5, g6, g7, g8, g9, g10, g11, g12, g13⟩ := (show Has w3 h (oL o q) from H3.out.1.1).f14
    go_wp2_with fail
    refine (wop_any b o q _ H3.out.2.1 HF.out H3.out.2.2.1 H3.out.2.2.2.1).mono ?_
    rintro e w4 ⟨rfl, g4, k4⟩
    have H4 : Hid (Wrt b (putO o) w4 ∧ Below h w w4) := ⟨g4, H3.out.1.2.2.1.trans (k4.1.mono H3.out.2.2.2.2)⟩
    go_wp2_with fail
    refine (wget_any b _ _ H4.out.1 (putO_ne o)).mono ?_
    rintro e w5 ⟨rfl, b5⟩
    go_wp2
    go_ret2
    exact ⟨by unfold putA putE; simp [hm], H4.out.2.trans (b5.mono H3.out.2.2.2.2)⟩

end Go.Proofs.Ytjfgccjdkflfoaa

