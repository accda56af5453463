/-
  An operation (api.Op) as plain data: whether it may be, its bytes, what is read from bytes; there and back.
-/
import Derived.Test.YtgkddimijmnpcaaGreatDoorZVec11
import Derived.Test.YtgkddimijmnpcaaGreatDoorZName11
import Derived.Test.YtgkddimijmnpcaaGreatDoorZPack1
import Derived.Test.YtgkddimijmnpcaaGreatDoorZViBack
namespace Go.Proofs.YtgkddimijmnpcaaGreatDoor
open Go.RowKit
set_option linter.unusedVariables false
set_option linter.unusedSimpArgs false

/-- An operation. -/
structure O14 where
  dn : Int
  ds : Int
  time : Int
  deps : List Int
  kind : Int
  type : ByteArray
  id : ByteArray
  field : ByteArray
  value : ByteArray
  re : Int
  im : Int
  rn : Int
  rs : Int
  dots : List D2

abbrev noS : ByteArray := ⟨#[]⟩
def o0 : O14 := ⟨0, 0, 0, [], 0, noS, noS, noS, noS, 0, 0, 0, 0, []⟩

def winB (x : Int) : Bool := decide (-1099511627776 ≤ x ∧ x ≤ 1099511627776)
def stepD (deps : List Int) (l : List D2) (i : Nat) : Bool := hasB deps (l.getD i (0, 0)) && (decide (i = 0) || ltD (l.getD (i - 1) (0, 0)) (l.getD i (0, 0)))
def dotsB (deps : List Int) (l : List D2) : Bool := decide (l.length ≤ 64) && (List.range l.length).all (stepD deps l)
def numZ (o : O14) : Bool := decide (o.re = 0 ∧ o.im = 0)
def refZ (o : O14) : Bool := decide (o.rn = 0 ∧ o.rs = 0)
def dotZ (o : O14) : Bool := decide (o.dots.length = 0)
def valZ (o : O14) : Bool := decide (o.value.size = 0)
def whatB (o : O14) : Bool := decide (o.value.size ≤ 256) && (
  if o.kind = 0 ∨ o.kind = 2 then numZ o && refZ o && dotZ o
  else if o.kind = 1 then refZ o && dotZ o && valZ o && winB o.re && winB o.im
  else if o.kind = 3 then numZ o && refZ o && valZ o && dotsB o.deps o.dots
  else if o.kind = 4 then numZ o && dotZ o && (refZ o || hasB o.deps (o.rn, o.rs))
  else if o.kind = 5 then numZ o && dotZ o && valZ o && hasB o.deps (o.rn, o.rs)
  else false)
def whenB (o : O14) (n : Int) : Bool := mayB o.dn o.ds n && decide (1 ≤ o.time ∧ o.time ≤ 16777215) && vecB o.deps n && decide (o.deps.getD o.dn.toNat 0 = o.ds - 1)
def whereB (o : O14) : Bool := nameB o.type && nameB o.field && decide (1 ≤ o.id.size ∧ o.id.size ≤ 256)
/-- May it be, of n nodes? -/
def mayO (o : O14) (n : Int) : Bool := whenB o n && whereB o && whatB o
def kindN (k : Int) : Int := if k = 0 then 0 else if k = 1 then 1 else if k = 2 ∨ k = 3 then 2 else if k = 4 ∨ k = 5 then 3 else -1

def pI (x : Int) : List UInt8 := Vi.put x.toNat
def pT (s : ByteArray) : List UInt8 := Vi.put s.size ++ s.data.toList
def pD (d : D2) : List UInt8 := pI d.1 ++ pI d.2
def foldI (x : Int) : Int := if x < 0 then -2 * x - 1 else 2 * x
def unfI (x : Int) : Int := if x % 2 = 0 then x / 2 else -(x / 2) - 1
def headO (o : O14) : List UInt8 := pI o.dn ++ (pI o.ds ++ (pI o.time ++ (o.deps.flatMap pI ++ (pI o.kind ++ (pT o.type ++ (pT o.id ++ pT o.field))))))
def tailO (o : O14) : List UInt8 :=
  if o.kind = 1 then pI (foldI o.re) ++ pI (foldI o.im)
  else if o.kind = 3 then pI o.dots.length ++ o.dots.flatMap pD
  else if o.kind = 4 then pI o.rn ++ (pI o.rs ++ pT o.value)
  else if o.kind = 5 then pI o.rn ++ pI o.rs
  else pT o.value
/-- Its bytes. -/
def putO (o : O14) : List UInt8 := headO o ++ tailO o

/-- What is read from place a (none: it failed): a number, a text, a dot, numbers, dots. -/
def rdN (s : List UInt8) : Option Nat → Int × Option Nat
  | none => (0, none)
  | some a => if (Vi.getI s a).2.2 = 0 then (((Vi.getI s a).1 : Int), some (Vi.getI s a).2.1) else (0, none)
def rdT (s : List UInt8) : Option Nat → ByteArray × Option Nat
  | none => (noS, none)
  | some a => if (Vi.getText s a).2.2 = 0 then (⟨(Vi.getText s a).1.toArray⟩, some (Vi.getText s a).2.1) else (noS, none)
def rdD (s : List UInt8) (z : Option Nat) : D2 × Option Nat := (((rdN s z).1, (rdN s (rdN s z).2).1), (rdN s (rdN s z).2).2)
def rdL (s : List UInt8) : Nat → Option Nat → List Int × Option Nat
  | 0, z => ([], z)
  | n + 1, z => ((rdL s n z).1 ++ [(rdN s (rdL s n z).2).1], (rdN s (rdL s n z).2).2)
def rdM (s : List UInt8) : Nat → Option Nat → List D2 × Option Nat
  | 0, z => ([], z)
  | n + 1, z => ((rdM s n z).1 ++ [(rdD s (rdM s n z).2).1], (rdD s (rdM s n z).2).2)
/-- What is read: down to Field; the parts behind it. -/
def rdHead (s : List UInt8) (n : Nat) : O14 × Option Nat :=
  let a := rdD s (some 0)
  let b := rdN s a.2
  let c := rdL s n b.2
  let d := rdN s c.2
  let e := rdT s d.2
  let f := rdT s e.2
  let g := rdT s f.2
  (⟨a.1.1, a.1.2, b.1, c.1, d.1, e.1, f.1, g.1, noS, 0, 0, 0, 0, []⟩, g.2)
def rdTail (s : List UInt8) (o : O14) (z : Option Nat) : O14 × Option Nat :=
  if o.kind = 1 then ({ o with re := unfI (rdN s z).1, im := unfI (rdN s (rdN s z).2).1 }, (rdN s (rdN s z).2).2)
  else if o.kind = 3 then (if 64 < (rdN s z).1 then (o, none) else ({ o with dots := (rdM s (rdN s z).1.toNat (rdN s z).2).1 }, (rdM s (rdN s z).1.toNat (rdN s z).2).2))
  else if o.kind = 4 then ({ o with rn := (rdD s z).1.1, rs := (rdD s z).1.2, value := (rdT s (rdD s z).2).1 }, (rdT s (rdD s z).2).2)
  else if o.kind = 5 then ({ o with rn := (rdD s z).1.1, rs := (rdD s z).1.2 }, (rdD s z).2)
  else if o.kind = 0 ∨ o.kind = 2 then ({ o with value := (rdT s z).1 }, (rdT s z).2)
  else (o, z)
def rdO (s : List UInt8) (n : Nat) : O14 × Option Nat := rdTail s (rdHead s n).1 (rdHead s n).2
/-- What Get answers of it. -/
def okG (s : List UInt8) (n : Int) : Bool := decide (1 ≤ n ∧ n ≤ 16) && decide ((rdO s n.toNat).2 = some s.length) && mayO (rdO s n.toNat).1 n

/-- The bytes l stand from a to b. -/
def Seg (s : List UInt8) (a : Nat) (l : List UInt8) (b : Nat) : Prop := ∃ p r, s = p ++ (l ++ r) ∧ p.length = a ∧ b = a + l.length

theorem Seg.split {s l m : List UInt8} {a c : Nat} (h : Seg s a (l ++ m) c) : ∃ b, Seg s a l b ∧ Seg s b m c := by
  obtain ⟨p, r, h1, h2, h3⟩ := h
  refine ⟨a + l.length, ⟨p, m ++ r, by rw [h1]; simp, h2, rfl⟩, ⟨p ++ l, r, by rw [h1]; simp, by simp [h2], by rw [h3]; simp; omega⟩⟩
theorem Seg.join {s l m : List UInt8} {a b c : Nat} (h : Seg s a l b) (k : Seg s b m c) : Seg s a (l ++ m) c := by
  obtain ⟨p, r, h1, h2, h3⟩ := h
  obtain ⟨p', r', k1, k2, k3⟩ := k
  have e : p ++ l ++ r = p' ++ (m ++ r') := by rw [← k1, h1]; simp
  have e2 := List.append_inj e (by simp; omega)
  exact ⟨p, r', by rw [h1, e2.2]; simp, h2, by rw [k3, h3]; simp; omega⟩
theorem Seg.nil {s : List UInt8} {a : Nat} (h : a ≤ s.length) : Seg s a [] a := ⟨s.take a, s.drop a, by simp, by simp; omega, rfl⟩
theorem Seg.le {s l : List UInt8} {a b : Nat} (h : Seg s a l b) : a ≤ s.length ∧ b ≤ s.length ∧ b = a + l.length := by
  obtain ⟨p, r, h1, h2, h3⟩ := h
  rw [h1]
  simp
  omega
theorem Seg.whole {s l : List UInt8} {b : Nat} (h : Seg s 0 l b) (hb : b = s.length) : s = l := by
  obtain ⟨p, r, h1, h2, h3⟩ := h
  have hp : p = [] := List.eq_nil_of_length_eq_zero h2
  subst hp
  have h4 := congrArg List.length h1
  simp at h4
  have hr : r = [] := List.eq_nil_of_length_eq_zero (by omega)
  subst hr
  simpa using h1

theorem getF_back : ∀ (f i y : Nat) (l : List UInt8) {x k : Nat}, Vi.getF f i y l = (x, k, 0) → ∃ z r, x = y + z * 128 ^ i ∧ k = i + (Vi.putF f z).length ∧ l = Vi.putF f z ++ r ∧ (0 < i → 0 < z)
  | 0, i, y, l, x, k, h => by simp [Vi.getF] at h
  | f + 1, i, y, [], x, k, h => by simp [Vi.getF] at h
  | f + 1, i, y, b :: l, x, k, h => by
    unfold Vi.getF at h
    by_cases hb : 128 ≤ b.toNat
    · rw [if_pos hb] at h
      obtain ⟨z, r, h1, h2, h3, h4⟩ := getF_back f (i + 1) _ l h
      have hz := h4 (by omega)
      have hlt := b.toNat_lt
      have e1 : (b.toNat % 128 + 128 * z) / 128 = z := by omega
      have e2 : (b.toNat % 128 + 128 * z) % 128 = b.toNat % 128 := by omega
      have e3 : UInt8.ofNat (b.toNat % 128 + 128) = b := by
        have : b.toNat % 128 + 128 = b.toNat := by omega
        rw [this]; exact UInt8.ofNat_toNat
      have hp : Vi.putF (f + 1) (b.toNat % 128 + 128 * z) = b :: Vi.putF f z := by
        conv => lhs; unfold Vi.putF
        rw [if_neg (by omega), e1, e2, e3]
      refine ⟨b.toNat % 128 + 128 * z, r, ?_, ?_, ?_, fun _ => by omega⟩
      · rw [h1, Nat.pow_succ, Nat.add_mul, Nat.add_assoc, Nat.mul_comm (128 ^ i) 128, ← Nat.mul_assoc, Nat.mul_comm z 128]
      · rw [h2, hp]; simp; omega
      · rw [hp, h3]; rfl
    · rw [if_neg hb] at h
      by_cases h0 : b.toNat = 0 ∧ 0 < i
      · rw [if_pos h0] at h
        simp at h
      · rw [if_neg h0] at h
        simp only [Prod.mk.injEq, and_true] at h
        obtain ⟨rfl, rfl⟩ := h
        have hp : Vi.putF (f + 1) b.toNat = [b] := by
          unfold Vi.putF
          rw [if_pos (by omega), UInt8.ofNat_toNat]
        refine ⟨b.toNat, l, by rw [Nat.mod_eq_of_lt (by omega)], by rw [hp]; rfl, by rw [hp]; rfl, fun hi => by omega⟩

theorem getI_seg {s : List UInt8} {a x t : Nat} (h : Vi.getI s (a : Int) = (x, t, 0)) : x < 9223372036854775808 ∧ Seg s a (Vi.put x) t := by
  have hk := Vi.getI_ok h
  refine ⟨hk.2.2.1, ?_⟩
  unfold Vi.getI at h
  rw [if_pos ⟨by omega, by omega⟩, Int.toNat_natCast] at h
  unfold Vi.getAt at h
  by_cases h0 : (Vi.get (s.drop a)).2.2 = 0
  · rw [if_pos h0] at h
    simp only [Prod.mk.injEq, and_true] at h
    obtain ⟨h1, h2⟩ := h
    have hg : Vi.getF 9 0 0 (s.drop a) = (x, (Vi.get (s.drop a)).2.1, 0) := by
      show Vi.get (s.drop a) = _
      rw [← h1, ← h0]
    obtain ⟨z, r, e1, e2, e3, _⟩ := getF_back 9 0 0 _ hg
    have ez : z = x := by rw [e1]; simp
    subst ez
    refine ⟨s.take a, r, ?_, by simp; omega, by rw [← h2, e2]; simp [Vi.put]⟩
    have := List.take_append_drop a s
    rw [e3] at this
    exact this.symm
  · rw [if_neg h0] at h
    simp only [Prod.mk.injEq] at h
    exact absurd h.2.2 h0

theorem pr_of {α β : Type} {p : α × β} {b : β} (h : p.2 = b) : p = (p.1, b) := by rw [← h]

theorem rdN_seg {s : List UInt8} {z : Option Nat} {x : Int} {t : Nat} (h : rdN s z = (x, some t)) : ∃ a, z = some a ∧ 0 ≤ x ∧ x < 9223372036854775808 ∧ Seg s a (pI x) t := by
  cases z with
  | none => simp [rdN] at h
  | some a =>
    unfold rdN at h
    simp only at h
    by_cases h0 : (Vi.getI s a).2.2 = 0
    · rw [if_pos h0] at h
      simp only [Prod.mk.injEq, Option.some.injEq] at h
      obtain ⟨h1, h2⟩ := h
      have hg : Vi.getI s a = ((Vi.getI s a).1, t, 0) := by rw [← h2, ← h0]
      have K := getI_seg hg
      refine ⟨a, rfl, by omega, by omega, ?_⟩
      unfold pI
      rw [← h1, Int.toNat_natCast]
      exact K.2
    · rw [if_neg h0] at h
      simp at h
theorem rdN_of {s : List UInt8} {a t : Nat} {x : Int} (h : Seg s a (pI x) t) (h0 : 0 ≤ x) (h1 : x < 9223372036854775808) : rdN s (some a) = (x, some t) := by
  obtain ⟨p, r, rfl, rfl, rfl⟩ := h
  have := Vi.getI_put p x.toNat r (by omega)
  unfold rdN pI
  simp only [this]
  simp
  omega

theorem rdT_seg {s : List UInt8} {z : Option Nat} {x : ByteArray} {t : Nat} (h : rdT s z = (x, some t)) : ∃ a, z = some a ∧ x.size ≤ 65536 ∧ Seg s a (pT x) t := by
  cases z with
  | none => simp [rdT] at h
  | some a =>
    unfold rdT at h
    simp only at h
    by_cases h0 : (Vi.getText s a).2.2 = 0
    · rw [if_pos h0] at h
      simp only [Prod.mk.injEq, Option.some.injEq] at h
      obtain ⟨h1, h2⟩ := h
      refine ⟨a, rfl, ?_⟩
      unfold Vi.getText at h0 h1 h2
      by_cases hi : (Vi.getI s a).2.2 = 0
      · simp only [if_pos hi] at h0 h1 h2
        by_cases h3 : 65536 < (Vi.getI s a).1
        · simp [if_pos h3] at h0
        · simp only [if_neg h3] at h0 h1 h2
          by_cases h4 : s.length - (Vi.getI s a).2.1 < (Vi.getI s a).1
          · simp [if_pos h4] at h0
          · simp only [if_neg h4] at h0 h1 h2
            have hg : Vi.getI s a = ((Vi.getI s a).1, (Vi.getI s a).2.1, 0) := by rw [← hi]
            have K := getI_seg hg
            obtain ⟨n, hn⟩ : ∃ n, (Vi.getI s a).1 = n := ⟨_, rfl⟩
            obtain ⟨m, hm⟩ : ∃ n, (Vi.getI s a).2.1 = n := ⟨_, rfl⟩
            rw [hn, hm] at h1 h2 K
            rw [hn] at h3
            rw [hn, hm] at h4
            have hle := K.2.le
            have hx : x.data.toList = (s.drop m).take n := by rw [← h1]
            have hs : x.size = n := by
              have := congrArg List.length hx
              simp at this
              omega
            refine ⟨by omega, ?_⟩
            unfold pT
            rw [hs]
            refine K.2.join ⟨s.take m, s.drop (m + n), ?_, by simp; omega, ?_⟩
            · rw [hx, ← List.drop_drop, List.take_append_drop, List.take_append_drop]
            · rw [hx, ← h2]; simp; omega
      · simp only [if_neg hi] at h0
        exact absurd h0 hi
    · rw [if_neg h0] at h
      simp at h
theorem rdT_of {s : List UInt8} {a t : Nat} {x : ByteArray} (h : Seg s a (pT x) t) (h0 : x.size ≤ 65536) : rdT s (some a) = (x, some t) := by
  obtain ⟨p, r, rfl, rfl, rfl⟩ := h
  have := Vi.getText_put p x.data.toList r (by simpa using h0)
  unfold rdT pT
  have e : x.data.toList.length = x.size := by simp
  rw [e] at this
  simp only [this]
  simp
  omega

theorem rdD_seg {s : List UInt8} {z : Option Nat} {x : D2} {t : Nat} (h : rdD s z = (x, some t)) : ∃ a, z = some a ∧ (0 ≤ x.1 ∧ x.1 < 9223372036854775808) ∧ (0 ≤ x.2 ∧ x.2 < 9223372036854775808) ∧ Seg s a (pD x) t := by
  unfold rdD at h
  simp only [Prod.mk.injEq] at h
  obtain ⟨rfl, h2⟩ := h
  obtain ⟨b, h3, h4, h5, h6⟩ := rdN_seg (Prod.ext rfl h2 : rdN s (rdN s z).2 = (_, some t))
  obtain ⟨a, h7, h8, h9, h10⟩ := rdN_seg (Prod.ext rfl h3 : rdN s z = (_, some b))
  exact ⟨a, h7, ⟨h8, h9⟩, ⟨h4, h5⟩, h10.join h6⟩
theorem rdD_of {s : List UInt8} {a t : Nat} {x : D2} (h : Seg s a (pD x) t) (h0 : 0 ≤ x.1 ∧ x.1 < 9223372036854775808) (h1 : 0 ≤ x.2 ∧ x.2 < 9223372036854775808) : rdD s (some a) = (x, some t) := by
  obtain ⟨b, h2, h3⟩ := h.split
  unfold rdD
  rw [rdN_of h2 h0.1 h0.2]
  simp only
  rw [rdN_of h3 h1.1 h1.2]
theorem rdL_seg {s : List UInt8} : ∀ (n : Nat) {z : Option Nat} {x : List Int} {t : Nat}, (t ≤ s.length) → rdL s n z = (x, some t) → ∃ a, z = some a ∧ x.length = n ∧ (∀ y ∈ x, 0 ≤ y ∧ y < 9223372036854775808) ∧ Seg s a (x.flatMap pI) t
  | 0, z, x, t, ht, h => by
    simp only [rdL, Prod.mk.injEq] at h
    obtain ⟨rfl, rfl⟩ := h
    exact ⟨t, rfl, rfl, by simp, Seg.nil ht⟩
  | n + 1, z, x, t, ht, h => by
    simp only [rdL, Prod.mk.injEq] at h
    obtain ⟨rfl, h2⟩ := h
    obtain ⟨b, h3, h4, h5, h6⟩ := rdN_seg (Prod.ext rfl h2 : rdN s (rdL s n z).2 = (_, some t))
    obtain ⟨a, k1, k2, k3, k4⟩ := rdL_seg n h6.le.1 (Prod.ext rfl h3 : rdL s n z = (_, some b))
    refine ⟨a, k1, by simp [k2], fun y hy => ?_, ?_⟩
    · rcases List.mem_append.1 hy with hy | hy
      · exact k3 y hy
      · simp only [List.mem_singleton] at hy
        subst hy
        exact ⟨h4, h5⟩
    · rw [List.flatMap_append]
      refine k4.join ?_
      simpa using h6
theorem rdL_of {s : List UInt8} : ∀ (n : Nat) {x : List Int} {a t : Nat}, x.length = n → Seg s a (x.flatMap pI) t → (∀ y ∈ x, 0 ≤ y ∧ y < 9223372036854775808) → rdL s n (some a) = (x, some t)
  | 0, x, a, t, hx, h, _ => by
    obtain rfl := List.eq_nil_of_length_eq_zero hx
    have := h.le.2.2
    simp at this
    subst this
    rfl
  | n + 1, x, a, t, hx, h, hy => by
    obtain ⟨y, v, rfl⟩ : ∃ y v, x = y ++ [v] := ⟨x.dropLast, x.getLast (by intro e; simp [e] at hx), (List.dropLast_concat_getLast _).symm⟩
    rw [List.flatMap_append] at h
    obtain ⟨b, h1, h2⟩ := h.split
    have k := rdL_of n (x := y) (by simp at hx; omega) h1 (fun u hu => hy u (by simp [hu]))
    have hv := hy v (by simp)
    simp only [rdL, k]
    rw [rdN_of (by simpa using h2) hv.1 hv.2]
theorem rdM_seg {s : List UInt8} : ∀ (n : Nat) {z : Option Nat} {x : List D2} {t : Nat}, (t ≤ s.length) → rdM s n z = (x, some t) → ∃ a, z = some a ∧ x.length = n ∧ (∀ y ∈ x, (0 ≤ y.1 ∧ y.1 < 9223372036854775808) ∧ 0 ≤ y.2 ∧ y.2 < 9223372036854775808) ∧ Seg s a (x.flatMap pD) t
  | 0, z, x, t, ht, h => by
    simp only [rdM, Prod.mk.injEq] at h
    obtain ⟨rfl, rfl⟩ := h
    exact ⟨t, rfl, rfl, by simp, Seg.nil ht⟩
  | n + 1, z, x, t, ht, h => by
    simp only [rdM, Prod.mk.injEq] at h
    obtain ⟨rfl, h2⟩ := h
    obtain ⟨b, h3, h4, h5, h6⟩ := rdD_seg (Prod.ext rfl h2 : rdD s (rdM s n z).2 = (_, some t))
    obtain ⟨a, k1, k2, k3, k4⟩ := rdM_seg n h6.le.1 (Prod.ext rfl h3 : rdM s n z = (_, some b))
    refine ⟨a, k1, by simp [k2], fun y hy => ?_, ?_⟩
    · rcases List.mem_append.1 hy with hy | hy
      · exact k3 y hy
      · simp only [List.mem_singleton] at hy
        subst hy
        exact ⟨h4, h5⟩
    · rw [List.flatMap_append]
      refine k4.join ?_
      simpa using h6
theorem rdM_of {s : List UInt8} : ∀ (n : Nat) {x : List D2} {a t : Nat}, x.length = n → Seg s a (x.flatMap pD) t → (∀ y ∈ x, (0 ≤ y.1 ∧ y.1 < 9223372036854775808) ∧ 0 ≤ y.2 ∧ y.2 < 9223372036854775808) → rdM s n (some a) = (x, some t)
  | 0, x, a, t, hx, h, _ => by
    obtain rfl := List.eq_nil_of_length_eq_zero hx
    have := h.le.2.2
    simp at this
    subst this
    rfl
  | n + 1, x, a, t, hx, h, hy => by
    obtain ⟨y, v, rfl⟩ : ∃ y v, x = y ++ [v] := ⟨x.dropLast, x.getLast (by intro e; simp [e] at hx), (List.dropLast_concat_getLast _).symm⟩
    rw [List.flatMap_append] at h
    obtain ⟨b, h1, h2⟩ := h.split
    have k := rdM_of n (x := y) (by simp at hx; omega) h1 (fun u hu => hy u (by simp [hu]))
    have hv := hy v (by simp)
    simp only [rdM, k]
    rw [rdD_of (by simpa using h2) hv.1 hv.2]

theorem fold_unf {x : Int} (h : 0 ≤ x) : foldI (unfI x) = x := by
  unfold foldI unfI
  by_cases h2 : x % 2 = 0
  · rw [if_pos h2, if_neg (by omega)]; omega
  · rw [if_neg h2, if_pos (by omega)]; omega
theorem unf_fold (x : Int) : unfI (foldI x) = x := by
  unfold foldI unfI
  by_cases h : x < 0
  · rw [if_pos h, if_neg (by omega)]; omega
  · rw [if_neg h, if_pos (by omega)]; omega
theorem fold_small {x : Int} (h : winB x = true) : 0 ≤ foldI x ∧ foldI x < 9223372036854775808 := by
  unfold winB at h
  unfold foldI
  simp at h
  split <;> omega

/-- What an operation that may be is made of. -/
structure FitO (o : O14) : Prop where
  dn : 0 ≤ o.dn ∧ o.dn < 9223372036854775808
  ds : 0 ≤ o.ds ∧ o.ds < 9223372036854775808
  time : 0 ≤ o.time ∧ o.time < 9223372036854775808
  deps : ∀ y ∈ o.deps, 0 ≤ y ∧ y < 9223372036854775808
  kind : 0 ≤ o.kind ∧ o.kind ≤ 5
  type : o.type.size ≤ 32
  id : o.id.size ≤ 256
  field : o.field.size ≤ 32
  value : o.value.size ≤ 256
  num : o.kind = 1 → winB o.re = true ∧ winB o.im = true
  dots : o.dots.length ≤ 64 ∧ ∀ y ∈ o.dots, (0 ≤ y.1 ∧ y.1 < 9223372036854775808) ∧ 0 ≤ y.2 ∧ y.2 < 9223372036854775808
  ref : (0 ≤ o.rn ∧ o.rn < 9223372036854775808) ∧ 0 ≤ o.rs ∧ o.rs < 9223372036854775808
  len : o.deps.length ≤ 16

theorem vec_mem {l : List Int} {n : Int} (h : vecB l n = true) : (l.length : Int) = n ∧ l.length ≤ 16 ∧ ∀ y ∈ l, 0 ≤ y ∧ y ≤ 1048575 := by
  unfold vecB at h
  simp only [Bool.and_eq_true, decide_eq_true_eq, List.all_eq_true] at h
  exact ⟨h.1.2.2, by omega, fun y hy => by simpa using h.2 y hy⟩
theorem has_small {l : List Int} {n : Int} {d : D2} (hv : vecB l n = true) (h : hasB l d = true) : (0 ≤ d.1 ∧ d.1 < 16) ∧ 1 ≤ d.2 ∧ d.2 ≤ 1048575 := by
  have hm := vec_mem hv
  unfold hasB at h
  simp only [decide_eq_true_eq] at h
  obtain ⟨h1, h2, h3, h4⟩ := h
  refine ⟨⟨h1, by omega⟩, h3, ?_⟩
  have hi : d.1.toNat < l.length := by omega
  have := hm.2.2 (l.getD d.1.toNat 0) (by simp [List.getD, List.getElem?_eq_getElem hi])
  omega
theorem name_size {s : ByteArray} (h : nameB s = true) : 1 ≤ s.size ∧ s.size ≤ 32 := by
  unfold nameB at h
  simp only [Bool.and_eq_true, decide_eq_true_eq] at h
  exact h.1.1
theorem when_parts {o : O14} {n : Int} (h : whenB o n = true) : (1 ≤ n ∧ n ≤ 16) ∧ (0 ≤ o.dn ∧ o.dn < n) ∧ (1 ≤ o.ds ∧ o.ds ≤ 1048575) ∧ (1 ≤ o.time ∧ o.time ≤ 16777215) ∧ vecB o.deps n = true := by
  unfold whenB mayB at h
  simp only [Bool.and_eq_true, decide_eq_true_eq] at h
  obtain ⟨⟨⟨h1, h2⟩, h3⟩, h4⟩ := h
  exact ⟨by omega, by omega, by omega, by omega, h3⟩
theorem dots_mem {deps : List Int} {l : List D2} {n : Int} (hv : vecB deps n = true) (h : dotsB deps l = true) : l.length ≤ 64 ∧ ∀ y ∈ l, (0 ≤ y.1 ∧ y.1 < 16) ∧ 1 ≤ y.2 ∧ y.2 ≤ 1048575 := by
  unfold dotsB at h
  simp only [Bool.and_eq_true, decide_eq_true_eq, List.all_eq_true] at h
  refine ⟨h.1, fun y hy => ?_⟩
  obtain ⟨i, hi, rfl⟩ := List.getElem_of_mem hy
  have := h.2 i (List.mem_range.2 hi)
  unfold stepD at this
  simp only [Bool.and_eq_true] at this
  have h2 := this.1
  rw [show l.getD i (0, 0) = l[i] by simp [List.getD, List.getElem?_eq_getElem hi]] at h2
  exact has_small hv h2
theorem fit_of {o : O14} {n : Int} (h : mayO o n = true) : FitO o := by
  unfold mayO at h
  simp only [Bool.and_eq_true] at h
  obtain ⟨⟨h1, h2⟩, h3⟩ := h
  obtain ⟨k1, k2, k3, k4, k5⟩ := when_parts h1
  have hm := vec_mem k5
  unfold whereB at h2
  simp only [Bool.and_eq_true, decide_eq_true_eq] at h2
  have n1 := name_size h2.1.1
  have n2 := name_size h2.1.2
  unfold whatB at h3
  simp only [Bool.and_eq_true, decide_eq_true_eq] at h3
  obtain ⟨h3, h4⟩ := h3
  have base : ∀ (_ : 0 ≤ o.kind ∧ o.kind ≤ 5) (_ : o.kind = 1 → winB o.re = true ∧ winB o.im = true) (_ : o.dots.length ≤ 64 ∧ ∀ y ∈ o.dots, (0 ≤ y.1 ∧ y.1 < 9223372036854775808) ∧ 0 ≤ y.2 ∧ y.2 < 9223372036854775808) (_ : (0 ≤ o.rn ∧ o.rn < 9223372036854775808) ∧ 0 ≤ o.rs ∧ o.rs < 9223372036854775808), FitO o := fun a b c d =>
    ⟨by omega, by omega, by omega, fun y hy => by have := hm.2.2 y hy; omega, a, n1.2, h2.2.2, n2.2, h3, b, c, d, hm.2.1⟩
  have nodots : dotZ o = true → o.dots.length ≤ 64 ∧ ∀ y ∈ o.dots, (0 ≤ y.1 ∧ y.1 < 9223372036854775808) ∧ 0 ≤ y.2 ∧ y.2 < 9223372036854775808 := fun h => by
    unfold dotZ at h
    have := List.eq_nil_of_length_eq_zero (of_decide_eq_true h)
    rw [this]
    simp
  have noref : refZ o = true → (0 ≤ o.rn ∧ o.rn < 9223372036854775808) ∧ 0 ≤ o.rs ∧ o.rs < 9223372036854775808 := fun h => by
    unfold refZ at h
    have := of_decide_eq_true h
    omega
  have aref : hasB o.deps (o.rn, o.rs) = true → (0 ≤ o.rn ∧ o.rn < 9223372036854775808) ∧ 0 ≤ o.rs ∧ o.rs < 9223372036854775808 := fun h => by
    have := has_small k5 h
    simp only at this
    omega
  by_cases c0 : o.kind = 0 ∨ o.kind = 2
  · rw [if_pos c0] at h4
    simp only [Bool.and_eq_true] at h4
    exact base (by omega) (fun e => by omega) (nodots h4.2) (noref h4.1.2)
  · rw [if_neg c0] at h4
    by_cases c1 : o.kind = 1
    · rw [if_pos c1] at h4
      simp only [Bool.and_eq_true] at h4
      exact base (by omega) (fun _ => ⟨h4.1.2, h4.2⟩) (nodots h4.1.1.1.2) (noref h4.1.1.1.1)
    · rw [if_neg c1] at h4
      by_cases c3 : o.kind = 3
      · rw [if_pos c3] at h4
        simp only [Bool.and_eq_true] at h4
        have hd := dots_mem k5 h4.2
        exact base (by omega) (fun e => by omega) ⟨hd.1, fun y hy => by have := hd.2 y hy; omega⟩ (noref h4.1.1.2)
      · rw [if_neg c3] at h4
        by_cases c4 : o.kind = 4
        · rw [if_pos c4] at h4
          simp only [Bool.and_eq_true, Bool.or_eq_true] at h4
          exact base (by omega) (fun e => by omega) (nodots h4.1.2) (h4.2.elim noref aref)
        · rw [if_neg c4] at h4
          by_cases c5 : o.kind = 5
          · rw [if_pos c5] at h4
            simp only [Bool.and_eq_true] at h4
            exact base (by omega) (fun e => by omega) (nodots h4.1.1.2) (aref h4.2)
          · rw [if_neg c5] at h4
            cases h4

/-- What it does not name is zero. -/
theorem zero_of {o : O14} {n : Int} (h : mayO o n = true) : (o.kind ≠ 1 → o.re = 0 ∧ o.im = 0) ∧ (o.kind ≠ 3 → o.dots = []) ∧ (o.kind ≠ 4 → o.kind ≠ 5 → o.rn = 0 ∧ o.rs = 0) ∧ (o.kind ≠ 0 → o.kind ≠ 2 → o.kind ≠ 4 → o.value = noS) := by
  unfold mayO at h
  simp only [Bool.and_eq_true] at h
  have h3 := h.2
  unfold whatB at h3
  simp only [Bool.and_eq_true] at h3
  have h4 := h3.2
  have e1 : numZ o = true → o.re = 0 ∧ o.im = 0 := fun h => of_decide_eq_true h
  have e2 : dotZ o = true → o.dots = [] := fun h => List.eq_nil_of_length_eq_zero (of_decide_eq_true h)
  have e3 : refZ o = true → o.rn = 0 ∧ o.rs = 0 := fun h => of_decide_eq_true h
  have e4 : valZ o = true → o.value = noS := fun h => none_of (of_decide_eq_true h)
  by_cases c0 : o.kind = 0 ∨ o.kind = 2
  · rw [if_pos c0] at h4
    simp only [Bool.and_eq_true] at h4
    exact ⟨fun _ => e1 h4.1.1, fun _ => e2 h4.2, fun _ _ => e3 h4.1.2, fun a b => by omega⟩
  · rw [if_neg c0] at h4
    by_cases c1 : o.kind = 1
    · rw [if_pos c1] at h4
      simp only [Bool.and_eq_true] at h4
      exact ⟨fun a => absurd c1 a, fun _ => e2 h4.1.1.1.2, fun _ _ => e3 h4.1.1.1.1, fun _ _ _ => e4 h4.1.1.2⟩
    · rw [if_neg c1] at h4
      by_cases c3 : o.kind = 3
      · rw [if_pos c3] at h4
        simp only [Bool.and_eq_true] at h4
        exact ⟨fun _ => e1 h4.1.1.1, fun a => absurd c3 a, fun _ _ => e3 h4.1.1.2, fun _ _ _ => e4 h4.1.2⟩
      · rw [if_neg c3] at h4
        by_cases c4 : o.kind = 4
        · rw [if_pos c4] at h4
          simp only [Bool.and_eq_true] at h4
          exact ⟨fun _ => e1 h4.1.1, fun _ => e2 h4.1.2, fun a => absurd c4 a, fun _ _ a => absurd c4 a⟩
        · rw [if_neg c4] at h4
          by_cases c5 : o.kind = 5
          · rw [if_pos c5] at h4
            simp only [Bool.and_eq_true] at h4
            exact ⟨fun _ => e1 h4.1.1.1, fun _ => e2 h4.1.1.2, fun _ a => absurd c5 a, fun _ _ _ => e4 h4.1.2⟩
          · rw [if_neg c5] at h4
            cases h4

/-- What the head reads. -/
theorem rdHead_of {s : List UInt8} {o : O14} {n : Nat} {t : Nat} (F : FitO o) (hn : o.deps.length = n) (h : Seg s 0 (headO o) t) : rdHead s n = (⟨o.dn, o.ds, o.time, o.deps, o.kind, o.type, o.id, o.field, noS, 0, 0, 0, 0, []⟩, some t) := by
  unfold headO at h
  obtain ⟨a1, h1, h⟩ := h.split
  obtain ⟨a2, h2, h⟩ := h.split
  obtain ⟨a3, h3, h⟩ := h.split
  obtain ⟨a4, h4, h⟩ := h.split
  obtain ⟨a5, h5, h⟩ := h.split
  obtain ⟨a6, h6, h⟩ := h.split
  obtain ⟨a7, h7, h⟩ := h.split
  unfold rdHead
  rw [rdD_of (x := (o.dn, o.ds)) (h1.join h2) F.dn F.ds]
  simp only
  rw [rdN_of h3 F.time.1 F.time.2]
  simp only
  rw [rdL_of n hn h4 F.deps]
  simp only
  rw [rdN_of h5 F.kind.1 (by have := F.kind; omega)]
  simp only
  rw [rdT_of h6 (by have := F.type; omega)]
  simp only
  rw [rdT_of h7 (by have := F.id; omega)]
  simp only
  rw [rdT_of h (by have := F.field; omega)]

theorem rdO_of {s : List UInt8} {o : O14} {n : Int} {t : Nat} (hm : mayO o n = true) (h : Seg s 0 (putO o) t) : rdO s n.toNat = (o, some t) := by
  have F := fit_of hm
  have Z := zero_of hm
  have hn : o.deps.length = n.toNat := by
    unfold mayO at hm
    simp only [Bool.and_eq_true] at hm
    have := (vec_mem (when_parts hm.1.1).2.2.2.2).1
    omega
  unfold putO at h
  obtain ⟨b, hh, ht⟩ := h.split
  unfold rdO
  rw [rdHead_of F hn hh]
  unfold rdTail
  unfold tailO at ht
  simp only
  have K := F.kind
  by_cases c1 : o.kind = 1
  · rw [if_pos c1] at ht ⊢
    obtain ⟨a1, h1, h2⟩ := ht.split
    have W := F.num c1
    rw [rdN_of h1 (fold_small W.1).1 (fold_small W.1).2]
    simp only
    rw [rdN_of h2 (fold_small W.2).1 (fold_small W.2).2]
    simp only [unf_fold]
    have z2 := Z.2.1 (by omega)
    have z3 := Z.2.2.1 (by omega) (by omega)
    have z4 := Z.2.2.2 (by omega) (by omega) (by omega)
    cases o
    simp only at z2 z3 z4
    simp [z2, z3.1, z3.2, z4]
  · rw [if_neg c1] at ht ⊢
    by_cases c3 : o.kind = 3
    · rw [if_pos c3] at ht ⊢
      obtain ⟨a1, h1, h2⟩ := ht.split
      have W := F.dots
      rw [rdN_of h1 (by omega) (by omega)]
      simp only
      rw [if_neg (by omega), rdM_of (o.dots.length : Int).toNat (by simp) h2 W.2]
      have z1 := Z.1 (by omega)
      have z3 := Z.2.2.1 (by omega) (by omega)
      have z4 := Z.2.2.2 (by omega) (by omega) (by omega)
      cases o
      simp only at z1 z3 z4
      simp [z1.1, z1.2, z3.1, z3.2, z4]
    · rw [if_neg c3] at ht ⊢
      have z1 := Z.1 (by omega)
      have z2 := Z.2.1 (by omega)
      by_cases c4 : o.kind = 4
      · rw [if_pos c4] at ht ⊢
        obtain ⟨a1, h1, h2⟩ := ht.split
        obtain ⟨a2, h2, h3⟩ := h2.split
        rw [rdD_of (x := (o.rn, o.rs)) (h1.join h2) F.ref.1 F.ref.2]
        simp only
        rw [rdT_of h3 (by have := F.value; omega)]
        cases o
        simp only at z1 z2
        simp [z1.1, z1.2, z2]
      · rw [if_neg c4] at ht ⊢
        by_cases c5 : o.kind = 5
        · rw [if_pos c5] at ht ⊢
          have z4 := Z.2.2.2 (by omega) (by omega) (by omega)
          rw [rdD_of (x := (o.rn, o.rs)) ht F.ref.1 F.ref.2]
          cases o
          simp only at z1 z2 z4
          simp [z1.1, z1.2, z2, z4]
        · rw [if_neg c5] at ht ⊢
          have z3 := Z.2.2.1 (by omega) (by omega)
          rw [if_pos (by omega), rdT_of ht (by have := F.value; omega)]
          cases o
          simp only at z1 z2 z3
          simp [z1.1, z1.2, z2, z3.1, z3.2]

theorem rdHead_seg {s : List UInt8} {o : O14} {n : Nat} {t : Nat} (h : rdHead s n = (o, some t)) : Seg s 0 (headO o) t ∧ 0 ≤ o.kind := by
  unfold rdHead at h
  simp only [Prod.mk.injEq] at h
  obtain ⟨rfl, h2⟩ := h
  obtain ⟨a1, h2, _, s1⟩ := rdT_seg (pr_of h2)
  obtain ⟨a2, h2, _, s2⟩ := rdT_seg (pr_of h2)
  obtain ⟨a3, h2, _, s3⟩ := rdT_seg (pr_of h2)
  obtain ⟨a4, h2, k0, _, s4⟩ := rdN_seg (pr_of h2)
  obtain ⟨a5, h2, _, _, s5⟩ := rdL_seg n s4.le.1 (pr_of h2)
  obtain ⟨a6, h2, _, _, s6⟩ := rdN_seg (pr_of h2)
  obtain ⟨a7, h2, _, _, s7⟩ := rdD_seg (pr_of h2)
  simp only [Option.some.injEq] at h2
  subst h2
  refine ⟨?_, k0⟩
  unfold headO
  unfold pD at s7
  obtain ⟨a8, s8, s9⟩ := s7.split
  exact s8.join (s9.join (s6.join (s5.join (s4.join (s3.join (s2.join s1))))))

theorem rdO_seg {s : List UInt8} {o : O14} {n : Nat} {t : Nat} (h : rdO s n = (o, some t)) (hk : o.kind ≤ 5) : Seg s 0 (putO o) t := by
  unfold rdO at h
  obtain ⟨p, hp⟩ : ∃ p, (rdHead s n).1 = p := ⟨_, rfl⟩
  obtain ⟨z, hz⟩ : ∃ z, (rdHead s n).2 = z := ⟨_, rfl⟩
  rw [hp, hz] at h
  unfold rdTail at h
  have fin : ∀ {a : Nat} {l : List UInt8} (_ : z = some a) (_ : headO o = headO p) (_ : tailO o = l) (_ : Seg s a l t), Seg s 0 (putO o) t := fun {a l} e e2 e3 hs => by
    have := rdHead_seg (Prod.ext hp (hz.trans e) : rdHead s n = (p, some a))
    unfold putO
    rw [e2, e3]
    exact this.1.join hs
  by_cases c1 : p.kind = 1
  · rw [if_pos c1] at h
    simp only [Prod.mk.injEq] at h
    obtain ⟨rfl, h2⟩ := h
    obtain ⟨a1, h3, u1, _, s1⟩ := rdN_seg (pr_of h2)
    obtain ⟨a2, h4, u2, _, s2⟩ := rdN_seg (pr_of h3)
    refine fin h4 rfl ?_ (s2.join s1)
    unfold tailO
    rw [if_pos c1]
    simp only
    rw [fold_unf u1, fold_unf u2]
  · rw [if_neg c1] at h
    by_cases c3 : p.kind = 3
    · rw [if_pos c3] at h
      by_cases c64 : 64 < (rdN s z).1
      · rw [if_pos c64] at h
        simp at h
      · rw [if_neg c64] at h
        simp only [Prod.mk.injEq] at h
        obtain ⟨rfl, h2⟩ := h
        obtain ⟨b, hb⟩ : ∃ b, (rdN s z).2 = b := ⟨_, rfl⟩
        rw [hb] at h2
        cases b with
        | none =>
          have hno : ∀ k, (rdM s k none).2 = none := fun k => by
            induction k with
            | zero => rfl
            | succ k ih => simp only [rdM, ih]; simp [rdD, rdN]
          rw [hno] at h2
          cases h2
        | some b =>
          obtain ⟨a1, h3, u1, _, s1⟩ := rdN_seg (pr_of hb)
          have hle := s1.le
          have ht : t ≤ s.length := by
            by_cases hm : (rdN s z).1.toNat = 0
            · rw [hm] at h2
              simp only [rdM, Option.some.injEq] at h2
              omega
            · obtain ⟨k, hk⟩ : ∃ k, (rdN s z).1.toNat = k + 1 := ⟨_, (Nat.succ_pred hm).symm⟩
              rw [hk] at h2
              simp only [rdM] at h2
              obtain ⟨_, _, _, _, s3⟩ := rdD_seg (pr_of h2)
              exact s3.le.2.1
          obtain ⟨a2, h4, u2, _, s2⟩ := rdM_seg _ ht (pr_of h2)
          simp only [Option.some.injEq] at h4
          subst h4
          refine fin h3 rfl ?_ (s1.join s2)
          unfold tailO
          rw [if_neg (by simpa using c1), if_pos c3]
          simp only [hb]
          rw [u2]
          congr 2
          omega
    · rw [if_neg c3] at h
      by_cases c4 : p.kind = 4
      · rw [if_pos c4] at h
        simp only [Prod.mk.injEq] at h
        obtain ⟨rfl, h2⟩ := h
        obtain ⟨a1, h3, _, s1⟩ := rdT_seg (pr_of h2)
        obtain ⟨a2, h4, _, _, s2⟩ := rdD_seg (pr_of h3)
        refine fin h4 rfl ?_ (s2.join s1)
        unfold tailO
        rw [if_neg (by simpa using c1), if_neg (by simpa using c3), if_pos c4]
        simp [pD]
      · rw [if_neg c4] at h
        by_cases c5 : p.kind = 5
        · rw [if_pos c5] at h
          simp only [Prod.mk.injEq] at h
          obtain ⟨rfl, h2⟩ := h
          obtain ⟨a2, h4, _, _, s2⟩ := rdD_seg (pr_of h2)
          refine fin h4 rfl ?_ s2
          unfold tailO
          rw [if_neg (by simpa using c1), if_neg (by simpa using c3), if_neg (by simpa using c4), if_pos c5]
          rfl
        · rw [if_neg c5] at h
          by_cases c0 : p.kind = 0 ∨ p.kind = 2
          · rw [if_pos c0] at h
            simp only [Prod.mk.injEq] at h
            obtain ⟨rfl, h2⟩ := h
            obtain ⟨a1, h3, _, s1⟩ := rdT_seg (pr_of h2)
            refine fin h3 rfl ?_ s1
            unfold tailO
            rw [if_neg (by simpa using c1), if_neg (by simpa using c3), if_neg (by simpa using c4), if_neg (by simpa using c5)]
          · rw [if_neg c0] at h
            simp only [Prod.mk.injEq] at h
            obtain ⟨rfl, h2⟩ := h
            have := rdHead_seg (Prod.ext hp (hz.trans h2) : rdHead s n = (p, some t))
            omega

/-- There and back. -/
theorem put_ok {o : O14} {n : Int} (h : mayO o n = true) : okG (putO o) n = true ∧ (rdO (putO o) n.toNat).1 = o := by
  have K := rdO_of h (s := putO o) (t := (putO o).length) ⟨[], [], by simp, rfl, by simp⟩
  unfold okG
  rw [K]
  have h2 := h
  unfold mayO at h2
  simp only [Bool.and_eq_true] at h2
  have := (when_parts h2.1.1).1
  exact ⟨by simp [h, this], rfl⟩
theorem ok_put {s : List UInt8} {n : Int} (h : okG s n = true) : mayO (rdO s n.toNat).1 n = true ∧ putO (rdO s n.toNat).1 = s := by
  unfold okG at h
  simp only [Bool.and_eq_true, decide_eq_true_eq] at h
  have hk := (fit_of h.2).kind
  have := rdO_seg (Prod.ext rfl h.1.2 : rdO s n.toNat = (_, some s.length)) hk.2
  exact ⟨h.2, (this.whole rfl).symm⟩
theorem put_cut {o : O14} {n : Int} (h : mayO o n = true) {k : Nat} (hk : k < (putO o).length) : okG ((putO o).take k) n = false := by
  cases e : okG ((putO o).take k) n with
  | false => rfl
  | true =>
    exfalso
    have K := ok_put e
    have h1 := rdO_of h (s := putO o) (t := (putO o).length) ⟨[], [], by simp, rfl, by simp⟩
    have h2 := rdO_of K.1 (s := putO o) (t := k) (by
      rw [K.2]
      exact ⟨[], (putO o).drop k, by simp, rfl, by simp; omega⟩)
    rw [h1] at h2
    simp only [Prod.mk.injEq, Option.some.injEq] at h2
    omega
theorem pI_len (x : Int) : (pI x).length ≤ 9 := Vi.put_length_le _
theorem putO_ne (o : O14) : putO o ≠ [] := fun h => by
  unfold putO headO pI at h
  simp only [List.append_eq_nil_iff] at h
  exact Vi.put_ne _ h.1.1

end Go.Proofs.YtgkddimijmnpcaaGreatDoor

