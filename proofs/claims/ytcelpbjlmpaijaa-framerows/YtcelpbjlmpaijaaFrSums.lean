/-
  Plain mathematics of layer 2: a text's sum hangs on each byte, and on the row of two bytes that change places.
-/
import Derived.Test.YtcelpbjlmpaijaaFr
namespace Go.Proofs.Ytcelpbjlmpaijaa.Fr
open Go.RowKit
set_option linter.unusedVariables false

/-- The bytes together. -/
def S : List UInt8 → Nat
  | [] => 0
  | b :: l => b.toNat + S l

/-- Each byte as often as there are sums on the way that hold it. -/
def W : List UInt8 → Nat
  | [] => 0
  | b :: l => (l.length + 1) * b.toNat + W l

theorem fold_fst : ∀ (l : List UInt8) (x y : Nat), (65521 : Int) ∣ ((l.foldl step (x, y)).1 : Int) - (x + S l)
  | [], x, y => by simp [S]
  | b :: l, x, y => by
    have ih := fold_fst l ((x + b.toNat) % 65521) ((y + (x + b.toNat) % 65521) % 65521)
    have e : (b :: l).foldl step (x, y) = l.foldl step ((x + b.toNat) % 65521, (y + (x + b.toNat) % 65521) % 65521) := rfl
    rw [e]
    simp only [S]
    omega

theorem mul_part (n x b q r : Nat) (h : x + b = 65521 * q + r) : (n : Int) * r = n * x + n * b - 65521 * (n * q) := by
  have h' : (r : Int) = x + b - 65521 * q := by omega
  rw [h', Int.mul_sub, Int.mul_add, Int.mul_left_comm]

theorem fold_snd : ∀ (l : List UInt8) (x y : Nat), (65521 : Int) ∣ ((l.foldl step (x, y)).2 : Int) - (y + l.length * x + W l)
  | [], x, y => by simp [W]
  | b :: l, x, y => by
    have ih := fold_snd l ((x + b.toNat) % 65521) ((y + (x + b.toNat) % 65521) % 65521)
    have e : (b :: l).foldl step (x, y) = l.foldl step ((x + b.toNat) % 65521, (y + (x + b.toNat) % 65521) % 65521) := rfl
    rw [e]
    obtain ⟨q, r, hqr, hr⟩ : ∃ q r, x + b.toNat = 65521 * q + r ∧ (x + b.toNat) % 65521 = r := ⟨(x + b.toNat) / 65521, (x + b.toNat) % 65521, by omega, rfl⟩
    have hp := mul_part l.length x b.toNat q r hqr
    rw [hr] at ih ⊢
    simp only [W, List.length_cons]
    have h1 : ((l.length + 1 : Nat) : Int) * (x : Int) = l.length * x + x := by rw [Int.natCast_add, Int.add_mul]; simp
    have h2 : (((l.length + 1) * b.toNat + W l : Nat) : Int) = l.length * b.toNat + b.toNat + W l := by
      rw [Int.natCast_add, Int.natCast_mul, Int.natCast_add, Int.add_mul]; simp
    rw [h1, h2]
    rw [hp] at ih
    omega

theorem ab_fst (l : List UInt8) : (65521 : Int) ∣ ((ab l).1 : Int) - (1 + S l) := fold_fst l 1 0

theorem ab_snd (l : List UInt8) : (65521 : Int) ∣ ((ab l).2 : Int) - (l.length + W l) := by
  have h := fold_snd l 1 0
  simp at h
  exact h

theorem sum_parts {l l' : List UInt8} (h : sum l = sum l') : (ab l).1 = (ab l').1 ∧ (ab l).2 = (ab l').2 := by
  have h1 := ab_lt l
  have h2 := ab_lt l'
  unfold sum at h
  omega

theorem S_set : ∀ (l : List UInt8) (k : Nat) (v : UInt8) (hk : k < l.length), S (l.set k v) + (l[k]).toNat = S l + v.toNat
  | [], k, v, hk => by simp at hk
  | b :: l, 0, v, hk => by simp [S]; omega
  | b :: l, k + 1, v, hk => by
    have ih := S_set l k v (by simpa using hk)
    simp [S]
    omega

theorem W_set : ∀ (l : List UInt8) (k : Nat) (v : UInt8) (hk : k < l.length), W (l.set k v) + (l.length - k) * (l[k]).toNat = W l + (l.length - k) * v.toNat
  | [], k, v, hk => by simp at hk
  | b :: l, 0, v, hk => by simp [W]; omega
  | b :: l, k + 1, v, hk => by
    have ih := W_set l k v (by simpa using hk)
    simp only [W, List.set_cons_succ, List.length_set, List.length_cons, List.getElem_cons_succ, Nat.add_sub_add_right]
    omega

/-- A byte that is turned turns the sum. -/
theorem sum_turned (l : List UInt8) (k : Nat) (v : UInt8) (hk : k < l.length) (hv : v ≠ l[k]) : sum (l.set k v) ≠ sum l := by
  intro h
  have h1 := (sum_parts h).1
  have a1 := ab_fst l
  have a2 := ab_fst (l.set k v)
  have hs := S_set l k v hk
  have b1 := v.toNat_lt
  have b2 := l[k].toNat_lt
  have hne : v.toNat ≠ l[k].toNat := fun e => hv (UInt8.toNat_inj.1 e)
  omega

theorem coprime_small : ∀ d : Fin 256, d.val ≠ 0 → Nat.gcd 65521 d.val = 1 := by decide +kernel

theorem no_product (d e : Nat) (hd : d < 256) (hd0 : d ≠ 0) (he : e < 65521) (h : 65521 ∣ d * e) : e = 0 := by
  have hc : Nat.Coprime 65521 d := coprime_small ⟨d, hd⟩ hd0
  have := Nat.Coprime.dvd_of_dvd_mul_left hc h
  exact Nat.eq_zero_of_dvd_of_lt this he

/-- Two bytes change places, i ahead of j, u and v: the sums on the way part. -/
theorem no_swap (n i j u v : Nat) (A B : Int) (hij : i < j) (hj : j < n) (hn : n ≤ 2000) (hu : u < 256) (hv : v < 256) (hne : u ≠ v)
    (hA : B - A = ((n - i : Nat) : Int) * v - ((n - i : Nat) : Int) * u + (((n - j : Nat) : Int) * u - ((n - j : Nat) : Int) * v)) (h : (65521 : Int) ∣ B - A) : False := by
  obtain ⟨e, he⟩ : ∃ e, j - i = e := ⟨_, rfl⟩
  have hi : ((n - i : Nat) : Int) = ((n - j : Nat) : Int) + e := by omega
  rw [hi, Int.add_mul, Int.add_mul] at hA
  rcases Nat.lt_or_gt_of_ne hne with hlt | hlt
  · obtain ⟨d, rfl⟩ : ∃ d, v = u + d := ⟨v - u, by omega⟩
    have hA' : B - A = ((d * e : Nat) : Int) := by
      rw [Int.natCast_mul, Int.mul_comm (d : Int)]
      rw [Int.natCast_add, Int.mul_add, Int.mul_add] at hA
      omega
    rw [hA'] at h
    have := no_product d e (by omega) (by omega) (by omega) (by omega)
    omega
  · obtain ⟨d, rfl⟩ : ∃ d, u = v + d := ⟨u - v, by omega⟩
    have hA' : B - A = - ((d * e : Nat) : Int) := by
      rw [Int.natCast_mul, Int.mul_comm (d : Int)]
      rw [Int.natCast_add, Int.mul_add, Int.mul_add] at hA
      omega
    rw [hA'] at h
    have := no_product d e (by omega) (by omega) (by omega) (by omega)
    omega

/-- Two bytes that are not one change places: the sum is turned. -/
theorem sum_swapped (l : List UInt8) (i j : Nat) (hij : i < j) (hj : j < l.length) (hn : l.length ≤ 2000) (hne : l[i] ≠ l[j]) :
    sum ((l.set i l[j]).set j l[i]) ≠ sum l := by
  intro h
  have h1 := (sum_parts h).2
  have a1 := ab_snd l
  have a2 := ab_snd ((l.set i l[j]).set j l[i])
  have w1 := W_set l i l[j] (by omega)
  have w2 := W_set (l.set i l[j]) j l[i] (by simpa using hj)
  rw [List.getElem_set_ne (by omega)] at w2
  simp only [List.length_set] at a2 w2
  have hu := l[i].toNat_lt
  have hv := l[j].toNat_lt
  have hne' : l[i].toNat ≠ l[j].toNat := fun e => hne (UInt8.toNat_inj.1 e)
  refine no_swap l.length i j l[i].toNat l[j].toNat (W l) (W ((l.set i l[j]).set j l[i])) hij hj hn (by omega) (by omega) hne' ?_ (by omega)
  rw [← Int.natCast_mul, ← Int.natCast_mul, ← Int.natCast_mul, ← Int.natCast_mul]
  omega

/-- The two bytes at k and at the same place from the end change places. -/
theorem sum_mirrored (l : List UInt8) (k : Nat) (hk : k < l.length) (hn : l.length ≤ 2000)
    (hc : (l.set k (l[l.length - 1 - k]'(by omega))).set (l.length - 1 - k) l[k] ≠ l) :
    sum ((l.set k (l[l.length - 1 - k]'(by omega))).set (l.length - 1 - k) l[k]) ≠ sum l := by
  obtain ⟨m, hm⟩ : ∃ m, m = l.length - 1 - k := ⟨_, rfl⟩
  have hml : m < l.length := by omega
  simp only [← hm] at hc ⊢
  rcases Nat.lt_trichotomy k m with h | h | h
  · refine sum_swapped l k m h hml hn (fun e => hc ?_)
    rw [← e, List.set_getElem_self]
    rw [e, List.set_getElem_self]
  · subst h
    exact absurd (by simp) hc
  · have e1 : (l.set k l[m]).set m l[k] = (l.set m l[k]).set k l[m] := List.set_comm _ _ (by omega)
    rw [e1] at hc ⊢
    refine sum_swapped l m k h hk hn (fun e => hc ?_)
    rw [← e, List.set_getElem_self]
    rw [e, List.set_getElem_self]

end Go.Proofs.Ytcelpbjlmpaijaa.Fr
