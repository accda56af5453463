/-
  Stamps and the texts that are written at them; the latest of a row; Set at a cell that such writes left.
-/
import Derived.Test.YtdcfahkcgedegaaCeBare
import Derived.Test.YtdcfahkcgedegaaStampRows
import Derived.Test.YtdcfahkcgedegaaStrs
import Derived.Test.YtdcfahkcgedegaaDeci
namespace Go.Proofs.Ytdcfahkcgedegaa
open Go.RowKit
set_option linter.unusedVariables false
set_option linter.unusedSimpArgs false

/-- A list of bytes as a string. -/
abbrev str (l : List UInt8) : ByteArray := ⟨l.toArray⟩

theorem dec_len {z : Nat} (h : z < 9223372036854775808) : (Lib.decDigits z).length ≤ 21 := by
  have := Lib.itoa_length_le (z : Int) (by omega) (by omega)
  rwa [Lib.itoa_nonneg] at this

/-- The text that is written at a stamp. -/
def txt (p : P2) : ByteArray := (⟨#[118]⟩ : ByteArray) ++ str (Lib.decDigits p.1.toNat) ++ (⟨#[46]⟩ : ByteArray) ++ str (Lib.decDigits p.2.toNat)

/-- A stamp of the row. -/
def Fine (p : P2) : Prop := 1 ≤ p.1 ∧ p.1 ≤ 1024 ∧ 0 ≤ p.2 ∧ p.2 < 16

/-- A stamp of the row, or none. -/
def Some0 (p : P2) : Prop := p = (0, 0) ∨ Fine p

theorem txt_size {p : P2} (h : Fine p) : (txt p).size ≤ 256 := by
  obtain ⟨h1, h2, h3, h4⟩ := h
  have a := dec_len (z := p.1.toNat) (by omega)
  have b := dec_len (z := p.2.toNat) (by omega)
  have e : (txt p).size = 1 + (Lib.decDigits p.1.toNat).length + 1 + (Lib.decDigits p.2.toNat).length := by
    rw [← size_list]
    simp [txt, ByteArray.data_append]
    omega
  omega

/-- The later of two. -/
def up (m x : P2) : P2 := if lessB m.1 m.2 x.1 x.2 = true then x else m

/-- The latest of a row. -/
def mx (l : List P2) : P2 := l.foldl up (0, 0)

def key (p : P2) : Int := p.1 * 16 + p.2

theorem less_key {m x : P2} (hm : Some0 m) (hx : Fine x) : (lessB m.1 m.2 x.1 x.2 = true) ↔ key m < key x := by
  obtain ⟨h1, h2, h3, h4⟩ := hx
  rcases hm with rfl | ⟨g1, g2, g3, g4⟩
  · simp [lessB, key]; omega
  · simp [lessB, key]; omega

theorem up_some {m x : P2} (hm : Some0 m) (hx : Fine x) : Fine (up m x) ∨ up m x = m := by
  unfold up
  split
  · exact Or.inl hx
  · exact Or.inr rfl

theorem up_fine {m x : P2} (hm : Some0 m) (hx : Fine x) : Fine (up m x) := by
  unfold up
  split
  · exact hx
  · rename_i h
    rcases hm with rfl | hm
    · exfalso
      apply h
      obtain ⟨h1, _⟩ := hx
      simp [lessB]; omega
    · exact hm

theorem up_key {m x : P2} (hm : Some0 m) (hx : Fine x) : key m ≤ key (up m x) ∧ key x ≤ key (up m x) := by
  unfold up
  have := less_key hm hx
  split
  · rename_i h
    have := this.1 h
    omega
  · rename_i h
    have h2 : ¬ key m < key x := fun hk => h (this.2 hk)
    omega

theorem fold_up (l : List P2) (hl : ∀ p ∈ l, Fine p) (m : P2) (hm : Some0 m) :
    Some0 (l.foldl up m) ∧ key m ≤ key (l.foldl up m) ∧ (∀ p ∈ l, key p ≤ key (l.foldl up m)) ∧ (l.foldl up m = m ∨ l.foldl up m ∈ l) := by
  induction l generalizing m with
  | nil => exact ⟨hm, Int.le_refl _, fun p hp => by simp at hp, Or.inl rfl⟩
  | cons x l ih =>
    have hx := hl x (by simp)
    have hk := up_key hm hx
    obtain ⟨a, b, c, d⟩ := ih (fun p hp => hl p (by simp [hp])) (up m x) (Or.inr (up_fine hm hx))
    rw [List.foldl_cons]
    refine ⟨a, Int.le_trans hk.1 b, fun p hp => ?_, ?_⟩
    · rcases List.mem_cons.1 hp with rfl | hp
      · exact Int.le_trans hk.2 b
      · exact c p hp
    · rcases d with d | d
      · rw [d]
        unfold up
        split
        · exact Or.inr (by simp)
        · exact Or.inl rfl
      · exact Or.inr (by simp [d])

theorem mx_some (l : List P2) (hl : ∀ p ∈ l, Fine p) : Some0 (mx l) := (fold_up l hl (0, 0) (Or.inl rfl)).1

theorem mx_fine (l : List P2) (hl : ∀ p ∈ l, Fine p) (h : 0 < l.length) : Fine (mx l) := by
  cases l with
  | nil => simp at h
  | cons x l =>
    have hx := hl x (by simp)
    obtain ⟨_, hk, hall, hor⟩ := fold_up (x :: l) hl (0, 0) (Or.inl rfl)
    rcases hor with e | e
    · have h1 := hall x (by simp)
      rw [e] at h1
      obtain ⟨g1, _, g3, _⟩ := hx
      simp [key] at h1
      omega
    · exact hl _ e

theorem key_inj {a b : P2} (ha : Fine a) (hb : Fine b) (h : key a = key b) : a = b := by
  obtain ⟨a1, a2⟩ := a
  obtain ⟨b1, b2⟩ := b
  obtain ⟨h1, h2, h3, h4⟩ := ha
  obtain ⟨g1, g2, g3, g4⟩ := hb
  simp only [key] at h
  simp only at h1 h2 h3 h4 g1 g2 g3 g4
  have e1 : a1 = b1 := by omega
  subst e1
  have e2 : a2 = b2 := by omega
  rw [e2]

/-- The row from its end has the same latest one. -/
theorem mx_reverse (l : List P2) (hl : ∀ p ∈ l, Fine p) : mx l.reverse = mx l := by
  by_cases h0 : l = []
  · subst h0; rfl
  have hlen : 0 < l.length := List.length_pos_iff.2 h0
  have hr : ∀ p ∈ l.reverse, Fine p := fun p hp => hl p (by simpa using hp)
  have f1 := mx_fine l hl hlen
  have f2 := mx_fine l.reverse hr (by simpa using hlen)
  obtain ⟨_, _, a3, a4⟩ := fold_up l hl (0, 0) (Or.inl rfl)
  obtain ⟨_, _, b3, b4⟩ := fold_up l.reverse hr (0, 0) (Or.inl rfl)
  have z : ¬ Fine (0, 0) := fun h => by have := h.1; simp at this
  have m1 : mx l ∈ l := by
    rcases a4 with e | e
    · have : mx l = (0, 0) := e
      rw [this] at f1; exact absurd f1 z
    · exact e
  have m2 : mx l.reverse ∈ l.reverse := by
    rcases b4 with e | e
    · have : mx l.reverse = (0, 0) := e
      rw [this] at f2; exact absurd f2 z
    · exact e
  refine key_inj f2 f1 (Int.le_antisymm (a3 _ (by simpa using m2)) (b3 _ (by simpa using m1)))

theorem at2_mem {l : List P2} {i : Nat} (h : i < l.length) : at2 l i ∈ l := by
  have : at2 l i = l[i] := by simp [at2, List.getD, h]
  rw [this]; exact List.getElem_mem h

theorem mx_take {l : List P2} {i : Nat} (h : i < l.length) : mx (l.take (i + 1)) = up (mx (l.take i)) (at2 l i) := by
  have : at2 l i = l[i] := by simp [at2, List.getD, h]
  rw [this, List.take_succ_eq_append_getElem h, mx, List.foldl_append]
  rfl

theorem at2_rev {l : List P2} {i : Nat} (h : i < l.length) : at2 l.reverse i = at2 l (l.length - 1 - i) := by
  simp [at2, List.getD, List.getElem?_reverse h]

theorem mx_rtake {l : List P2} {i j : Nat} (h : i + j + 1 = l.length) : mx (l.reverse.take (i + 1)) = up (mx (l.reverse.take i)) (at2 l j) := by
  rw [mx_take (by simp; omega), at2_rev (by omega)]
  congr 2
  omega

/-- Is the cell set, behind the writes; what stands in it. -/
def st (m : P2) : Bool := decide (1 ≤ m.1)
def tx (m : P2) : ByteArray := if 1 ≤ m.1 then txt m else ⟨#[]⟩

/-- The cells. -/
abbrev gl (s : Bool) (T N : Int) (v : ByteArray) : List Value := [.int .i64 0, .bool s, .int .i64 T, .int .i64 N, .string v, .int .i64 0, .int .i64 0, .slice none 0 0, .slice none 0 0, .slice none 0 0]
abbrev gv (s : Bool) (T N : Int) (v : ByteArray) : Value := .agg #[.int .i64 0, .bool s, .int .i64 T, .int .i64 N, .string v, .int .i64 0, .int .i64 0, .slice none 0 0, .slice none 0 0, .slice none 0 0]

/-- The letters of a cell at m. -/
def Let (m : P2) (s : Bool) (T N : Int) (v : ByteArray) : Prop := s = st m ∧ T = m.1 ∧ N = m.2 ∧ v = tx m

theorem fine_may {x : P2} (h : Fine x) : mayS x.1 x.2 = true := by
  obtain ⟨h1, h2, h3, h4⟩ := h
  simp [mayS]; omega

theorem lset_step {m x : P2} {s : Bool} {T N X Y : Int} {v u : ByteArray} (w : World) (hm : Some0 m) (hx : Fine x) (hl : Let m s T N v) (ex : X = x.1) (ey : Y = x.2) (eu : u = txt x) :
    Calls Try.prog 8 #[gv s T N v, sv X Y, .string u] w fun e w' => ∃ s' T' N' v', e = .returned (.tuple #[gv s' T' N' v', .int .i64 0]) ∧ Let (up m x) s' T' N' v' ∧ Below w.heap.size w w' := by
  obtain ⟨rfl, rfl, rfl, rfl⟩ := hl
  subst ex ey eu
  rcases hm with rfl | hm
  · refine Calls.mono (lset_first x.1 x.2 (txt x) w (fine_may hx) (txt_size hx)) ?_
    rintro e w1 ⟨rfl, b⟩
    refine ⟨true, x.1, x.2, txt x, rfl, ?_, b⟩
    have e : up (0, 0) x = x := by
      unfold up
      rw [if_pos]
      obtain ⟨h1, _⟩ := hx
      simp [lessB]; omega
    rw [e]
    exact ⟨by simp [st]; exact hx.1, rfl, rfl, by unfold tx; rw [if_pos hx.1]⟩
  · have e1 : st m = true := by simp [st]; exact hm.1
    have e2 : tx m = txt m := by unfold tx; rw [if_pos hm.1]
    rw [e1, e2]
    by_cases hl : lessB m.1 m.2 x.1 x.2 = true
    · refine Calls.mono (lset_next m.1 m.2 x.1 x.2 (txt m) (txt x) w (fine_may hx) (txt_size hm) (txt_size hx) hl) ?_
      rintro e w1 ⟨rfl, b⟩
      refine ⟨true, x.1, x.2, txt x, rfl, ?_, b⟩
      have e : up m x = x := by unfold up; rw [if_pos hl]
      rw [e]
      exact ⟨by simp [st]; exact hx.1, rfl, rfl, by unfold tx; rw [if_pos hx.1]⟩
    · refine Calls.mono (lset_again m.1 m.2 x.1 x.2 (txt m) (txt x) w (fine_may hx) (txt_size hm) (txt_size hx) (by simpa using hl)) ?_
      rintro e w1 ⟨rfl, b⟩
      refine ⟨true, m.1, m.2, txt m, rfl, ?_, b⟩
      have e : up m x = m := by unfold up; rw [if_neg hl]
      rw [e]
      exact ⟨e1.symm, rfl, rfl, e2.symm⟩

theorem same_step {m : P2} {s s' : Bool} {T N T' N' : Int} {v v' : ByteArray} (w : World) (hm : Some0 m) (hl : Let m s T N v) (hl' : Let m s' T' N' v') :
    Calls Try.prog 10 #[gv s T N v, gv s' T' N' v'] w fun e w' => e = .returned (.bool true) ∧ Below w.heap.size w w' := by
  obtain ⟨rfl, rfl, rfl, rfl⟩ := hl
  obtain ⟨rfl, rfl, rfl, rfl⟩ := hl'
  rcases hm with rfl | hm
  · exact same_none w
  · have e1 : st m = true := by simp [st]; exact hm.1
    have e2 : tx m = txt m := by unfold tx; rw [if_pos hm.1]
    rw [e1, e2]
    exact same_bare m.1 m.2 (txt m) w (txt_size hm)

end Go.Proofs.Ytdcfahkcgedegaa
