/-
  What the law RgaMarks keeps of its two lists, round by round: plain mathematics.
-/
import Derived.Test.YtghlegidapmpmaaAwake10
import Derived.Test.YtghlegidapmpmaaWr10
namespace Go.Proofs.Ytghlegidapmpmaa
open Go.RowKit Go.Shelf
set_option linter.unusedVariables false
set_option linter.unusedSimpArgs false

theorem dec_len20 : ∀ i : Nat, i < 40 → (Lib.decDigits i).length ≤ 21 := by
  have h : ∀ a : Fin 40, (Lib.decDigits a.val).length ≤ 21 := by decide +kernel
  exact fun i hi => h ⟨i, hi⟩
theorem val_size1 (c : UInt8) {i : Nat} (h : i < 40) : ((⟨#[c]⟩ : ByteArray) ++ (⟨(Lib.decDigits i).toArray⟩ : ByteArray)).size ≤ 256 := by
  have := dec_len20 i h
  rw [ByteArray.size_append]
  show 1 + (Lib.decDigits i).toArray.size ≤ 256
  rw [List.size_toArray]
  omega
theorem eraM_len {l m : List L5} {d : D2} (h : eraL l d = some m) : m.length = l.length := by
  unfold eraL at h
  obtain ⟨k, _, rfl⟩ := Option.map_eq_some_iff.1 h
  rw [List.length_modify]

/-- A round of the first row. -/
theorem first_step {i r : Nat} {l : List L5} {v : ByteArray} (H : First i l) (hs : SmallX l) (hi : i < 20) (hr : r ≤ i) (hv : v.size ≤ 256) :
    ∃ m, okX l ⟨0, (i : Int) + 1, (i : Int) + 1, v, false⟩ = true ∧ insL l ⟨0, (i : Int) + 1, (i : Int) + 1, v, false⟩ (0, (r : Int)) = some m ∧ First (i + 1) m ∧ SmallX m := by
  have ec : ((i + 1 : Nat) : Int) = (i : Int) + 1 := by omega
  obtain ⟨m, h1, h2⟩ := first_ins (v := v) H hr
  have h3 := first_new H
  rw [ec] at h1 h3
  refine ⟨m, ?_, h1, h2, smallX_ins hs (by rw [H.len]; omega) hv h1⟩
  unfold okX mayB
  show (_ && (_ && (_ && (_ && !hasX l (0, (i : Int) + 1))))) = true
  rw [h3]
  simp [hv]
  omega

/-- What the second row keeps. -/
structure Mk (i : Nat) (l : List L5) : Prop where
  marks : Marks l
  small : SmallX l
  seq : ∀ x ∈ l, x.seq < 30 + (i : Int)
  len : l.length ≤ 20 + i
theorem mk_start {i : Nat} {l : List L5} (H : First i l) (hs : SmallX l) (hi : i ≤ 20) : Mk 0 l :=
  ⟨first_marks H hi, hs, fun x hx => by have := H.mem x hx; omega, by have := H.len; omega⟩
theorem mk_has {i : Nat} {l : List L5} (H : Mk i l) (b : Int) : hasX l (b, 30 + (i : Int)) = false := hasX_no fun x hx h => by
  have h1 := H.seq x hx
  have h2 : x.seq = 30 + (i : Int) := congrArg Prod.snd h
  omega
theorem mk_ok {i b t : Nat} {l : List L5} {v : ByteArray} (hh : hasX l ((b : Int), 30 + (i : Int)) = false) (hb : b < 2) (hi : i < 20) (ht : t < 20) (hv : v.size ≤ 256) : okX l ⟨(b : Int), 30 + (i : Int), 30 + (t : Int), v, false⟩ = true := by
  unfold okX mayB
  show (_ && (_ && (_ && (_ && !hasX l ((b : Int), 30 + (i : Int)))))) = true
  rw [hh]
  simp [hv]
  omega
/-- A round of the second row. -/
theorem mk_step {i b t k : Nat} {l : List L5} {v : ByteArray} (H : Mk i l) (hb : b < 2) (hi : i < 20) (ht : t < 20) (hv : v.size ≤ 256) :
    ∃ d1 d2 m, (k < (valsX l).length → atX l k = some (d1, d2)) ∧ (¬ k < (valsX l).length → d1 = 0 ∧ d2 = 0) ∧ okX l ⟨(b : Int), 30 + (i : Int), 30 + (t : Int), v, false⟩ = true ∧ okX (liveL l) ⟨(b : Int), 30 + (i : Int), 30 + (t : Int), v, false⟩ = true
      ∧ insL l ⟨(b : Int), 30 + (i : Int), 30 + (t : Int), v, false⟩ (d1, d2) = some m ∧ insL (liveL l) ⟨(b : Int), 30 + (i : Int), 30 + (t : Int), v, false⟩ (d1, d2) = some (liveL m) ∧ Mk (i + 1) m := by
  have hh := mk_has H (b : Int)
  have hl : hasX (liveL l) ((b : Int), 30 + (i : Int)) = false := by
    unfold hasX at hh ⊢
    rw [List.any_eq_false] at hh ⊢
    exact fun x hx => hh x (List.mem_filter.1 hx).1
  have o1 := mk_ok (t := t) hh hb hi ht hv
  have o2 := mk_ok (t := t) hl hb hi ht hv
  have hz0 : dotX ⟨(b : Int), 30 + (i : Int), 30 + (t : Int), v, false⟩ ≠ (0, 0) := fun h => by
    have : 30 + (i : Int) = 0 := congrArg Prod.snd h
    omega
  have ht2 : (30 : Int) ≤ 30 + (t : Int) := by omega
  have fin : ∀ {d : D2} {m : List L5}, insL l ⟨(b : Int), 30 + (i : Int), 30 + (t : Int), v, false⟩ d = some m → Marks m → Mk (i + 1) m := fun {d m} h1 h2 => by
    refine ⟨h2, smallX_ins H.small (by have := H.len; omega) hv h1, fun x hx => ?_, by rw [insL_len h1]; have := H.len; omega⟩
    rcases (insL_mem h1).1 hx with hx | rfl
    · have := H.seq x hx
      omega
    · show 30 + (i : Int) < 30 + ((i + 1 : Nat) : Int)
      omega
  by_cases hk : k < (valsX l).length
  · obtain ⟨x, hx⟩ : ∃ x, (liveL l)[k]? = some x := ⟨_, List.getElem?_eq_getElem (by rw [← valsX_len]; exact hk)⟩
    obtain ⟨m, h1, h2, h3⟩ := marks_behind (z := ⟨(b : Int), 30 + (i : Int), 30 + (t : Int), v, false⟩) H.marks hx rfl ht2 hh hz0
    exact ⟨(dotX x).1, (dotX x).2, m, fun _ => by unfold atX; rw [hx]; rfl, fun h => absurd hk h, o1, o2, h1, h2, fin h1 h3⟩
  · obtain ⟨m, h1, h2, h3⟩ := marks_first (z := ⟨(b : Int), 30 + (i : Int), 30 + (t : Int), v, false⟩) H.marks rfl ht2 hh hz0
    exact ⟨0, 0, m, fun h => absurd h hk, fun _ => ⟨rfl, rfl⟩, o1, o2, h1, h2, fin h1 h3⟩
theorem atM_num {l : List L5} {k : Nat} {d : D2} (h : atX l k = some d) : atNum l (k : Int) = (d, 0) := by
  apply atNum_some
  unfold atI
  simp [h]
theorem tsM {n : Nat} (ao bo : Option Addr) (ca cb : Nat) (a : List ByteArray) (w : World) (hn : n = a.length) (ha : FRow w ao (flatT a)) (hb : FRow w bo (flatT a)) (hla : n ≤ maxLen) :
    Calls Try.prog 12 #[.slice ao n ca, .slice bo n cb] w fun e w' => e = .returned (.bool true) ∧ Below w.heap.size w w' := by
  subst hn
  exact tsameT_any ao bo ca cb a w ha hb hla

/-- A row that lies neither in block g nor in block k. -/
def RowC (g k : Nat) (w : World) (ao : Option Addr) (xs : List Value) : Prop := 0 < xs.length → ∃ b off, ao = some ⟨b, off, none⟩ ∧ b ≠ g ∧ b ≠ k ∧ b < w.heap.size ∧ ∀ i u, xs[i]? = some u → w.cell? ⟨b, off + i, none⟩ = some u
theorem RowC.row {g k : Nat} {w : World} {ao : Option Addr} {xs : List Value} (h : RowC g k w ao xs) : FRow w ao xs := fun h0 => by
  obtain ⟨b, off, h1, _, _, h2, h3⟩ := h h0
  exact ⟨b, off, h1, h2, h3⟩
theorem RowC.later {g k : Nat} {w w' : World} {ao : Option Addr} {xs : List Value} (h : RowC g k w ao xs) (hb : Below w.heap.size w w') : RowC g k w' ao xs := fun h0 => by
  obtain ⟨b, off, h1, h4, h5, h2, h3⟩ := h h0
  exact ⟨b, off, h1, h4, h5, Nat.lt_of_lt_of_le h2 hb.size, fun i u hu => (hb.cell (by exact h2)).trans (h3 i u hu)⟩
theorem RowC.put10 {g k : Nat} {w : World} {ao : Option Addr} {xs : List Value} (h : RowC g k w ao xs) {j : Nat} (hj : j = g ∨ j = k) (u0 u1 u2 u3 u4 u5 u6 u7 u8 u9 : Value) : RowC g k (put10 w j u0 u1 u2 u3 u4 u5 u6 u7 u8 u9) ao xs := fun h0 => by
  obtain ⟨b, off, h1, h4, h5, h2, h3⟩ := h h0
  have hne : ∀ o i, (⟨b, i, none⟩ : Addr) ≠ ⟨j, o, none⟩ := fun o i e => by injection e; omega
  refine ⟨b, off, h1, h4, h5, by simpa using h2, fun i u hu => ?_⟩
  repeat rw [World.cell?_setCell_other _ _ _ _ (by first | exact hne _ _ | exact (hne _ _).symm)]
  exact h3 i u hu
theorem RowC.of_own {g k B : Nat} {w : World} {ao : Option Addr} {xs : List Value} (h : FOwn B w ao xs) (hg : g < B) (hk : k < B) : RowC g k w ao xs := fun h0 => by
  obtain ⟨b, h1, h4, h2, h3⟩ := h h0
  exact ⟨b, 0, h1, by omega, by omega, h2, fun i u hu => by rw [Nat.zero_add]; exact (h3 i u hu).1⟩
theorem RowC.of_old {g k B : Nat} {w : World} {ao : Option Addr} {xs : List Value} (h : FOwn B w ao xs) (hg : g < B) (hk : w.heap.size ≤ k) : RowC g k w ao xs := fun h0 => by
  obtain ⟨b, h1, h4, h2, h3⟩ := h h0
  exact ⟨b, 0, h1, by omega, by omega, h2, fun i u hu => by rw [Nat.zero_add]; exact (h3 i u hu).1⟩

end Go.Proofs.Ytghlegidapmpmaa
