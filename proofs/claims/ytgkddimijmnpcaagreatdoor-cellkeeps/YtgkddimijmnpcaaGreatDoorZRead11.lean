/-
  The two readers (package op's and the document's): a number, a text, a dot, by contracts: what they read from where they stand.
-/
import Derived.Test.YtgkddimijmnpcaaGreatDoorZOp11
import Derived.Test.YtgkddimijmnpcaaGreatDoorZPack1
import Derived.Test.YtgkddimijmnpcaaGreatDoorZKept
import Derived.Test.YtgkddimijmnpcaaGreatDoorZVarintText
import Derived.Test.YtgkddimijmnpcaaGreatDoorZRefVarint
import Derived.Deep.Cut
import Derived.Deep.CutRange
namespace Go.Proofs.YtgkddimijmnpcaaGreatDoor
open Go.RowKit
set_option linter.unusedVariables false
set_option linter.unusedSimpArgs false

/-- Only block k may have turned, of what lay there. -/
abbrev KO (k : Nat) (w w' : World) : Prop := Kept (fun j => j = k) w w'
theorem KO.trans {k : Nat} {w w1 w2 : World} (h : KO k w w1) (g : KO k w1 w2) : KO k w w2 := Kept.trans h g
theorem KO.below {k B : Nat} {w w' : World} (h : KO k w w') (hB : B ≤ k) (hw : k < w.heap.size) : Below B w w' := Kept.below h (by omega) (fun j e => by omega)
theorem Has.ko {k g : Nat} {w w' : World} {xs : List Value} (h : Has w g xs) (hk : KO k w w') (hne : g ≠ k) : Has w' g xs :=
  ⟨Nat.lt_of_lt_of_le h.1 (Kept.size hk), fun i u hu => ⟨(Kept.cell hk h.1 hne).trans (h.2 i u hu).1, (Kept.frozen hk h.1 hne).trans (h.2 i u hu).2⟩⟩
theorem own_ko {k B n s : Nat} {e : TypeId} {v : Value} {xs : List Value} {w w' : World} (h : w.ownsRow B e s v n xs) (hk : KO k w w') (hB : k < B) : w'.ownsRow B e s v n xs :=
  h.kept (row := some k) ⟨hk.1.os, hk.1.tape, hk.1.output, hk.1.size, fun j hj hjk => hk.2 j hj fun e => hjk (by rw [e])⟩ (by
    rcases hv : v.ownBlock with _ | g
    · exact Or.inl rfl
    · exact Or.inr (by have := (h.lt g hv).1; intro e; injection e; omega))

/-- A reader in block k: of the text s, at the place z (none: it failed). -/
def Rdr (k : Nat) (s : ByteArray) (z : Option Nat) (w : World) : Prop := match z with
  | none => ∃ a : Nat, Has w k [.string s, .int .i64 (a : Nat), .bool true] ∧ a ≤ s.size
  | some c => Has w k [.string s, .int .i64 (c : Nat), .bool false] ∧ c ≤ s.size
theorem Rdr.lt {k : Nat} {s : ByteArray} {z : Option Nat} {w : World} (h : Rdr k s z w) : k < w.heap.size := by
  cases z with
  | none => obtain ⟨a, h, _⟩ := h; exact h.1
  | some c => exact h.1.1
theorem Rdr.later {k : Nat} {s : ByteArray} {z : Option Nat} {w w' : World} (h : Rdr k s z w) (hb : Below w.heap.size w w') : Rdr k s z w' := by
  cases z with
  | none => obtain ⟨a, h, ha⟩ := h; exact ⟨a, h.later hb, ha⟩
  | some c => exact ⟨h.1.later hb, h.2⟩
theorem Has.three {w : World} {g : Nat} {u0 u1 u2 : Value} (h : Has w g [u0, u1, u2]) : (w.cell? ⟨g, 0, none⟩ = some u0 ∧ w.cell? ⟨g, 1, none⟩ = some u1 ∧ w.cell? ⟨g, 2, none⟩ = some u2) ∧ w.frozen? ⟨g, 1, none⟩ = false ∧ w.frozen? ⟨g, 2, none⟩ = false :=
  ⟨⟨h.at 0 rfl, h.at 1 rfl, h.at 2 rfl⟩, h.free 1 rfl, h.free 2 rfl⟩
/-- Behind the two stores. -/
theorem rdr_put {k : Nat} {s : ByteArray} {w W : World} {u0 u1 u2 : Value} (h : Has W k [u0, u1, u2]) (hb : Below w.heap.size w W) (hk : k < w.heap.size) (a : Int) (f : Bool) :
    Has ((W.setCell ⟨k, 1, none⟩ (.int .i64 a)).setCell ⟨k, 2, none⟩ (.bool f)) k [u0, .int .i64 a, .bool f] ∧ KO k w ((W.setCell ⟨k, 1, none⟩ (.int .i64 a)).setCell ⟨k, 2, none⟩ (.bool f)) :=
  ⟨(h.put 1 _).put 2 _, ((Kept.of (S := fun j => j = k) hb).set (p := ⟨k, 1, none⟩) rfl _).set (p := ⟨k, 2, none⟩) rfl _⟩
theorem below_drewN {B : Nat} {a w : World} (h : Below B a w) (n : Nat) : Below B a (w.drewN n) := ⟨h.os, h.tape, h.output, h.size, h.block⟩
theorem has_drewN {w : World} {k : Nat} {xs : List Value} (h : Has w k xs) (n : Nat) : Has (w.drewN n) k xs := h

theorem nat_wf {c : Nat} (h : c < 9223372036854775808) : (Lit.int .i64 (c : Int)).wf = true := by
  exact WalkArith.wf_i64 ⟨by omega, by omega⟩
theorem getText_ok {l : List UInt8} {a : Int} {x : List UInt8} {t : Nat} (h : Vi.getText l a = (x, t, 0)) : t ≤ l.length := by
  unfold Vi.getText at h
  by_cases hi : (Vi.getI l a).2.2 = 0
  · rw [if_pos hi] at h
    by_cases h3 : 65536 < (Vi.getI l a).1
    · rw [if_pos h3] at h; simp at h
    · rw [if_neg h3] at h
      by_cases h4 : l.length - (Vi.getI l a).2.1 < (Vi.getI l a).1
      · rw [if_pos h4] at h; simp at h
      · rw [if_neg h4] at h
        simp only [Prod.mk.injEq, and_true] at h
        have hg : Vi.getI l a = ((Vi.getI l a).1, (Vi.getI l a).2.1, 0) := by rw [← hi]
        have := Vi.getI_ok hg
        omega
  · rw [if_neg hi] at h
    simp only [Prod.mk.injEq] at h
    exact absurd h.2.2 hi
theorem getText_err {l : List UInt8} {a : Int} {x : List UInt8} {t n : Nat} (h : Vi.getText l a = (x, t, n)) (hn : ¬ n = 0) : x = [] ∧ t = 0 := by
  unfold Vi.getText at h
  by_cases hi : (Vi.getI l a).2.2 = 0
  · rw [if_pos hi] at h
    by_cases h3 : 65536 < (Vi.getI l a).1
    · rw [if_pos h3] at h
      simp only [Prod.mk.injEq] at h
      exact ⟨h.1.symm, h.2.1.symm⟩
    · rw [if_neg h3] at h
      by_cases h4 : l.length - (Vi.getI l a).2.1 < (Vi.getI l a).1
      · rw [if_pos h4] at h
        simp only [Prod.mk.injEq] at h
        exact ⟨h.1.symm, h.2.1.symm⟩
      · rw [if_neg h4] at h
        simp only [Prod.mk.injEq] at h
        exact absurd h.2.2.symm hn
  · rw [if_neg hi] at h
    simp only [Prod.mk.injEq] at h
    exact ⟨h.1.symm, h.2.1.symm⟩

theorem ko_put {k : Nat} {w W : World} (hb : Below w.heap.size w W) (o : Nat) (v : Value) : KO k w (W.setCell ⟨k, o, none⟩ v) := (Kept.of (S := fun j => j = k) hb).set (p := ⟨k, o, none⟩) rfl _

theorem ret_dot1 {fn : Func} {tmps : Array Value} {t : Tmp} {w : World} {g : Nat} {x y : Value} (h : fn.results = #[.cell t 32]) (ht : tmps[t]? = some (.pointer (some ⟨g, 0, none⟩))) (hg : Has w g [x, y]) :
    (results fn tmps).run Tryz.prog w = .ok (.agg #[x, y]) w := by
  have h0 := hg.at 0 rfl
  have h1 := hg.at 1 rfl
  simp [results, h, ht, h0, h1, go_sem]
theorem rdr_off {k g : Nat} {s : ByteArray} {z : Option Nat} {w : World} (h : Rdr k s z w) (hne : g ≠ k) (o : Nat) (v : Value) : Rdr k s z (w.setCell ⟨g, o, none⟩ v) := by
  cases z with
  | none => obtain ⟨a, h, ha⟩ := h; exact ⟨a, h.other hne _ _, ha⟩
  | some c => exact ⟨h.1.other hne _ _, h.2⟩
/-- A store into a block that was not there. -/
theorem ko_new {k g : Nat} {w w' : World} (h : KO k w w') (hg : w.heap.size ≤ g) (o : Nat) (v : Value) : KO k w (w'.setCell ⟨g, o, none⟩ v) :=
  ⟨h.1.setCell (Nat.zero_le _) v, fun j hj hS => (Below.heap_setCell _ _ _ _ fun e => by have : j = g := e; omega).trans (h.2 j hj hS)⟩

end Go.Proofs.YtgkddimijmnpcaaGreatDoor

