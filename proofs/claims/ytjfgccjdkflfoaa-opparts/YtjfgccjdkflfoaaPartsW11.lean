/-
  What the law OpParts asks besides: why a part that a kind does not name may not be; rows of dots.
-/
import Derived.Test.YtjfgccjdkflfoaaFormsW11
namespace Go.Proofs.Ytjfgccjdkflfoaa
open Go.RowKit
set_option linter.unusedVariables false
set_option linter.unusedSimpArgs false

theorem no_k02 {o : O14} (hk : o.kind = 0 ∨ o.kind = 2) (h : (numZ o && refZ o && dotZ o) = false) : whatB o = false := by
  unfold whatB
  rw [if_pos hk, h, Bool.and_false]
theorem no_k1 {o : O14} (hk : o.kind = 1) (h : (refZ o && dotZ o && valZ o && winB o.re && winB o.im) = false) : whatB o = false := by
  unfold whatB
  rw [if_neg (by omega), if_pos hk, h, Bool.and_false]
theorem no_k3 {o : O14} (hk : o.kind = 3) (h : (numZ o && refZ o && valZ o && dotsB o.deps o.dots) = false) : whatB o = false := by
  unfold whatB
  rw [if_neg (by omega), if_neg (by omega), if_pos hk, h, Bool.and_false]
theorem no_k4 {o : O14} (hk : o.kind = 4) (h : (numZ o && dotZ o && (refZ o || hasB o.deps (o.rn, o.rs))) = false) : whatB o = false := by
  unfold whatB
  rw [if_neg (by omega), if_neg (by omega), if_neg (by omega), if_pos hk, h, Bool.and_false]
theorem no_k5 {o : O14} (hk : o.kind = 5) (h : (numZ o && dotZ o && valZ o && hasB o.deps (o.rn, o.rs)) = false) : whatB o = false := by
  unfold whatB
  rw [if_neg (by omega), if_neg (by omega), if_neg (by omega), if_neg (by omega), if_pos hk, h, Bool.and_false]
theorem may_one0 : mayO one0 2 = true := by decide +kernel
theorem may_one2 : mayO one2 2 = true := by decide +kernel
theorem may_one3 : mayO one3 2 = true := by decide +kernel
theorem may_one5 : mayO one5 2 = true := by decide +kernel
theorem may_one1 : mayO one1 2 = true := by decide +kernel

theorem own_apart {w : World} {A B s t n m c d g k : Nat} {e f : TypeId} {xs ys : List Value} (h1 : w.ownsRow A e s (.slice (some ⟨g, 0, none⟩) n c) n xs) (h2 : w.ownsRow B f t (.slice (some ⟨k, 0, none⟩) m d) m ys) (hne : e ≠ f) : g ≠ k := by
  rcases h1.2 with ⟨h, _⟩ | ⟨g', _, _, h, _, hg, _⟩
  · simp at h
  · rcases h2.2 with ⟨h', _⟩ | ⟨k', _, _, h', _, hk, _⟩
    · simp at h'
    · simp only [Value.slice.injEq, Option.some.injEq, Addr.mk.injEq, and_true] at h h'
      rintro rfl
      rw [← h.1] at hg
      rw [← h'.1, hg] at hk
      simp only [Option.some.injEq, Obj.cells.injEq] at hk
      exact hne hk.2.1
theorem FS.drew {w W : World} {h b : Nat} {o : O14} {q : Pq} (H : FS w h b o q W) : FS w h b o q W.drew := H.later (Below.refl _ _).drew
/-- A number of one of its dots. -/
theorem FS.dot {w W : World} {h b g qc : Nat} {o : O14} {po : Option Addr} {pc : Nat} (H : FS w h b o ⟨po, pc, some ⟨g, 0, none⟩, qc⟩ W) (hg : h ≤ g) (hgp : ∀ g', po = some ⟨g', 0, none⟩ → g' ≠ g) (i : Nat) (v : Int) (l : List D2) (hl : (flatD o.dots).set i (.int .i64 v) = flatD l) (hn : l.length = o.dots.length) (hgb : g ≠ b) :
    FS w h b { o with dots := l } ⟨po, pc, some ⟨g, 0, none⟩, qc⟩ (W.setCell ⟨g, i, none⟩ (.int .i64 v)) :=
  ⟨⟨H.low.1.setCell (p := ⟨g, i, none⟩) hg _, by simpa using H.low.2⟩, by
    have := H.cur.other hgb i (.int .i64 v)
    have e : oL { o with dots := l } ⟨po, pc, some ⟨g, 0, none⟩, qc⟩ = oL o ⟨po, pc, some ⟨g, 0, none⟩, qc⟩ := by simp only [oL, hn]
    rw [e]
    exact this, H.rd.off hgp i _, by show RB _ _ _ (flatD l); rw [← hl]; exact H.rt.put i _, H.hb⟩
/-- Another row of dots, which lies there. -/
theorem FS.dotsN {w W : World} {h b n qc : Nat} {o : O14} {q : Pq} {B : Nat} (H : FS w h b o q W) (l : List D2) (hr : FOwn B W (some ⟨n, 0, none⟩) (flatD l)) (hB : b < B) :
    FS w h b { o with dots := l } ⟨q.po, q.pc, some ⟨n, 0, none⟩, qc⟩ (W.setCell ⟨b, 13, none⟩ (.slice (some ⟨n, 0, none⟩) l.length qc)) :=
  ⟨⟨H.low.1.setCell (p := ⟨b, 13, none⟩) H.hb _, by simpa using H.low.2⟩, H.cur.put 13 _, H.rd.set 13 _, RB.set (fun h0 => by
    obtain ⟨g, h1, h2, h3, h4⟩ := hr h0
    exact ⟨g, h1, by omega, h3, h4⟩) 13 _, H.hb⟩
theorem flatD_zero : ∀ n : Nat, flatD (List.replicate n (0, 0)) = List.replicate (n * 2) (.int .i64 0)
  | 0 => rfl
  | n + 1 => by
    have ih := flatD_zero n
    rw [Nat.succ_mul, List.replicate_succ]
    simp only [flatD, List.flatMap_cons] at ih ⊢
    rw [ih]
    rfl
theorem made_dots (n : Nat) : (madeCells (Value.agg #[.int .i64 0, .int .i64 0]).cells (n * 2)).toList = flatD (List.replicate n (0, 0)) := by
  rw [flatD_zero]
  have hf : ∀ i : Nat, (#[Value.int .i64 0, Value.int .i64 0] : Array Value)[i % 2]! = .int .i64 0 := fun i => by
    rcases Nat.mod_two_eq_zero_or_one i with h | h <;> rw [h] <;> rfl
  show ((Array.range (n * 2)).map fun i => (#[Value.int .i64 0, Value.int .i64 0] : Array Value)[i % 2]!).toList = _
  simp only [hf]
  simp only [Array.toList_map, Array.toList_range]
  rw [List.map_const']
  simp

end Go.Proofs.Ytjfgccjdkflfoaa
