/-
  What the laws OpForms and OpParts keep of the operation that they turn; why it may not be.
-/
import Derived.Test.YtjfgccjdkflfoaaZOpsWalk
import Derived.Test.YtjfgccjdkflfoaaZPack1
namespace Go.Proofs.Ytjfgccjdkflfoaa
open Go.RowKit
set_option linter.unusedVariables false
set_option linter.unusedSimpArgs false

abbrev one2 : O14 := ⟨1, 3, 9, [4, 2], 2, bT, bi, bf, bv, 0, 0, 0, 0, []⟩
abbrev one4 : O14 := ⟨1, 3, 9, [4, 2], 4, bT, bi, bf, bv, 0, 0, 0, 1, []⟩
abbrev one5 : O14 := ⟨1, 3, 9, [4, 2], 5, bT, bi, bf, noS, 0, 0, 0, 1, []⟩
theorem one2_at (w : World) : Calls Try.prog 21 #[.int .i64 2] w fun e w' => ∃ q, e = .returned (oV one2 q) ∧ OOwn w.heap.size w' one2 q ∧ Below w.heap.size w w' := one_2 w
theorem one4_at (w : World) : Calls Try.prog 21 #[.int .i64 4] w fun e w' => ∃ q, e = .returned (oV one4 q) ∧ OOwn w.heap.size w' one4 q ∧ Below w.heap.size w w' := one_4 w
theorem one5_at (w : World) : Calls Try.prog 21 #[.int .i64 5] w fun e w' => ∃ q, e = .returned (oV one5 q) ∧ OOwn w.heap.size w' one5 q ∧ Below w.heap.size w w' := one_5 w
theorem siz_small {o : O14} (h1 : o.deps.length ≤ 1000) (h2 : o.dots.length ≤ 1000) (h3 : o.type.size ≤ 1000) (h4 : o.id.size ≤ 1000) (h5 : o.field.size ≤ 1000) (h6 : o.value.size ≤ 1000) : Siz o := ⟨by omega, by omega, by omega, by omega, by omega, by omega⟩
theorem siz_one2 : Siz one2 := ⟨by decide, by decide, by decide, by decide, by decide, by decide⟩
theorem siz_one4 : Siz one4 := ⟨by decide, by decide, by decide, by decide, by decide, by decide⟩
theorem siz_one5 : Siz one5 := ⟨by decide, by decide, by decide, by decide, by decide, by decide⟩
theorem siz_one0 : Siz one0 := ⟨by decide, by decide, by decide, by decide, by decide, by decide⟩

theorem put_no {o : O14} {q : Pq} {n : Int} (hm : mayO o n = false) (W : World) (hr : ORow W o q) (hs : Siz o) : Calls Try.prog 9 #[oV o q, .int .i64 n] W fun e w' => e = .returned (.tuple #[.string noS, .int .i64 1100]) ∧ Below W.heap.size W w' := by
  have h := oput_any o q n W hr hs
  have e1 : putA o n = noS := by unfold putA; rw [hm]; rfl
  have e2 : putE o n = 1100 := by unfold putE; rw [hm]; rfl
  rw [e1, e2] at h
  exact h
theorem may_is {o : O14} {q : Pq} {n : Int} {b : Bool} (hm : mayO o n = b) (W : World) (hr : ORow W o q) (hs : Siz o) : Calls Try.prog 16 #[oV o q, .int .i64 n] W fun e w' => e = .returned (.bool b) ∧ Below W.heap.size W w' := by
  have h := omay_any o q n W hr hs
  rw [hm] at h
  exact h
theorem may_one4 : mayO one4 2 = true := by decide +kernel
theorem may_one4_3 : mayO one4 3 = false := by decide +kernel

theorem no_dot {o : O14} {n : Int} (h : ¬ (1 ≤ n ∧ n ≤ 16 ∧ 0 ≤ o.dn ∧ o.dn < n ∧ 1 ≤ o.ds ∧ o.ds ≤ 1048575)) : mayO o n = false := by
  unfold mayO whenB mayB
  rw [decide_eq_false h]
  simp
theorem no_time {o : O14} {n : Int} (h : ¬ (1 ≤ o.time ∧ o.time ≤ 16777215)) : mayO o n = false := by
  unfold mayO whenB
  rw [decide_eq_false h]
  simp
theorem no_vec {o : O14} {n : Int} (h : vecB o.deps n = false) : mayO o n = false := by
  unfold mayO whenB
  rw [h]
  simp
theorem no_seq {o : O14} {n : Int} (h : ¬ o.deps.getD o.dn.toNat 0 = o.ds - 1) : mayO o n = false := by
  unfold mayO whenB
  rw [decide_eq_false h]
  simp
theorem no_where {o : O14} {n : Int} (h : whereB o = false) : mayO o n = false := by
  unfold mayO
  rw [h]
  simp
theorem no_what {o : O14} {n : Int} (h : whatB o = false) : mayO o n = false := by
  unfold mayO
  rw [h]
  simp

/-- A row beside block b, which may be written. -/
def RB (W : World) (b : Nat) (ao : Option Addr) (xs : List Value) : Prop := 0 < xs.length → ∃ g, ao = some ⟨g, 0, none⟩ ∧ g ≠ b ∧ g < W.heap.size ∧ ∀ i u, xs[i]? = some u → W.cell? ⟨g, i, none⟩ = some u ∧ W.frozen? ⟨g, i, none⟩ = false
theorem RB.row {W : World} {b : Nat} {ao : Option Addr} {xs : List Value} (h : RB W b ao xs) : FRow W ao xs := fun h0 => by
  obtain ⟨g, h1, h2, h3, h4⟩ := h h0
  exact ⟨g, 0, h1, h3, fun i u hu => by rw [Nat.zero_add]; exact (h4 i u hu).1⟩
theorem RB.nil (W : World) (b : Nat) (ao : Option Addr) : RB W b ao [] := fun h => by simp at h
theorem RB.set {W : World} {b : Nat} {ao : Option Addr} {xs : List Value} (h : RB W b ao xs) (i : Nat) (v : Value) : RB (W.setCell ⟨b, i, none⟩ v) b ao xs := fun h0 => by
  obtain ⟨g, h1, h2, h3, h4⟩ := h h0
  refine ⟨g, h1, h2, by simpa using h3, fun j u hu => ⟨?_, by rw [World.frozen?_setCell]; exact (h4 j u hu).2⟩⟩
  rw [World.cell?_setCell_other _ _ _ _ (fun e => by injection e with e _ _; exact h2 e.symm)]
  exact (h4 j u hu).1
theorem RB.later {W W' : World} {b : Nat} {ao : Option Addr} {xs : List Value} (h : RB W b ao xs) (hb : Below W.heap.size W W') : RB W' b ao xs := fun h0 => by
  obtain ⟨g, h1, h2, h3, h4⟩ := h h0
  exact ⟨g, h1, h2, Nat.lt_of_lt_of_le h3 hb.size, fun i u hu => ⟨(hb.cell (by exact h3)).trans (h4 i u hu).1, (hb.frozen (by exact h3)).trans (h4 i u hu).2⟩⟩
theorem RB.of {B b : Nat} {W : World} {ao : Option Addr} {xs : List Value} (h : FOwn B W ao xs) (hb : W.heap.size ≤ b) : RB W b ao xs := fun h0 => by
  obtain ⟨g, h1, h2, h3, h4⟩ := h h0
  exact ⟨g, h1, by omega, h3, h4⟩
theorem RB.off {W : World} {b k : Nat} {ao : Option Addr} {xs : List Value} (h : RB W b ao xs) (hk : ∀ g, ao = some ⟨g, 0, none⟩ → g ≠ k) (i : Nat) (v : Value) : RB (W.setCell ⟨k, i, none⟩ v) b ao xs := fun h0 => by
  obtain ⟨g, h1, h2, h3, h4⟩ := h h0
  refine ⟨g, h1, h2, by simpa using h3, fun j u hu => ⟨?_, by rw [World.frozen?_setCell]; exact (h4 j u hu).2⟩⟩
  rw [World.cell?_setCell_other _ _ _ _ (fun e => by injection e with e _ _; exact hk g h1 e.symm)]
  exact (h4 j u hu).1
/-- A cell of the row itself. -/
theorem RB.put {W : World} {b g : Nat} {xs : List Value} (h : RB W b (some ⟨g, 0, none⟩) xs) (i : Nat) (v : Value) : RB (W.setCell ⟨g, i, none⟩ v) b (some ⟨g, 0, none⟩) (xs.set i v) := fun h0 => by
  rw [List.length_set] at h0
  obtain ⟨g', h1, h2, h3, h4⟩ := h h0
  simp only [Option.some.injEq, Addr.mk.injEq, and_true] at h1
  subst h1
  refine ⟨g, rfl, h2, by simpa using h3, fun j u hu => ⟨?_, ?_⟩⟩
  · by_cases e : i = j
    · subst e
      rw [List.getElem?_set_self'] at hu
      cases hx : xs[i]? with
      | none => rw [hx] at hu; simp at hu
      | some y =>
        rw [hx] at hu
        have hu' : v = u := by simpa using hu
        subst hu'
        exact World.cell?_setCell_same _ _ _ (h4 i y hx).1
    · rw [List.getElem?_set_ne e] at hu
      rw [World.cell?_setCell_other _ _ _ _ (fun e' => by injection e' with _ e' _; exact e e')]
      exact (h4 j u hu).1
  · rw [World.frozen?_setCell]
    by_cases e : i = j
    · subst e
      rw [List.getElem?_set_self'] at hu
      cases hx : xs[i]? with
      | none => rw [hx] at hu; simp at hu
      | some y => exact (h4 i y hx).2
    · rw [List.getElem?_set_ne e] at hu
      exact (h4 j u hu).2
theorem RB.at {W : World} {b g : Nat} {xs : List Value} (h : RB W b (some ⟨g, 0, none⟩) xs) {i : Nat} {u : Value} (hi : xs[i]? = some u) : (W.cell? ⟨g, i, none⟩ = some u ∧ W.frozen? ⟨g, i, none⟩ = false) ∧ g ≠ b ∧ g < W.heap.size := by
  obtain ⟨g', h1, h2, h3, h4⟩ := h (Nat.lt_of_le_of_lt (Nat.zero_le _) (List.getElem?_eq_some_iff.1 hi).1)
  simp only [Option.some.injEq, Addr.mk.injEq, and_true] at h1
  subst h1
  exact ⟨h4 i u hi, h2, h3⟩

/-- The operation that is turned, in block b. -/
structure Fst (w : World) (h b : Nat) (o : O14) (q : Pq) (W : World) : Prop where
  low : Below h w W ∧ h ≤ W.heap.size
  cur : Has W b (oL o q)
  rd : RB W b q.po (flatI o.deps)
  rt : RB W b q.qo (flatD o.dots)
  hb : h ≤ b
theorem Fst.row {w W : World} {h b : Nat} {o : O14} {q : Pq} (H : Fst w h b o q W) : ORow W o q := ⟨H.rd.row, H.rt.row⟩
theorem Fst.later {w W W' : World} {h b : Nat} {o : O14} {q : Pq} (H : Fst w h b o q W) (hb : Below W.heap.size W W') : Fst w h b o q W' := ⟨Ops.down h H.low hb, H.cur.later hb, H.rd.later hb, H.rt.later hb, H.hb⟩
theorem Fst.set {w W : World} {h b : Nat} {o : O14} {q : Pq} (H : Fst w h b o q W) (i : Nat) (v : Value) (o' : O14) (he : (oL o q).set i v = oL o' q) (hd : o'.deps = o.deps) (ht : o'.dots = o.dots) : Fst w h b o' q (W.setCell ⟨b, i, none⟩ v) :=
  ⟨⟨H.low.1.setCell (p := ⟨b, i, none⟩) H.hb _, by simpa using H.low.2⟩, he ▸ H.cur.put i v, by rw [hd]; exact H.rd.set i v, by rw [ht]; exact H.rt.set i v, H.hb⟩
theorem fs_new {w w2 : World} {h b B : Nat} {o : O14} {q : Pq} (hl : Below h w w2 ∧ h ≤ w2.heap.size) (own : OOwn B w2 o q) (hb : w2.heap.size = b) : Fst w h b o q (w2.alloc (.cells (oL o q).toArray 29)) :=
  ⟨Ops.down h hl (Ops.newer _ _), hb ▸ has_new w2 _ _, (RB.of own.fwn.1 (Nat.le_of_eq hb)).later (Ops.newer _ _), (RB.of own.fwn.2 (Nat.le_of_eq hb)).later (Ops.newer _ _), hb ▸ hl.2⟩
/-- A number of its Deps. -/
theorem Fst.dep {w W : World} {h b g pc : Nat} {o : O14} {qo : Option Addr} {qc : Nat} (H : Fst w h b o ⟨some ⟨g, 0, none⟩, pc, qo, qc⟩ W) (hg : h ≤ g) (hgq : o.dots = []) (i : Nat) (v : Int) (l : List Int) (hl : (flatI o.deps).set i (.int .i64 v) = flatI l) (hn : l.length = o.deps.length) (hgb : g ≠ b) :
    Fst w h b { o with deps := l } ⟨some ⟨g, 0, none⟩, pc, qo, qc⟩ (W.setCell ⟨g, i, none⟩ (.int .i64 v)) :=
  ⟨⟨H.low.1.setCell (p := ⟨g, i, none⟩) hg _, by simpa using H.low.2⟩, by
    have := H.cur.other hgb i (.int .i64 v)
    have e : oL { o with deps := l } ⟨some ⟨g, 0, none⟩, pc, qo, qc⟩ = oL o ⟨some ⟨g, 0, none⟩, pc, qo, qc⟩ := by simp only [oL, hn]
    rw [e]
    exact this, by show RB _ _ _ (flatI l); rw [← hl]; exact H.rd.put i _, by show RB _ _ _ (flatD o.dots); rw [hgq]; exact RB.nil _ _ _, H.hb⟩

/-- As Fst, with rows wherever. -/
structure Fsr (w : World) (h b : Nat) (o : O14) (q : Pq) (W : World) : Prop where
  low : Below h w W ∧ h ≤ W.heap.size
  cur : Has W b (oL o q)
  row : ORow W o q
theorem Fsr.later {w W W' : World} {h b : Nat} {o : O14} {q : Pq} (H : Fsr w h b o q W) (hb : Below W.heap.size W W') : Fsr w h b o q W' := ⟨Ops.down h H.low hb, H.cur.later hb, H.row.later hb⟩
theorem ownb {B n c s b : Nat} {e : TypeId} {xs : List Value} {W : World} {ao : Option Addr} (ho : W.ownsRow B e s (.slice ao n c) n xs) (hb : ∀ b', ao = some ⟨b', 0, none⟩ → b' ≠ b) : (Value.slice ao n c).ownBlock ≠ some b := by
  rcases ho.2 with ⟨h1, _⟩ | ⟨g, cap, cur, h1, _⟩
  · rw [h1]; simp [Value.ownBlock]
  · simp only [Value.slice.injEq] at h1
    have := hb g h1.1
    rw [h1.1]
    simp only [Value.ownBlock, ne_eq, Option.some.injEq]
    exact this
theorem noS_empty : (⟨#[]⟩ : ByteArray).toList.isEmpty = true := by rw [← valZ_eq ⟨0, 0, 0, [], 0, noS, noS, noS, ⟨#[]⟩, 0, 0, 0, 0, []⟩]; rfl
theorem has_gb {W W' : World} {b : Nat} {xs : List Value} {row : Option Nat} (h : Has W b xs) (hg : W.grownBy W' row) (hne : some b ≠ row) : Has W' b xs :=
  ⟨Nat.lt_of_lt_of_le h.1 hg.size, fun i u hu => ⟨(World.cell?_of_block (a := ⟨b, i, none⟩) (hg.block b h.1 hne)).trans (h.2 i u hu).1, (World.frozen?_of_block (a := ⟨b, i, none⟩) (hg.block b h.1 hne)).trans (h.2 i u hu).2⟩⟩

end Go.Proofs.Ytjfgccjdkflfoaa

/-
  What the law OpParts asks besides: why a part that a kind does not name may not be; rows of dots.
-/
namespace Go.Proofs.Ytjfgccjdkflfoaa
open Go.RowKit
set_option linter.unusedVariables false
set_option linter.unusedSimpArgs false

theorem no_k02 {o : O14} (hk : o.kind = 0 ∨ o.kind = 2) (h : (numZ o && refZ o && dotZ o) = false) : whatB o = false := by
  unfold whatB
  rw [if_pos hk, h, Bool.and_false]
theorem no_k1 {o : O14} (hk : o.kind = 1) (h : (refZ o && dotZ o && valZ o && winB o.re && winB o.im) = false) : whatB o = false := by
  unfold whatB
  rw [if_neg (by omega), if_pos hk, h, Bool.and_false]
theorem no_k3 {o : O14} (hk : o.kind = 3) (h : (numZ o && refZ o && valZ o && dotsB o.deps o.dots) = false) : whatB o = false := by
  unfold whatB
  rw [if_neg (by omega), if_neg (by omega), if_pos hk, h, Bool.and_false]
theorem no_k4 {o : O14} (hk : o.kind = 4) (h : (numZ o && dotZ o && (refZ o || hasB o.deps (o.rn, o.rs))) = false) : whatB o = false := by
  unfold whatB
  rw [if_neg (by omega), if_neg (by omega), if_neg (by omega), if_pos hk, h, Bool.and_false]
theorem no_k5 {o : O14} (hk : o.kind = 5) (h : (numZ o && dotZ o && valZ o && hasB o.deps (o.rn, o.rs)) = false) : whatB o = false := by
  unfold whatB
  rw [if_neg (by omega), if_neg (by omega), if_neg (by omega), if_neg (by omega), if_pos hk, h, Bool.and_false]
theorem may_one0 : mayO one0 2 = true := by decide +kernel
theorem may_one2 : mayO one2 2 = true := by decide +kernel
theorem may_one3 : mayO one3 2 = true := by decide +kernel
theorem may_one5 : mayO one5 2 = true := by decide +kernel
theorem may_one1 : mayO one1 2 = true := by decide +kernel

theorem own_apart {w : World} {A B s t n m c d g k : Nat} {e f : TypeId} {xs ys : List Value} (h1 : w.ownsRow A e s (.slice (some ⟨g, 0, none⟩) n c) n xs) (h2 : w.ownsRow B f t (.slice (some ⟨k, 0, none⟩) m d) m ys) (hne : e ≠ f) : g ≠ k := by
  rcases h1.2 with ⟨h, _⟩ | ⟨g', _, _, h, _, hg, _⟩
  · simp at h
  · rcases h2.2 with ⟨h', _⟩ | ⟨k', _, _, h', _, hk, _⟩
    · simp at h'
    · simp only [Value.slice.injEq, Option.some.injEq, Addr.mk.injEq, and_true] at h h'
      rintro rfl
      rw [← h.1] at hg
      rw [← h'.1, hg] at hk
      simp only [Option.some.injEq, Obj.cells.injEq] at hk
      exact hne hk.2.1
theorem Fst.drew {w W : World} {h b : Nat} {o : O14} {q : Pq} (H : Fst w h b o q W) : Fst w h b o q W.drew := H.later (Below.refl _ _).drew
/-- A number of one of its dots. -/
theorem Fst.dot {w W : World} {h b g qc : Nat} {o : O14} {po : Option Addr} {pc : Nat} (H : Fst w h b o ⟨po, pc, some ⟨g, 0, none⟩, qc⟩ W) (hg : h ≤ g) (hgp : ∀ g', po = some ⟨g', 0, none⟩ → g' ≠ g) (i : Nat) (v : Int) (l : List D2) (hl : (flatD o.dots).set i (.int .i64 v) = flatD l) (hn : l.length = o.dots.length) (hgb : g ≠ b) :
    Fst w h b { o with dots := l } ⟨po, pc, some ⟨g, 0, none⟩, qc⟩ (W.setCell ⟨g, i, none⟩ (.int .i64 v)) :=
  ⟨⟨H.low.1.setCell (p := ⟨g, i, none⟩) hg _, by simpa using H.low.2⟩, by
    have := H.cur.other hgb i (.int .i64 v)
    have e : oL { o with dots := l } ⟨po, pc, some ⟨g, 0, none⟩, qc⟩ = oL o ⟨po, pc, some ⟨g, 0, none⟩, qc⟩ := by simp only [oL, hn]
    rw [e]
    exact this, H.rd.off hgp i _, by show RB _ _ _ (flatD l); rw [← hl]; exact H.rt.put i _, H.hb⟩
/-- Another row of dots, which lies there. -/
theorem Fst.dotsN {w W : World} {h b n qc : Nat} {o : O14} {q : Pq} {B : Nat} (H : Fst w h b o q W) (l : List D2) (hr : FOwn B W (some ⟨n, 0, none⟩) (flatD l)) (hB : b < B) :
    Fst w h b { o with dots := l } ⟨q.po, q.pc, some ⟨n, 0, none⟩, qc⟩ (W.setCell ⟨b, 13, none⟩ (.slice (some ⟨n, 0, none⟩) l.length qc)) :=
  ⟨⟨H.low.1.setCell (p := ⟨b, 13, none⟩) H.hb _, by simpa using H.low.2⟩, H.cur.put 13 _, H.rd.set 13 _, RB.set (fun h0 => by
    obtain ⟨g, h1, h2, h3, h4⟩ := hr h0
    exact ⟨g, h1, by omega, h3, h4⟩) 13 _, H.hb⟩
theorem flatD_zero : ∀ n : Nat, flatD (List.replicate n (0, 0)) = List.replicate (n * 2) (.int .i64 0)
  | 0 => rfl
  | n + 1 => by
    have ih := flatD_zero n
    rw [Nat.succ_mul, List.replicate_succ]
    simp only [flatD, List.flatMap_cons] at ih ⊢
    rw [ih]
    rfl
theorem made_dots (n : Nat) : (madeCells (Value.agg #[.int .i64 0, .int .i64 0]).cells (n * 2)).toList = flatD (List.replicate n (0, 0)) := by
  rw [flatD_zero]
  have hf : ∀ i : Nat, (#[Value.int .i64 0, Value.int .i64 0] : Array Value)[i % 2]! = .int .i64 0 := fun i => by
    rcases Nat.mod_two_eq_zero_or_one i with h | h <;> rw [h] <;> rfl
  show ((Array.range (n * 2)).map fun i => (#[Value.int .i64 0, Value.int .i64 0] : Array Value)[i % 2]!).toList = _
  simp only [hf]
  simp only [Array.toList_map, Array.toList_range]
  rw [List.map_const']
  simp

end Go.Proofs.Ytjfgccjdkflfoaa

