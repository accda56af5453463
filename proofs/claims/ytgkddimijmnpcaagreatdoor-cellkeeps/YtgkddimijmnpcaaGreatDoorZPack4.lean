/-
  Insert, Erase, Compact, Values, At and the document's own, whatever comes.
-/
import Derived.Test.YtgkddimijmnpcaaGreatDoorZRefI10
import Derived.Test.YtgkddimijmnpcaaGreatDoorZLists10
import Derived.Test.YtgkddimijmnpcaaGreatDoorZPack3
import Derived.Test.YtgkddimijmnpcaaGreatDoorZCeRef
import Derived.Test.YtgkddimijmnpcaaGreatDoorZOp11
import Derived.Test.YtgkddimijmnpcaaGreatDoorZPack1
import Derived.Laws.EntriesVeiled
import Derived.Test.YtgkddimijmnpcaaGreatDoorZQuo12
import Derived.Lib.ItoaLen
import Derived.Lib.ItoaNum
import Derived.Deep.RegionHeld3
import Derived.Maps.OwnSet
import Derived.DeepKeys4
import Derived.Test.YtgkddimijmnpcaaGreatDoorZBld12
import Derived.Deep.Cut
import Derived.Deep.CutRange
import Derived.Test.YtgkddimijmnpcaaGreatDoorZItoa
import Derived.Test.YtgkddimijmnpcaaGreatDoorZGauText
import Derived.Test.YtgkddimijmnpcaaGreatDoorZMadeInts
import Derived.Test.YtgkddimijmnpcaaGreatDoorZRefVec
import Derived.Test.YtgkddimijmnpcaaGreatDoorZPutA12
import Derived.Test.YtgkddimijmnpcaaGreatDoorZInsA12
import Derived.Test.YtgkddimijmnpcaaGreatDoorZReadS11
import Derived.Deep.MidRow
import Derived.BigFrame
import Derived.BigQuiet
namespace Go.Proofs.YtgkddimijmnpcaaGreatDoor
open Go.RowKit Go.Shelf
set_option linter.unusedVariables false
set_option linter.unusedSimpArgs false

/-- What Insert answers. -/
def ansI (c : Ce) (e : L5) (d : D2) : Ce × Int := if (decide (c.kind = 3) && okX c.elems e) = true then (match insL c.elems e d with
  | some L => (cL c L, 0)
  | none => (ce0, 1001)) else (ce0, 1000)
/-- What Erase answers. -/
def ansR (c : Ce) (d : D2) : Ce × Int := if c.kind = 3 then (match eraL c.elems d with
  | some L => (cL c L, 0)
  | none => (ce0, 1001)) else (ce0, 1000)
/-- What Compact answers. -/
def ansK (c : Ce) : Ce := if c.kind = 3 then cL c (liveL c.elems) else ce0
def numK (c : Ce) : Int := if c.kind = 3 then 0 else 1000
/-- What Values answers. -/
def ansX (c : Ce) : List ByteArray := if c.kind = 3 then valsX c.elems else []
/-- What At answers. -/
def ansA (c : Ce) (k : Int) : D2 × Int := if c.kind = 3 then atNum c.elems k else ((0, 0), 1000)

theorem ins_all (c : Ce) (p : Pl) (e : L5) (d : D2) (w : World) (hr : CRow w c p) (hf : Fit c) (hv : e.val.size ≤ maxLen) :
    Calls Tryz.prog 63 #[ceV c p, lv e, dv d] w fun r w' => ∃ q, r = .returned (.tuple #[ceV (ansI c e d).1 q, .int .i64 (ansI c e d).2]) ∧ COwn w.heap.size w' (ansI c e d).1 q ∧ Below w.heap.size w w' := by
  unfold ansI
  by_cases hb : (decide (c.kind = 3) && okX c.elems e) = true
  · rw [if_pos hb]
    simp only [Bool.and_eq_true, decide_eq_true_eq] at hb
    cases hi : insL c.elems e d with
    | some L => exact ins_yes c p e d L w hr hf hb.1 hb.2 hi
    | none =>
      refine (ins_range c p e d w hr hf hb.1 hb.2 (insL_none.1 hi)).mono ?_
      rintro r w1 ⟨he, b⟩
      exact ⟨pl0, he, own_none0 _ _, b⟩
  · rw [if_neg hb]
    refine (ins_no c p e d w hr hf hv (by simpa using hb)).mono ?_
    rintro r w1 ⟨he, b⟩
    exact ⟨pl0, he, own_none0 _ _, b⟩
theorem rins_all (c : Ce) (p : Pl) (e : L5) (d : D2) (w : World) (hr : CRow w c p) (hf : Fit c) (hcap : c.elems.length ≤ p.lc) (hv : e.val.size ≤ maxLen) :
    Calls Tryz.prog 75 #[ceV c p, lv e, dv d] w fun r w' => ∃ q, r = .returned (.tuple #[ceV (ansI c e d).1 q, .int .i64 (ansI c e d).2]) ∧ COwn w.heap.size w' (ansI c e d).1 q ∧ Below w.heap.size w w' := by
  unfold ansI
  by_cases hb : (decide (c.kind = 3) && okX c.elems e) = true
  · rw [if_pos hb]
    simp only [Bool.and_eq_true, decide_eq_true_eq] at hb
    cases hi : insL c.elems e d with
    | some L => exact rins_yes c p e d L w hr hf hcap hb.1 hb.2 hi
    | none =>
      refine (rins_range c p e d w hr hf hb.1 hb.2 (insL_none.1 hi)).mono ?_
      rintro r w1 ⟨he, b⟩
      exact ⟨pl0, he, own_none0 _ _, b⟩
  · rw [if_neg hb]
    refine (rins_no c p e d w hr hf hv (by simpa using hb)).mono ?_
    rintro r w1 ⟨he, b⟩
    exact ⟨pl0, he, own_none0 _ _, b⟩
theorem era_all (c : Ce) (p : Pl) (d : D2) (w : World) (hr : CRow w c p) (hf : Fit c) :
    Calls Tryz.prog 65 #[ceV c p, dv d] w fun r w' => ∃ q, r = .returned (.tuple #[ceV (ansR c d).1 q, .int .i64 (ansR c d).2]) ∧ COwn w.heap.size w' (ansR c d).1 q ∧ Below w.heap.size w w' := by
  unfold ansR
  by_cases hk : c.kind = 3
  · rw [if_pos hk]
    have hk1 : (c.kind != 3) = false := by simpa using hk
    unfold eraL
    cases ha : atD c.elems d with
    | some k => exact era_yes c p d k w hr hf hk1 ha
    | none =>
      refine (era_range c p d w hr hf hk1 ha).mono ?_
      rintro r w1 ⟨he, b⟩
      exact ⟨pl0, he, own_none0 _ _, b⟩
  · rw [if_neg hk]
    refine (era_no c p d w (by simpa using hk)).mono ?_
    rintro r w1 ⟨he, b⟩
    exact ⟨pl0, he, own_none0 _ _, b⟩
theorem rera_all (c : Ce) (p : Pl) (d : D2) (w : World) (hr : CRow w c p) (hf : Fit c) :
    Calls Tryz.prog 76 #[ceV c p, dv d] w fun r w' => ∃ q, r = .returned (.tuple #[ceV (ansR c d).1 q, .int .i64 (ansR c d).2]) ∧ COwn w.heap.size w' (ansR c d).1 q ∧ Below w.heap.size w w' := by
  unfold ansR
  by_cases hk : c.kind = 3
  · rw [if_pos hk]
    have hk1 : (c.kind != 3) = false := by simpa using hk
    unfold eraL
    cases ha : atD c.elems d with
    | some k => exact rera_yes c p d k w hr hf hk1 ha
    | none =>
      refine (rera_range c p d w hr hf hk1 ha).mono ?_
      rintro r w1 ⟨he, b⟩
      exact ⟨pl0, he, own_none0 _ _, b⟩
  · rw [if_neg hk]
    refine (rera_no c p d w (by simpa using hk)).mono ?_
    rintro r w1 ⟨he, b⟩
    exact ⟨pl0, he, own_none0 _ _, b⟩
theorem xvals_all (c : Ce) (p : Pl) (w : World) (hr : CRow w c p) (hf : Fit c) :
    Calls Tryz.prog 129 #[ceV c p] w fun r w' => ∃ ao ca, r = .returned (.tuple #[.slice ao (ansX c).length ca, .int .i64 (numK c)]) ∧ FOwn w.heap.size w' ao (flatT (ansX c)) ∧ Below w.heap.size w w' := by
  unfold ansX numK
  by_cases hk : c.kind = 3
  · rw [if_pos hk, if_pos hk]
    exact xvals_yes c p w hr hf (by simpa using hk)
  · rw [if_neg hk, if_neg hk]
    refine (xvals_no c p w (by simpa using hk)).mono ?_
    rintro r w1 ⟨he, b⟩
    exact ⟨none, 0, he, FOwn.nil _ _ _, b⟩
theorem rlvals_all (c : Ce) (p : Pl) (w : World) (hr : CRow w c p) (hf : Fit c) :
    Calls Tryz.prog 39 #[ceV c p] w fun r w' => ∃ ao ca, r = .returned (.tuple #[.slice ao (ansX c).length ca, .int .i64 (numK c)]) ∧ FOwn w.heap.size w' ao (flatT (ansX c)) ∧ Below w.heap.size w w' := by
  unfold ansX numK
  by_cases hk : c.kind = 3
  · rw [if_pos hk, if_pos hk]
    exact rlvals_yes c p w hr hf (by simpa using hk)
  · rw [if_neg hk, if_neg hk]
    refine (rlvals_no c p w (by simpa using hk)).mono ?_
    rintro r w1 ⟨he, b⟩
    exact ⟨none, 0, he, FOwn.nil _ _ _, b⟩
end Go.Proofs.YtgkddimijmnpcaaGreatDoor

/-
  Package cell as plain data: which cell may be, what an operation leaves; what may be stays so, and has seen the operation.
-/
namespace Go.Proofs.YtgkddimijmnpcaaGreatDoor
open Go.RowKit Go.Shelf
set_option linter.unusedVariables false
set_option linter.unusedSimpArgs false

def lwwZ (c : Ce) : Bool := !c.set && (decide (c.time = 0 ∧ c.node = 0) && decide (c.val.size = 0))
def numZc (c : Ce) : Bool := decide (c.re = 0 ∧ c.im = 0)
def entZ (c : Ce) : Bool := decide (c.ents.length = 0)
def elmZ (c : Ce) : Bool := decide (c.elems.length = 0)
def stB (t k n : Int) : Bool := decide (1 ≤ t ∧ t ≤ 16777215 ∧ 0 ≤ k ∧ k < n)
abbrev e30 : E3 := ⟨0, 0, ByteArray.empty⟩
abbrev l50 : L5 := ⟨0, 0, 0, ByteArray.empty, false⟩
def entB (s : List Int) (l : List E3) (i : Nat) : Bool := hasB s (dotE (l.getD i e30)) && (decide ((l.getD i e30).val.size ≤ 256) && (decide (i = 0) || ltD (dotE (l.getD (i - 1) e30)) (dotE (l.getD i e30))))
def entsB (s : List Int) (l : List E3) : Bool := (List.range l.length).all (entB s l)
def elmB (s : List Int) (l : List L5) (i : Nat) : Bool := hasB s (dotX (l.getD i l50)) && (decide (1 ≤ (l.getD i l50).time ∧ (l.getD i l50).time ≤ 16777215) && (decide ((l.getD i l50).val.size ≤ 256) && ((!(l.getD i l50).gone || decide ((l.getD i l50).val.size = 0)) && decide (atD l (dotX (l.getD i l50)) = some i))))
def elmsB (s : List Int) (l : List L5) : Bool := (List.range l.length).all (elmB s l)
/-- May it be, of n nodes? -/
def cmayB (c : Ce) (n : Int) : Bool := vecB c.seen n && (
  if c.kind = 0 then numZc c && (entZ c && (elmZ c && (lwwZ c || (c.set && (stB c.time c.node n && decide (c.val.size ≤ 256))))))
  else if c.kind = 1 then lwwZ c && (entZ c && (elmZ c && pairB c.re c.im))
  else if c.kind = 2 then lwwZ c && (numZc c && (elmZ c && entsB c.seen c.ents))
  else if c.kind = 3 then lwwZ c && (numZc c && (entZ c && elmsB c.seen c.elems))
  else false)
/-- What an operation does, without Seen. -/
def effC (c : Ce) (o : O14) : Ce × Int :=
  if o.kind = 0 then (if setB c o.time o.dn o.value then (setC c o.time o.dn o.value, 0) else (ce0, 700))
  else if o.kind = 1 then (ansN c o.re o.im, ansM c o.re o.im)
  else if o.kind = 2 then (ansP c (o.dn, o.ds) o.value, numP c (o.dn, o.ds) o.value)
  else if o.kind = 3 then (ansQ c o.dots, numQ c)
  else if o.kind = 4 then ansI c ⟨o.dn, o.ds, o.time, o.value, false⟩ (o.rn, o.rs)
  else ansR c (o.rn, o.rs)
/-- A row of numbers that has seen one more. -/
def seeV (s : List Int) (d : D2) : List Int := s.set d.1.toNat (max (s.getD d.1.toNat 0) d.2)
def seeC (c : Ce) (d : D2) : Ce := ⟨c.kind, c.set, c.time, c.node, c.val, c.re, c.im, c.ents, c.elems, seeV c.seen d⟩
/-- What Apply answers. -/
def appC (c : Ce) (o : O14) (n : Int) : Ce × Int :=
  if (cmayB c n && mayO o n) = true then (if kindN o.kind = c.kind then (if (effC c o).2 = 0 then (seeC (effC c o).1 (o.dn, o.ds), 0) else (ce0, (effC c o).2)) else (ce0, 1201)) else (ce0, 1200)

/-- The same, as sentences. -/
def EntsP (s : List Int) (l : List E3) : Prop := (∀ x ∈ l, hasB s (dotE x) = true ∧ x.val.size ≤ 256) ∧ SortE l
def ElmsP (s : List Int) (l : List L5) : Prop := (∀ x ∈ l, hasB s (dotX x) = true ∧ (1 ≤ x.time ∧ x.time ≤ 16777215) ∧ x.val.size ≤ 256 ∧ (x.gone = true → x.val.size = 0)) ∧ OnceX l

theorem pw_adj {α : Type} {R : α → α → Prop} (tr : ∀ a b c, R a b → R b c → R a c) : ∀ {l : List α}, (∀ (i : Nat) a b, l[i]? = some a → l[i + 1]? = some b → R a b) → l.Pairwise R
  | [], _ => List.Pairwise.nil
  | [a], _ => by simp
  | a :: b :: t, h => by
    have ih := pw_adj tr (l := b :: t) (fun i x y hx hy => h (i + 1) x y (by simpa using hx) (by simpa using hy))
    have hab := h 0 a b rfl rfl
    refine List.pairwise_cons.2 ⟨fun x hx => ?_, ih⟩
    rcases List.mem_cons.1 hx with rfl | hx
    · exact hab
    · exact tr _ _ _ hab ((List.pairwise_cons.1 ih).1 x hx)
theorem pw_at {α : Type} {R : α → α → Prop} {l : List α} (h : l.Pairwise R) {i j : Nat} {a b : α} (hij : i < j) (ha : l[i]? = some a) (hb : l[j]? = some b) : R a b := by
  obtain ⟨hi, rfl⟩ := List.getElem?_eq_some_iff.1 ha
  obtain ⟨hj, rfl⟩ := List.getElem?_eq_some_iff.1 hb
  exact List.pairwise_iff_getElem.1 h i j hi hj hij
theorem getD_of {α : Type} {l : List α} {i : Nat} {a d : α} (h : l[i]? = some a) : l.getD i d = a := by simp [List.getD, h]

theorem entsB_iff (s : List Int) (l : List E3) : entsB s l = true ↔ EntsP s l := by
  unfold entsB EntsP entB
  simp only [List.all_eq_true, List.mem_range, Bool.and_eq_true, Bool.or_eq_true, decide_eq_true_eq]
  constructor
  · intro h
    refine ⟨fun x hx => ?_, ?_⟩
    · obtain ⟨i, hi, rfl⟩ := List.getElem_of_mem hx
      have := h i hi
      rw [getD_of (List.getElem?_eq_getElem hi)] at this
      exact ⟨this.1, this.2.1⟩
    · show l.Pairwise fun x y => ltD (dotE x) (dotE y) = true
      refine pw_adj (R := fun x y => ltD (dotE x) (dotE y) = true) (fun a b c h1 h2 => ltD_trans h1 h2) fun i a b ha hb => ?_
      have hi := (List.getElem?_eq_some_iff.1 hb).1
      have := (h (i + 1) hi).2.2
      rw [Nat.add_sub_cancel, getD_of ha, getD_of hb] at this
      rcases this with h0 | h0
      · omega
      · exact h0
  · rintro ⟨h1, h2⟩ i hi
    have hx := List.getElem?_eq_getElem hi
    have hm := h1 _ (List.getElem_mem hi)
    rw [getD_of hx]
    refine ⟨hm.1, hm.2, ?_⟩
    by_cases h0 : i = 0
    · exact Or.inl h0
    · refine Or.inr ?_
      have hp : i - 1 < l.length := by omega
      rw [getD_of (List.getElem?_eq_getElem hp)]
      exact pw_at h2 (by omega) (List.getElem?_eq_getElem hp) hx
theorem atD_own {l : List L5} (h : OnceX l) {i : Nat} {x : L5} (hx : l[i]? = some x) : atD l (dotX x) = some i := by
  obtain ⟨hi, rfl⟩ := List.getElem?_eq_some_iff.1 hx
  have e : l = l.take i ++ l[i] :: l.drop (i + 1) := (List.take_append_drop i l).symm.trans (by rw [List.drop_eq_getElem_cons hi])
  have hl : (l.take i).length = i := by simp; omega
  have k := atD_split (A := l.take i) (B := l.drop (i + 1)) (x := l[i]) (by rw [← e]; exact h)
  rw [← e, hl] at k
  exact k
theorem atD_get : ∀ {l : List L5} {d : D2} {k : Nat}, atD l d = some k → ∃ x, l[k]? = some x ∧ dotX x = d
  | [], d, k, h => by simp [atD] at h
  | a :: l, d, k, h => by
    unfold atD at h
    by_cases e : dotX a = d
    · rw [if_pos e] at h
      simp only [Option.some.injEq] at h
      subst h
      exact ⟨a, rfl, e⟩
    · rw [if_neg e] at h
      obtain ⟨j, hj, rfl⟩ := Option.map_eq_some_iff.1 h
      obtain ⟨x, hx, hd⟩ := atD_get hj
      exact ⟨x, by simpa using hx, hd⟩
theorem elmsB_iff (s : List Int) (l : List L5) : elmsB s l = true ↔ ElmsP s l := by
  unfold elmsB ElmsP elmB
  simp only [List.all_eq_true, List.mem_range, Bool.and_eq_true, Bool.or_eq_true, decide_eq_true_eq, Bool.not_eq_true']
  constructor
  · intro h
    refine ⟨fun x hx => ?_, ?_⟩
    · obtain ⟨i, hi, rfl⟩ := List.getElem_of_mem hx
      have := h i hi
      rw [getD_of (List.getElem?_eq_getElem hi)] at this
      obtain ⟨h1, h2, h3, h4, _⟩ := this
      refine ⟨h1, h2, h3, fun hg => ?_⟩
      rcases h4 with h4 | h4
      · rw [hg] at h4; cases h4
      · exact h4
    · unfold OnceX
      refine List.pairwise_iff_getElem.2 fun i j hi hj hij e => ?_
      have a1 := (h i hi).2.2.2.2
      have a2 := (h j hj).2.2.2.2
      rw [getD_of (List.getElem?_eq_getElem hi)] at a1
      rw [getD_of (List.getElem?_eq_getElem hj), ← e, a1] at a2
      simp only [Option.some.injEq] at a2
      omega
  · rintro ⟨h1, h2⟩ i hi
    have hx := List.getElem?_eq_getElem hi
    obtain ⟨k1, k2, k3, k4⟩ := h1 _ (List.getElem_mem hi)
    rw [getD_of hx]
    refine ⟨k1, k2, k3, ?_, atD_own h2 hx⟩
    cases hg : (l[i]).gone with
    | false => exact Or.inl rfl
    | true => exact Or.inr (k4 hg)

theorem seeV_len (s : List Int) (d : D2) : (seeV s d).length = s.length := by simp [seeV]
theorem seeV_at (s : List Int) (d : D2) (i : Nat) : (seeV s d).getD i 0 = if i = d.1.toNat ∧ i < s.length then max (s.getD i 0) d.2 else s.getD i 0 := by
  unfold seeV
  by_cases h : i = d.1.toNat
  · subst h
    by_cases hl : d.1.toNat < s.length
    · rw [if_pos ⟨rfl, hl⟩]
      simp [List.getD, List.getElem?_set_self, hl]
    · rw [if_neg (by omega)]
      simp [List.getD, hl]
  · rw [if_neg (by omega)]
    simp [List.getD, List.getElem?_set_ne (Ne.symm h)]
theorem has_see {s : List Int} {e : D2} (d : D2) (h : hasB s e = true) : hasB (seeV s d) e = true := by
  unfold hasB at *
  rw [decide_eq_true_eq] at *
  rw [seeV_len, seeV_at]
  refine ⟨h.1, h.2.1, h.2.2.1, ?_⟩
  split <;> omega
theorem has_own {s : List Int} {d : D2} (h0 : 0 ≤ d.1 ∧ d.1 < s.length) (h1 : 1 ≤ d.2) : hasB (seeV s d) d = true := by
  unfold hasB
  rw [decide_eq_true_eq, seeV_len, seeV_at, if_pos ⟨rfl, by omega⟩]
  omega
theorem vec_see {s : List Int} {n : Int} {d : D2} (h : vecB s n = true) (hd : 0 ≤ d.2 ∧ d.2 ≤ 1048575) : vecB (seeV s d) n = true := by
  have hm := vec_mem h
  unfold vecB at *
  simp only [Bool.and_eq_true, decide_eq_true_eq, List.all_eq_true] at *
  rw [seeV_len]
  refine ⟨h.1, fun x hx => ?_⟩
  unfold seeV at hx
  rcases List.mem_or_eq_of_mem_set hx with hx | rfl
  · exact h.2 x hx
  · by_cases hl : d.1.toNat < s.length
    · have := h.2 (s.getD d.1.toNat 0) (by simp [List.getD, hl])
      omega
    · have : s.getD d.1.toNat 0 = 0 := by simp [List.getD, hl]
      omega

theorem vec_size {s : List Int} {n : Int} (h : vecB s n = true) : (s.length : Int) = n ∧ 1 ≤ n ∧ n ≤ 16 := by
  unfold vecB at h
  simp only [Bool.and_eq_true, decide_eq_true_eq] at h
  omega

/-- An operation's parts that cells ask for. -/
structure OpP (o : O14) (n : Int) : Prop where
  dn : 0 ≤ o.dn ∧ o.dn < n
  ds : 1 ≤ o.ds ∧ o.ds ≤ 1048575
  time : 1 ≤ o.time ∧ o.time ≤ 16777215
  value : o.value.size ≤ 256
  n1 : 1 ≤ n ∧ n ≤ 16
theorem opP_of {o : O14} {n : Int} (h : mayO o n = true) : OpP o n := by
  have F := fit_of h
  unfold mayO at h
  simp only [Bool.and_eq_true] at h
  have hw := h.1.1
  unfold whenB mayB at hw
  simp only [Bool.and_eq_true, decide_eq_true_eq] at hw
  obtain ⟨⟨⟨h1, h2⟩, h3⟩, h4⟩ := hw
  exact ⟨by omega, by omega, h2, F.value, by omega⟩

theorem ents_see {s : List Int} {l : List E3} (d : D2) (h : EntsP s l) : EntsP (seeV s d) l := ⟨fun x hx => ⟨has_see d (h.1 x hx).1, (h.1 x hx).2⟩, h.2⟩
theorem elms_see {s : List Int} {l : List L5} (d : D2) (h : ElmsP s l) : ElmsP (seeV s d) l := ⟨fun x hx => ⟨has_see d (h.1 x hx).1, (h.1 x hx).2⟩, h.2⟩
theorem mark_val (x : L5) : (markX x).val.size = 0 ∧ (markX x).gone = true ∧ (markX x).time = x.time ∧ dotX (markX x) = dotX x := ⟨rfl, rfl, rfl, rfl⟩

set_option maxHeartbeats 1000000 in
/-- What may be stays so. -/
theorem keeps {c : Ce} {o : O14} {n : Int} (hc : cmayB c n = true) (ho : mayO o n = true) (hk : kindN o.kind = c.kind) (he : (effC c o).2 = 0) :
    cmayB (seeC (effC c o).1 (o.dn, o.ds)) n = true ∧ (effC c o).1.seen = c.seen ∧ (effC c o).1.kind = c.kind := by
  have P := opP_of ho
  have K := (fit_of ho).kind
  unfold cmayB at hc
  simp only [Bool.and_eq_true] at hc
  obtain ⟨hv, hc⟩ := hc
  have hvs := vec_see (d := (o.dn, o.ds)) hv (by have := P.ds; simp only; omega)
  have hlen := vec_size hv
  have hown : hasB (seeV c.seen (o.dn, o.ds)) (o.dn, o.ds) = true := has_own (by have := P.dn; simp only; omega) (by have := P.ds; simp only; omega)
  unfold effC at he ⊢
  by_cases k0 : o.kind = 0
  · rw [if_pos k0] at he ⊢
    have hk0 : c.kind = 0 := by rw [← hk, k0]; rfl
    rw [if_pos hk0] at hc
    by_cases hb : setB c o.time o.dn o.value = true
    · rw [if_pos hb]
      simp only [Bool.and_eq_true] at hc
      obtain ⟨h1, h2, h3, h4⟩ := hc
      unfold setC
      by_cases hs : (!c.set || lessB c.time c.node o.time o.dn) = true
      · rw [if_pos hs]
        refine ⟨?_, rfl, rfl⟩
        unfold cmayB seeC
        simp only [hvs, Bool.true_and]
        rw [if_pos hk0]
        simp only [Bool.and_eq_true]
        refine ⟨h1, h2, h3, ?_⟩
        simp only [Bool.or_eq_true, Bool.and_eq_true]
        refine Or.inr ⟨?_, ?_⟩
        · unfold stB; rw [decide_eq_true_eq]; have := P.time; have := P.dn; omega
        · rw [decide_eq_true_eq]; exact P.value
      · rw [if_neg hs]
        refine ⟨?_, rfl, rfl⟩
        unfold cmayB seeC
        simp only [hvs, Bool.true_and]
        rw [if_pos hk0]
        simp only [Bool.and_eq_true]
        exact ⟨h1, h2, h3, h4⟩
    · rw [if_neg hb] at he
      simp at he
  · rw [if_neg k0] at he ⊢
    by_cases k1 : o.kind = 1
    · rw [if_pos k1] at he ⊢
      have hk1 : c.kind = 1 := by rw [← hk, k1]; rfl
      rw [if_neg (by omega), if_pos hk1] at hc
      unfold ansM at he
      by_cases hb : cntB c o.re o.im = true
      · unfold ansN
        rw [if_pos hb]
        refine ⟨?_, rfl, rfl⟩
        unfold cmayB seeC cntC
        simp only [hvs, Bool.true_and]
        rw [if_neg (by omega), if_pos hk1]
        simp only [Bool.and_eq_true] at hc ⊢
        refine ⟨hc.1, hc.2.1, hc.2.2.1, ?_⟩
        unfold cntB addB at hb
        simp only [Bool.and_eq_true] at hb
        exact hb.2.2
      · rw [if_neg hb] at he
        simp at he
    · rw [if_neg k1] at he ⊢
      by_cases k2 : o.kind = 2
      · rw [if_pos k2] at he ⊢
        have hk2 : c.kind = 2 := by rw [← hk, k2]; rfl
        rw [if_neg (by omega), if_neg (by omega), if_pos hk2] at hc
        unfold numP at he
        by_cases hb : putB c (o.dn, o.ds) o.value = true
        · unfold ansP
          rw [if_pos hb]
          refine ⟨?_, rfl, rfl⟩
          unfold cmayB seeC
          simp only [hvs, Bool.true_and]
          rw [if_neg (by omega), if_neg (by omega), if_pos hk2]
          simp only [Bool.and_eq_true] at hc ⊢
          refine ⟨hc.1, hc.2.1, hc.2.2.1, ?_⟩
          have E := ents_see (o.dn, o.ds) ((entsB_iff _ _).1 hc.2.2.2)
          unfold putB at hb
          simp only [Bool.and_eq_true, Bool.not_eq_true'] at hb
          have hno : ∀ x ∈ c.ents, dotE x ≠ (o.dn, o.ds) := fun x hx e => by
            have := (hasD_iff c.ents (o.dn, o.ds)).2 ⟨x, hx, e⟩
            rw [hb.2.2.2] at this
            cases this
          refine (entsB_iff _ _).2 ⟨fun x hx => ?_, putL_sort E.2 hno⟩
          rcases (putL_mem _ _ _ _).1 hx with hx | rfl
          · exact E.1 x hx
          · exact ⟨hown, P.value⟩
        · rw [if_neg hb] at he
          simp at he
      · rw [if_neg k2] at he ⊢
        by_cases k3 : o.kind = 3
        · rw [if_pos k3] at he ⊢
          have hk2 : c.kind = 2 := by rw [← hk, k3]; rfl
          rw [if_neg (by omega), if_neg (by omega), if_pos hk2] at hc
          unfold ansQ
          rw [if_pos (by rw [decide_eq_true_eq]; exact hk2)]
          refine ⟨?_, rfl, rfl⟩
          unfold cmayB seeC
          simp only [hvs, Bool.true_and]
          rw [if_neg (by omega), if_neg (by omega), if_pos hk2]
          simp only [Bool.and_eq_true] at hc ⊢
          refine ⟨hc.1, hc.2.1, hc.2.2.1, ?_⟩
          have E := ents_see (o.dn, o.ds) ((entsB_iff _ _).1 hc.2.2.2)
          refine (entsB_iff _ _).2 ⟨fun x hx => E.1 x (List.mem_filter.1 hx).1, E.2.sublist List.filter_sublist⟩
        · rw [if_neg k3] at he ⊢
          have hk3 : c.kind = 3 := by
            rw [← hk]
            unfold kindN
            rw [if_neg k0, if_neg k1, if_neg (by omega), if_pos (by omega)]
          rw [if_neg (by omega), if_neg (by omega), if_neg (by omega), if_pos hk3] at hc
          simp only [Bool.and_eq_true] at hc
          obtain ⟨h1, h2, h3, h4⟩ := hc
          have E := elms_see (o.dn, o.ds) ((elmsB_iff _ _).1 h4)
          have last : ∀ L, ElmsP (seeV c.seen (o.dn, o.ds)) L → cmayB (seeC (cL c L) (o.dn, o.ds)) n = true := fun L hL => by
            unfold cmayB seeC
            simp only [hvs, Bool.true_and]
            rw [if_neg (by omega), if_neg (by omega), if_neg (by omega), if_pos hk3]
            simp only [Bool.and_eq_true]
            exact ⟨h1, h2, h3, (elmsB_iff _ _).2 hL⟩
          by_cases k4 : o.kind = 4
          · rw [if_pos k4] at he ⊢
            unfold ansI at he ⊢
            by_cases hb : (decide (c.kind = 3) && okX c.elems ⟨o.dn, o.ds, o.time, o.value, false⟩) = true
            · rw [if_pos hb] at he ⊢
              cases hi : insL c.elems ⟨o.dn, o.ds, o.time, o.value, false⟩ (o.rn, o.rs) with
              | none => rw [hi] at he; simp at he
              | some L =>
                refine ⟨last L ⟨fun x hx => ?_, ?_⟩, rfl, rfl⟩
                · rcases (insL_mem hi).1 hx with hx | rfl
                  · exact E.1 x hx
                  · exact ⟨hown, P.time, P.value, fun h => by cases h⟩
                · unfold okX at hb
                  simp only [Bool.and_eq_true, Bool.not_eq_true'] at hb
                  exact once_ins hi E.2 hb.2.2.2.2.2
            · rw [if_neg hb] at he
              simp at he
          · rw [if_neg k4] at he ⊢
            unfold ansR at he ⊢
            rw [if_pos hk3] at he ⊢
            cases hi : eraL c.elems (o.rn, o.rs) with
            | none => rw [hi] at he; simp at he
            | some L =>
              refine ⟨last L ?_, rfl, rfl⟩
              unfold eraL at hi
              obtain ⟨k, _, rfl⟩ := Option.map_eq_some_iff.1 hi
              refine ⟨fun x hx => ?_, once_mark E.2⟩
              rcases mem_mark hx with hx | ⟨y, hy, rfl⟩
              · exact E.1 x hx
              · have := E.1 y hy
                exact ⟨this.1, this.2.1, by rw [(mark_val y).1]; omega, fun _ => (mark_val y).1⟩

end Go.Proofs.YtgkddimijmnpcaaGreatDoor

/-
  Package cell: the table of a kind's rules; what is left of a cell; whether it is empty; what small parts may be.
-/
namespace Go.Proofs.YtgkddimijmnpcaaGreatDoor
open Go.RowKit
set_option linter.unusedVariables false
set_option linter.unusedSimpArgs false

abbrev fnV (f : FuncId) : Value := .func (.func f) #[] #[]
/-- The functions of a kind's rules. -/
def rulL (k : Int) : List Value := if k = 0 then [fnV 77, fnV 78, fnV 79] else if k = 1 then [fnV 80, fnV 81, fnV 82] else if k = 2 then [fnV 83, fnV 84, fnV 85] else if k = 3 then [fnV 86, fnV 87, fnV 88] else [.nilFunc, .nilFunc, .nilFunc]
def knoB (k : Int) : Bool := decide (0 ≤ k ∧ k ≤ 3)
theorem ret_rules {fn : Func} {tmps : Array Value} {t u : Tmp} {w : World} {g : Nat} {v u0 u1 u2 : Value} (h : fn.results = #[.cell t 77, .tmp u]) (ht : tmps[t]? = some (.pointer (some ⟨g, 0, none⟩))) (hu : tmps[u]? = some v) (hg : Has w g [u0, u1, u2]) :
    (results fn tmps).run Tryz.prog w = .ok (.tuple #[.agg #[u0, u1, u2], v]) w := by
  have h0 := hg.at 0 rfl
  have h1 := hg.at 1 rfl
  have h2 := hg.at 2 rfl
  clear hg
  simp [results, h, ht, hu, h0, h1, h2, go_sem]

set_option maxHeartbeats 1000000 in
set_option maxRecDepth 100000 in
theorem rules_any (k : Int) (w : World) : Calls Tryz.prog 33 #[.int .i64 k] w fun e w' => e = .returned (.tuple #[.agg (rulL k).toArray, .bool (knoB k)]) ∧ Below w.heap.size w w' := by
  have hk : k = 0 ∨ k = 1 ∨ k = 2 ∨ k = 3 ∨ k < 0 ∨ 3 < k := by omega
  rcases hk with rfl | rfl | rfl | rfl | h | h
  · go_enter Tryz.func33, Tryz.ntmps33
    go_wp2
    exact bodyPost_ret (ret_rules rfl rfl rfl ((has_new w [fnV 77, fnV 78, fnV 79] _).alloc _)) rfl ⟨rfl, ((Below.refl _ _).alloc (Nat.le_refl _) _).alloc (by simp) _⟩
  · go_enter Tryz.func33, Tryz.ntmps33
    go_wp2
    exact bodyPost_ret (ret_rules rfl rfl rfl ((has_new w [fnV 80, fnV 81, fnV 82] _).alloc _)) rfl ⟨rfl, ((Below.refl _ _).alloc (Nat.le_refl _) _).alloc (by simp) _⟩
  · go_enter Tryz.func33, Tryz.ntmps33
    go_wp2
    exact bodyPost_ret (ret_rules rfl rfl rfl ((has_new w [fnV 83, fnV 84, fnV 85] _).alloc _)) rfl ⟨rfl, ((Below.refl _ _).alloc (Nat.le_refl _) _).alloc (by simp) _⟩
  · go_enter Tryz.func33, Tryz.ntmps33
    go_wp2
    exact bodyPost_ret (ret_rules rfl rfl rfl ((has_new w [fnV 86, fnV 87, fnV 88] _).alloc _)) rfl ⟨rfl, ((Below.refl _ _).alloc (Nat.le_refl _) _).alloc (by simp) _⟩
  · have e1 : rulL k = [.nilFunc, .nilFunc, .nilFunc] := by unfold rulL; rw [if_neg (by omega), if_neg (by omega), if_neg (by omega), if_neg (by omega)]
    have e2 : knoB k = false := by unfold knoB; simp; omega
    rw [e1, e2]
    clear e1 e2
    go_enter Tryz.func33, Tryz.ntmps33
    go_wp2
    exact bodyPost_ret (ret_rules rfl rfl rfl ((has_new w [.nilFunc, .nilFunc, .nilFunc] _).alloc _)) rfl ⟨rfl, ((Below.refl _ _).alloc (Nat.le_refl _) _).alloc (by simp) _⟩
  · have e1 : rulL k = [.nilFunc, .nilFunc, .nilFunc] := by unfold rulL; rw [if_neg (by omega), if_neg (by omega), if_neg (by omega), if_neg (by omega)]
    have e2 : knoB k = false := by unfold knoB; simp; omega
    rw [e1, e2]
    clear e1 e2
    go_enter Tryz.func33, Tryz.ntmps33
    go_wp2
    exact bodyPost_ret (ret_rules rfl rfl rfl ((has_new w [.nilFunc, .nilFunc, .nilFunc] _).alloc _)) rfl ⟨rfl, ((Below.refl _ _).alloc (Nat.le_refl _) _).alloc (by simp) _⟩

/-! What is left of a cell without a kind's own parts. -/
def rW (c : Ce) : Ce := ⟨c.kind, false, 0, 0, ByteArray.empty, c.re, c.im, c.ents, c.elems, c.seen⟩
def rN (c : Ce) : Ce := ⟨c.kind, c.set, c.time, c.node, c.val, 0, 0, c.ents, c.elems, c.seen⟩
def rE (c : Ce) : Ce := ⟨c.kind, c.set, c.time, c.node, c.val, c.re, c.im, [], c.elems, c.seen⟩
def rL (c : Ce) : Ce := ⟨c.kind, c.set, c.time, c.node, c.val, c.re, c.im, c.ents, [], c.seen⟩
theorem two_has (w : World) (L M : List Value) (t : TypeId) {h : Nat} (hh : w.heap.size = h) : Has ((w.alloc (.cells L.toArray t)).alloc (.cells M.toArray t)) (h + 1) M := by
  have := has_new (w.alloc (.cells L.toArray t)) M t
  rw [← hh]
  simpa using this
theorem two_below (w : World) (o o' : Obj) {h : Nat} (hh : w.heap.size = h) : Below h w ((w.alloc o).alloc o') := hh ▸ ((Below.refl _ _).alloc (Nat.le_refl _) _).alloc (by simp) _
set_option maxHeartbeats 1000000 in
set_option maxRecDepth 100000 in
theorem wW_any (c : Ce) (p : Pl) (w : World) : Calls Tryz.prog 77 #[ceV c p] w fun e w' => e = .returned (ceV (rW c) p) ∧ Below w.heap.size w w' := by
  have H : Has ((w.alloc (.cells (ceL c p).toArray 30)).alloc (.cells (ceL ce0 pl0).toArray 30)) w.heap.size (ceL c p) := (has_new _ _ _).alloc _
  obtain ⟨h, hh⟩ : ∃ h, w.heap.size = h := ⟨_, rfl⟩
  rw [hh] at H ⊢
  go_enter Tryz.func77, Tryz.ntmps77
  go_wp2
  exact bodyPost_ret (ret_cell rfl rfl (two_has w (ceL (rW c) p) (ceL (rW c) p) 30 hh)) rfl ⟨rfl, two_below w _ _ hh⟩
set_option maxHeartbeats 1000000 in
set_option maxRecDepth 100000 in
theorem wN_any (c : Ce) (p : Pl) (w : World) : Calls Tryz.prog 80 #[ceV c p] w fun e w' => e = .returned (ceV (rN c) p) ∧ Below w.heap.size w w' := by
  have H : Has ((w.alloc (.cells (ceL c p).toArray 30)).alloc (.cells (ceL ce0 pl0).toArray 30)) w.heap.size (ceL c p) := (has_new _ _ _).alloc _
  obtain ⟨h, hh⟩ : ∃ h, w.heap.size = h := ⟨_, rfl⟩
  rw [hh] at H ⊢
  go_enter Tryz.func80, Tryz.ntmps80
  go_wp2
  exact bodyPost_ret (ret_cell rfl rfl (two_has w (ceL (rN c) p) (ceL (rN c) p) 30 hh)) rfl ⟨rfl, two_below w _ _ hh⟩
set_option maxHeartbeats 1000000 in
set_option maxRecDepth 100000 in
theorem wE_any (c : Ce) (p : Pl) (w : World) : Calls Tryz.prog 83 #[ceV c p] w fun e w' => e = .returned (ceV (rE c) ⟨none, 0, p.lo, p.lc, p.so, p.sc⟩) ∧ Below w.heap.size w w' := by
  have H : Has ((w.alloc (.cells (ceL c p).toArray 30)).alloc (.cells (ceL ce0 pl0).toArray 30)) w.heap.size (ceL c p) := (has_new _ _ _).alloc _
  obtain ⟨h, hh⟩ : ∃ h, w.heap.size = h := ⟨_, rfl⟩
  rw [hh] at H ⊢
  go_enter Tryz.func83, Tryz.ntmps83
  go_wp2
  exact bodyPost_ret (ret_cell rfl rfl (two_has w (ceL (rE c) ⟨none, 0, p.lo, p.lc, p.so, p.sc⟩) (ceL (rE c) ⟨none, 0, p.lo, p.lc, p.so, p.sc⟩) 30 hh)) rfl ⟨rfl, two_below w _ _ hh⟩
set_option maxHeartbeats 1000000 in
set_option maxRecDepth 100000 in
theorem wL_any (c : Ce) (p : Pl) (w : World) : Calls Tryz.prog 86 #[ceV c p] w fun e w' => e = .returned (ceV (rL c) ⟨p.eo, p.ec, none, 0, p.so, p.sc⟩) ∧ Below w.heap.size w w' := by
  have H : Has ((w.alloc (.cells (ceL c p).toArray 30)).alloc (.cells (ceL ce0 pl0).toArray 30)) w.heap.size (ceL c p) := (has_new _ _ _).alloc _
  obtain ⟨h, hh⟩ : ∃ h, w.heap.size = h := ⟨_, rfl⟩
  rw [hh] at H ⊢
  go_enter Tryz.func86, Tryz.ntmps86
  go_wp2
  exact bodyPost_ret (ret_cell rfl rfl (two_has w (ceL (rL c) ⟨p.eo, p.ec, none, 0, p.so, p.sc⟩) (ceL (rL c) ⟨p.eo, p.ec, none, 0, p.so, p.sc⟩) 30 hh)) rfl ⟨rfl, two_below w _ _ hh⟩

theorem val_nil (v : ByteArray) : v.toList = [] ↔ v.size = 0 := by
  rw [ByteArray.toList_eq]
  have : v.data.toList.length = v.size := by simp
  constructor
  · intro h
    rw [h] at this
    simpa using this.symm
  · intro h
    exact List.eq_nil_of_length_eq_zero (by omega)
theorem val_nil2 (v : ByteArray) : v = ByteArray.empty ↔ v.size = 0 := by
  constructor
  · rintro rfl
    rfl
  · intro h
    cases v with
    | mk d =>
      have : d = #[] := Array.eq_empty_of_size_eq_zero h
      rw [this]
      rfl
/-- Nothing stands in it. -/
def empB (c : Ce) : Bool := lwwZ c && (numZc c && (entZ c && elmZ c))
set_option maxHeartbeats 4000000 in
set_option maxRecDepth 100000 in
theorem empty_any (c : Ce) (p : Pl) (w : World) : Calls Tryz.prog 42 #[ceV c p] w fun e w' => e = .returned (.bool (empB c)) ∧ Below w.heap.size w w' := by
  go_enter Tryz.func42, Tryz.ntmps42
  go_wp2
  all_goals go_ret
  all_goals refine ⟨?_, (Below.refl _ _).alloc (Nat.le_refl _) _⟩
  all_goals (congr 2; simp_all [empB, lwwZ, numZc, entZ, elmZ, val_nil])
  all_goals (rw [Bool.eq_iff_iff]; simp)
set_option maxHeartbeats 1000000 in
set_option maxRecDepth 100000 in
theorem mtime_any (t : Int) (w : World) : Calls Tryz.prog 121 #[.int .i64 t] w fun e w' => e = .returned (.bool (decide (1 ≤ t ∧ t ≤ 16777215))) ∧ Below w.heap.size w w' := by
  go_enter Tryz.func121, Tryz.ntmps121
  go_wp2
  all_goals go_ret
  all_goals refine ⟨?_, Below.refl _ _⟩
  all_goals (congr 2; first | (simp_all; done) | (simp_all; omega))
set_option maxHeartbeats 1000000 in
set_option maxRecDepth 100000 in
theorem mvalue_any (v : ByteArray) (w : World) : Calls Tryz.prog 122 #[.string v] w fun e w' => e = .returned (.bool (decide (v.size ≤ 256))) ∧ Below w.heap.size w w' := by
  go_enter Tryz.func122, Tryz.ntmps122
  go_wp2
  all_goals go_ret
  all_goals refine ⟨?_, Below.refl _ _⟩
  all_goals (congr 2; first | rfl | (simp; done) | (simp; omega))
/-- A kind's own parts may be. -/
def mwB (c : Ce) (n : Int) : Bool := if c.set then stB c.time c.node n && decide (c.val.size ≤ 256) else decide (c.time = 0 ∧ c.node = 0) && decide (c.val.size = 0)
set_option maxHeartbeats 4000000 in
set_option maxRecDepth 100000 in
theorem mwrite_any (c : Ce) (p : Pl) (n : Int) (w : World) : Calls Tryz.prog 78 #[ceV c p, .int .i64 n] w fun e w' => e = .returned (.bool (mwB c n)) ∧ Below w.heap.size w w' := by
  obtain ⟨ck, cs, ct, cn, cv, cre, cim, ce, cl, cse⟩ := c
  have B0 : Hid (Below w.heap.size w (w.alloc (.cells (ceL ⟨ck, cs, ct, cn, cv, cre, cim, ce, cl, cse⟩ p).toArray 30)) ∧ Has (w.alloc (.cells (ceL ⟨ck, cs, ct, cn, cv, cre, cim, ce, cl, cse⟩ p).toArray 30)) w.heap.size (ceL ⟨ck, cs, ct, cn, cv, cre, cim, ce, cl, cse⟩ p)) := ⟨(Below.refl _ _).alloc (Nat.le_refl _) _, has_new _ _ _⟩
  obtain ⟨h, hh⟩ : ∃ h, w.heap.size = h := ⟨_, rfl⟩
  rw [hh] at B0 ⊢
  cases cs with
  | false =>
    go_enter Tryz.func78, Tryz.ntmps78
    go_wp2
    all_goals go_ret
    all_goals refine ⟨?_, hh ▸ (Below.refl _ _).alloc (Nat.le_refl _) _⟩
    all_goals (congr 2; simp_all [mwB, val_nil])
    all_goals (rw [Bool.eq_iff_iff]; simp [val_nil])
  | true =>
    have hB : mwB ⟨ck, true, ct, cn, cv, cre, cim, ce, cl, cse⟩ n = (stB ct cn n && decide (cv.size ≤ 256)) := rfl
    by_cases h1 : 1 ≤ ct ∧ ct ≤ 16777215
    · have d1 := decide_eq_true h1
      go_enter Tryz.func78, Tryz.ntmps78
      go_wp2_with fail
      refine (mtime_any ct _).mono ?_
      rintro e w1 ⟨rfl, b1⟩
      have H1 : Hid (Below h w w1 ∧ Has w1 h (ceL ⟨ck, true, ct, cn, cv, cre, cim, ce, cl, cse⟩ p)) := ⟨B0.out.1.trans (b1.mono (by simp; omega)), B0.out.2.later b1⟩
      clear b1 B0
      have x3 := H1.out.2.at 3 rfl
      have x4 := H1.out.2.at 4 rfl
      by_cases h2 : 0 ≤ cn
      · by_cases h3 : cn < n
        · have hS : stB ct cn n = true := by unfold stB; rw [decide_eq_true_eq]; omega
          go_wp2_with fail
          refine (mvalue_any cv _).mono ?_
          rintro e w2 ⟨rfl, b2⟩
          have H2 : Hid (Below h w w2) := H1.out.1.trans (b2.mono (by have := H1.out.2.1; omega))
          clear b2 H1 x3 x4
          go_wp2_with fail
          go_ret
          refine ⟨?_, H2.out⟩
          first | rfl | (rw [hB, hS, Bool.true_and]; rfl)
        · have hS : stB ct cn n = false := by unfold stB; simp; omega
          go_wp2_with fail
          go_ret
          refine ⟨?_, H1.out.1⟩
          first | rfl | (rw [hB, hS, Bool.false_and]; rfl)
      · have hS : stB ct cn n = false := by unfold stB; simp; omega
        go_wp2_with fail
        go_ret
        refine ⟨?_, H1.out.1⟩
        first | rfl | (rw [hB, hS, Bool.false_and]; rfl)
    · have d1 := decide_eq_false h1
      have hS : stB ct cn n = false := by unfold stB; rw [decide_eq_false_iff_not]; omega
      go_enter Tryz.func78, Tryz.ntmps78
      go_wp2_with fail
      refine (mtime_any ct _).mono ?_
      rintro e w1 ⟨rfl, b1⟩
      have H1 : Hid (Below h w w1 ∧ Has w1 h (ceL ⟨ck, true, ct, cn, cv, cre, cim, ce, cl, cse⟩ p)) := ⟨B0.out.1.trans (b1.mono (by simp; omega)), B0.out.2.later b1⟩
      clear b1 B0
      go_wp2_with fail
      go_ret
      refine ⟨?_, H1.out.1⟩
      first | rfl | (rw [hB, hS, Bool.false_and]; rfl)


end Go.Proofs.YtgkddimijmnpcaaGreatDoor

/-
  Package cell as plain data: how great a cell is that may be; what Read answers; texts in their row; a list's elements told by what stands ahead of them.
-/
namespace Go.Proofs.YtgkddimijmnpcaaGreatDoor
open Go.RowKit Go.Shelf
set_option linter.unusedVariables false
set_option linter.unusedSimpArgs false

/-- What Read answers. -/
def nul : List UInt8 := [110, 117, 108, 108]
/-- How many dots there are, told by one number. -/
def codeD (d : D2) : Nat := (d.1 * 1048576 + d.2).toNat
theorem len_lt : ∀ (N : Nat) (l : List Nat), l.Nodup → (∀ x ∈ l, x < N) → l.length ≤ N
  | 0, l, _, h => by
    cases l with
    | nil => simp
    | cons a t => have := h a (by simp); omega
  | N + 1, l, hn, h => by
    by_cases hm : N ∈ l
    · have := len_lt N (l.erase N) (hn.erase N) (fun x hx => by
        have h1 := h x (List.mem_of_mem_erase hx)
        have h2 : x ≠ N := fun e => by subst e; exact (List.Nodup.not_mem_erase hn) hx
        omega)
      rw [List.length_erase_of_mem hm] at this
      omega
    · have := len_lt N l hn (fun x hx => by
        have h1 := h x hx
        have h2 : x ≠ N := fun e => hm (e ▸ hx)
        omega)
      omega
theorem code_inj {s : List Int} {n : Int} {d e : D2} (hv : vecB s n = true) (hd : hasB s d = true) (he : hasB s e = true) (h : codeD d = codeD e) : d = e := by
  unfold hasB at hd he
  rw [decide_eq_true_eq] at hd he
  have hm := vec_mem hv
  have b1 : d.2 ≤ 1048575 := by
    have : s.getD d.1.toNat 0 ≤ 1048575 := by
      have := hm.2.2 (s.getD d.1.toNat 0) (by rw [List.getD_eq_getElem?_getD, List.getElem?_eq_getElem (by omega), Option.getD_some]; exact List.getElem_mem _)
      omega
    omega
  have b2 : e.2 ≤ 1048575 := by
    have : s.getD e.1.toNat 0 ≤ 1048575 := by
      have := hm.2.2 (s.getD e.1.toNat 0) (by rw [List.getD_eq_getElem?_getD, List.getElem?_eq_getElem (by omega), Option.getD_some]; exact List.getElem_mem _)
      omega
    omega
  unfold codeD at h
  obtain ⟨d1, d2⟩ := d
  obtain ⟨e1, e2⟩ := e
  simp only at hd he h b1 b2 ⊢
  have : d1 = e1 := by omega
  subst this
  have : d2 = e2 := by omega
  subst this
  rfl
theorem code_lt {s : List Int} {n : Int} {d : D2} (hv : vecB s n = true) (hd : hasB s d = true) : codeD d < 16777216 := by
  have hs := vec_size hv
  unfold hasB at hd
  rw [decide_eq_true_eq] at hd
  have hm := vec_mem hv
  have : s.getD d.1.toNat 0 ≤ 1048575 := by
    have := hm.2.2 (s.getD d.1.toNat 0) (by rw [List.getD_eq_getElem?_getD, List.getElem?_eq_getElem (by omega), Option.getD_some]; exact List.getElem_mem _)
    omega
  unfold codeD
  omega
theorem dots_few {s : List Int} {n : Int} {l : List D2} (hv : vecB s n = true) (h : ∀ d ∈ l, hasB s d = true) (hn : l.Nodup) : l.length ≤ 16777216 := by
  have := len_lt 16777216 (l.map codeD) (by
    unfold List.Nodup at hn ⊢
    rw [List.pairwise_map]
    refine hn.imp_of_mem fun {a b} ha hb hne e => hne (code_inj hv (h a ha) (h b hb) e)) (fun x hx => by
    obtain ⟨d, hd, rfl⟩ := List.mem_map.1 hx
    exact code_lt hv (h d hd))
  simpa using this
theorem ents_few {s : List Int} {n : Int} {l : List E3} (hv : vecB s n = true) (h : EntsP s l) : l.length ≤ 16777216 := by
  have := dots_few (l := l.map dotE) hv (fun d hd => by
    obtain ⟨x, hx, rfl⟩ := List.mem_map.1 hd
    exact (h.1 x hx).1) (by
    unfold List.Nodup
    rw [List.pairwise_map]
    refine List.Pairwise.imp (fun {a b} hab e => ?_) h.2
    rw [e] at hab
    unfold ltD at hab
    simp at hab)
  simpa using this
theorem elms_few {s : List Int} {n : Int} {l : List L5} (hv : vecB s n = true) (h : ElmsP s l) : l.length ≤ 16777216 := by
  have := dots_few (l := l.map dotX) hv (fun d hd => by
    obtain ⟨x, hx, rfl⟩ := List.mem_map.1 hd
    exact (h.1 x hx).1) (by
    unfold List.Nodup
    rw [List.pairwise_map]
    exact h.2)
  simpa using this
theorem quoR_len (B : Nat) : ∀ (l : List (List UInt8)), (∀ s ∈ l, s.length ≤ B) → (quoR l).length ≤ l.length * (6 * B + 3)
  | [], _ => by simp [quoR]
  | [s], h => by
    have := (quoT_len s).2
    have := h s (by simp)
    simp only [quoR, List.length_cons, List.length_nil]
    omega
  | s :: t :: l, h => by
    have ih := quoR_len B (t :: l) (fun x hx => h x (by simp [List.mem_cons.1 hx]))
    have := (quoT_len s).2
    have := h s (by simp)
    simp only [quoR, List.length_cons, List.length_append] at ih ⊢
    have e : (l.length + 1 + 1) * (6 * B + 3) = (l.length + 1) * (6 * B + 3) + (6 * B + 3) := by rw [Nat.add_mul, Nat.one_mul]
    omega
theorem quoL_len (B : Nat) (l : List (List UInt8)) (h : ∀ s ∈ l, s.length ≤ B) : (quoL l).length ≤ l.length * (6 * B + 3) + 2 := by
  have := quoR_len B l h
  unfold quoL
  simp only [List.length_cons, List.length_append, List.length_nil]
  omega
/-- The row's text, from its head on: what stands once i of them are told. -/
def quoU : List (List UInt8) → List UInt8
  | [] => []
  | s :: l => quoT s ++ l.flatMap (fun t => 44 :: quoT t)
theorem quoR_U : ∀ l, quoR l = quoU l
  | [] => rfl
  | [s] => by simp [quoR, quoU]
  | s :: t :: l => by
    have ih := quoR_U (t :: l)
    simp only [quoR, ih, quoU, List.flatMap_cons, List.cons_append]
theorem quoU_snoc (l : List (List UInt8)) (t : List UInt8) : quoU (l ++ [t]) = quoU l ++ (if l = [] then quoT t else 44 :: quoT t) := by
  cases l with
  | nil => simp [quoU]
  | cons s l => simp [quoU, List.flatMap_append]
/-- How great a cell is that may be. -/
def Bnd (c : Ce) : Prop := (∀ x ∈ c.ents, x.val.size ≤ 256) ∧ (∀ x ∈ c.elems, x.val.size ≤ 256) ∧ c.val.size ≤ 256 ∧ c.ents.length + c.elems.length ≤ 16777216 ∧ c.seen.length ≤ 16
theorem bounds_may {c : Ce} {n : Int} (h : cmayB c n = true) : Bnd c := by
  unfold cmayB at h
  simp only [Bool.and_eq_true] at h
  obtain ⟨hv, h⟩ := h
  have hs := vec_size hv
  have none : c.ents.length = 0 → c.elems.length = 0 → c.val.size ≤ 256 → Bnd c := fun h1 h2 h3 => by
    refine ⟨fun x hx => ?_, fun x hx => ?_, h3, by omega, by omega⟩
    · rw [List.eq_nil_of_length_eq_zero h1] at hx; simp at hx
    · rw [List.eq_nil_of_length_eq_zero h2] at hx; simp at hx
  have lw : lwwZ c = true → c.val.size ≤ 256 := fun h => by
    unfold lwwZ at h
    simp only [Bool.and_eq_true, decide_eq_true_eq] at h
    omega
  by_cases k0 : c.kind = 0
  · rw [if_pos k0] at h
    simp only [Bool.and_eq_true, Bool.or_eq_true] at h
    obtain ⟨h1, h2, h3, h4⟩ := h
    unfold entZ at h2
    unfold elmZ at h3
    simp only [decide_eq_true_eq] at h2 h3
    refine none (by simpa using h2) (by simpa using h3) ?_
    rcases h4 with h4 | h4
    · exact lw h4
    · simpa using h4.2.2
  rw [if_neg k0] at h
  by_cases k1 : c.kind = 1
  · rw [if_pos k1] at h
    simp only [Bool.and_eq_true] at h
    obtain ⟨h1, h2, h3, h4⟩ := h
    unfold entZ at h2
    unfold elmZ at h3
    exact none (by simpa using h2) (by simpa using h3) (lw h1)
  rw [if_neg k1] at h
  by_cases k2 : c.kind = 2
  · rw [if_pos k2] at h
    simp only [Bool.and_eq_true] at h
    obtain ⟨h1, h2, h3, h4⟩ := h
    have E := (entsB_iff _ _).1 h4
    have hf := ents_few hv E
    have hl := lw h1
    unfold elmZ at h3
    simp only [decide_eq_true_eq] at h3
    refine ⟨fun x hx => ?_, fun x hx => ?_, hl, by omega, by omega⟩
    · exact (E.1 x hx).2
    · rw [List.eq_nil_of_length_eq_zero h3] at hx; simp at hx
  rw [if_neg k2] at h
  by_cases k3 : c.kind = 3
  · rw [if_pos k3] at h
    simp only [Bool.and_eq_true] at h
    obtain ⟨h1, h2, h3, h4⟩ := h
    have E := (elmsB_iff _ _).1 h4
    have hf := elms_few hv E
    have hl := lw h1
    unfold entZ at h3
    simp only [decide_eq_true_eq] at h3
    refine ⟨fun x hx => ?_, fun x hx => ?_, hl, by omega, by omega⟩
    · rw [List.eq_nil_of_length_eq_zero h3] at hx; simp at hx
    · exact (E.1 x hx).2.2.1
  rw [if_neg k3] at h
  cases h
/-- What memory bears, of a cell that may be. -/
theorem fit_bnd {c : Ce} (h : Bnd c) : Fit c := by
  obtain ⟨h1, h2, h3, h4, h5⟩ := h
  refine ⟨by omega, by omega, by omega, by omega, fun i x hx => ?_, fun i x hx => ?_⟩
  · have := h1 x (List.mem_of_getElem? hx); omega
  · have := h2 x (List.mem_of_getElem? hx); omega
theorem fit_may {c : Ce} {n : Int} (h : cmayB c n = true) : Fit c := fit_bnd (bounds_may h)
/-- Every element's dot is of machine numbers. -/
def Wf5 (c : Ce) : Prop := ∀ x ∈ c.elems, (-9223372036854775808 ≤ x.node ∧ x.node ≤ 9223372036854775807) ∧ (-9223372036854775808 ≤ x.seq ∧ x.seq ≤ 9223372036854775807)
theorem wf_may {c : Ce} {n : Int} (h : cmayB c n = true) : Wf5 c := by
  have h0 := h
  unfold cmayB at h
  simp only [Bool.and_eq_true] at h
  obtain ⟨hv, h⟩ := h
  have hs := vec_size hv
  have none : elmZ c = true → Wf5 c := fun h2 x hx => by
    unfold elmZ at h2
    rw [decide_eq_true_eq] at h2
    rw [List.eq_nil_of_length_eq_zero h2] at hx; simp at hx
  by_cases k0 : c.kind = 0
  · rw [if_pos k0] at h
    simp only [Bool.and_eq_true, Bool.or_eq_true] at h
    exact none h.2.2.1
  rw [if_neg k0] at h
  by_cases k1 : c.kind = 1
  · rw [if_pos k1] at h
    simp only [Bool.and_eq_true] at h
    exact none h.2.2.1
  rw [if_neg k1] at h
  by_cases k2 : c.kind = 2
  · rw [if_pos k2] at h
    simp only [Bool.and_eq_true] at h
    exact none h.2.2.1
  rw [if_neg k2] at h
  by_cases k3 : c.kind = 3
  · rw [if_pos k3] at h
    simp only [Bool.and_eq_true] at h
    have E := (elmsB_iff _ _).1 h.2.2.2
    intro x hx
    have hb := (E.1 x hx).1
    have hc := code_lt hv hb
    unfold hasB at hb
    rw [decide_eq_true_eq] at hb
    unfold codeD at hc
    simp only at hb hc
    omega
  rw [if_neg k3] at h
  cases h
/-- The two ways to tell a list's elements. -/
def elmV (s : List Int) (x : L5) : Bool := hasB s (dotX x) && (decide (1 ≤ x.time ∧ x.time ≤ 16777215) && (decide (x.val.size ≤ 256) && (!x.gone || decide (x.val.size = 0))))
def elmG (s : List Int) (l : List L5) (i : Nat) : Bool := !hasX (l.take i) (dotX (l.getD i l50)) && elmV s (l.getD i l50)
def elmsG (s : List Int) (l : List L5) : Bool := (List.range l.length).all (elmG s l)
theorem elmsG_eq (s : List Int) (l : List L5) : elmsG s l = elmsB s l := by
  have h1 : elmsG s l = true ↔ ElmsP s l := by
    unfold elmsG ElmsP elmG elmV
    simp only [List.all_eq_true, List.mem_range, Bool.and_eq_true, Bool.or_eq_true, decide_eq_true_eq, Bool.not_eq_true']
    constructor
    · intro h
      refine ⟨fun x hx => ?_, ?_⟩
      · obtain ⟨i, hi, rfl⟩ := List.getElem_of_mem hx
        have := h i hi
        rw [getD_of (List.getElem?_eq_getElem hi)] at this
        obtain ⟨_, h1, h2, h3, h4⟩ := this
        refine ⟨h1, h2, h3, fun hg => ?_⟩
        rcases h4 with h4 | h4
        · rw [hg] at h4; cases h4
        · exact h4
      · unfold OnceX
        refine List.pairwise_iff_getElem.2 fun i j hi hj hij e => ?_
        have a2 := (h j hj).1
        rw [getD_of (List.getElem?_eq_getElem hj)] at a2
        have : hasX (l.take j) (dotX l[j]) = true := hasX_iff.2 ⟨l[i], List.mem_take_iff_getElem.2 ⟨i, by omega, rfl⟩, e⟩
        rw [a2] at this
        cases this
    · rintro ⟨h1, h2⟩ i hi
      have hx := List.getElem?_eq_getElem hi
      obtain ⟨k1, k2, k3, k4⟩ := h1 _ (List.getElem_mem hi)
      rw [getD_of hx]
      refine ⟨?_, k1, k2, k3, ?_⟩
      · cases hh : hasX (l.take i) (dotX l[i]) with
        | false => rfl
        | true =>
          obtain ⟨y, hy, hd⟩ := hasX_iff.1 hh
          obtain ⟨j, hj, rfl⟩ := List.mem_take_iff_getElem.1 hy
          exact absurd hd (List.pairwise_iff_getElem.1 h2 j i (by omega) hi (by omega))
      · cases hg : (l[i]).gone with
        | false => exact Or.inl rfl
        | true => exact Or.inr (k4 hg)
  have h2 := elmsB_iff s l
  cases ha : elmsG s l <;> cases hb : elmsB s l
  · rfl
  · rw [h2.1 hb |> h1.2] at ha; cases ha
  · rw [h1.1 ha |> h2.2] at hb; cases hb
  · rfl
/-- What a number is told as. -/
def bytesV (v : ByteArray) : List UInt8 := v.data.toList
theorem itoa_some (n : Int) : Lib.itoa n ≠ [] := fun e => by
  have := congrArg List.length e
  unfold Lib.itoa at this
  split at this
  · simp at this
  · have h := Lib.nDigits_pos n.toNat
    rw [Lib.decDigits_length] at this
    simp at this
    omega
/-- What Read answers. -/
def valsC (c : Ce) : List (List UInt8) := if c.kind = 2 then ansV c else (ansX c).map bytesV
def readC (c : Ce) : List UInt8 × Int :=
  if c.kind = 0 then (if c.set then quoT (bytesV c.val) else nul, 0)
  else if c.kind = 1 then (if pairB c.re c.im then (if c.im = 0 then Lib.itoa c.re else 91 :: (Lib.itoa c.re ++ (44 :: (Lib.itoa c.im ++ [93]))), 0) else ([], 1200))
  else if c.kind = 2 ∨ c.kind = 3 then (quoL (valsC c), 0)
  else ([], 1200)
/-- Its text is no longer than this. -/
def RdFit (c : Ce) : Prop := 6 * c.val.size + 2 ≤ 140737488355328 ∧ (quoL (valsC c)).length ≤ 140737488355328 ∧ ∀ s ∈ valsC c, 6 * s.length + 2 ≤ 140737488355328
theorem valsC_mem {c : Ce} {s : List UInt8} (h : s ∈ valsC c) : (∃ x ∈ c.ents, s = bytesV x.val) ∨ ∃ x ∈ c.elems, s = bytesV x.val := by
  unfold valsC at h
  split at h
  · unfold ansV at h
    split at h
    · rw [setV_mem] at h
      unfold valsL at h
      obtain ⟨x, hx, rfl⟩ := List.mem_map.1 h
      exact Or.inl ⟨x, hx, rfl⟩
    · simp at h
  · obtain ⟨v, hv, rfl⟩ := List.mem_map.1 h
    unfold ansX at hv
    split at hv
    · unfold valsX at hv
      obtain ⟨x, hx, rfl⟩ := List.mem_map.1 hv
      unfold liveL at hx
      exact Or.inr ⟨x, (List.mem_filter.1 hx).1, rfl⟩
    · simp at hv
theorem valsC_len (c : Ce) : (valsC c).length ≤ c.ents.length + c.elems.length := by
  unfold valsC
  split
  · unfold ansV
    split
    · have := setV_le (valsL c.ents)
      rw [valsL_len] at this
      omega
    · simp
  · rw [List.length_map]
    unfold ansX
    split
    · unfold valsX liveL
      rw [List.length_map]
      have := List.length_filter_le (fun x : L5 => !x.gone) c.elems
      omega
    · simp
theorem rd_fit {c : Ce} (B : Nat) (h1 : ∀ x ∈ c.ents, x.val.size ≤ B) (h2 : ∀ x ∈ c.elems, x.val.size ≤ B) (h3 : c.val.size ≤ B) (h4 : (c.ents.length + c.elems.length) * (6 * B + 3) + 2 ≤ 140737488355328) (h5 : 6 * B + 2 ≤ 140737488355328) : RdFit c := by
  have hB : ∀ s ∈ valsC c, s.length ≤ B := fun s hs => by
    rcases valsC_mem hs with ⟨x, hx, rfl⟩ | ⟨x, hx, rfl⟩
    · have := h1 x hx
      simpa [bytesV] using this
    · have := h2 x hx
      simpa [bytesV] using this
  refine ⟨by omega, ?_, fun s hs => by have := hB s hs; omega⟩
  have := quoL_len B (valsC c) hB
  have h6 := Nat.mul_le_mul_right (6 * B + 3) (valsC_len c)
  omega
theorem rd_may {c : Ce} {n : Int} (h : cmayB c n = true) : RdFit c ∧ (readC c).2 = 0 ∧ (readC c).1 ≠ [] := by
  have hk : c.kind = 0 ∨ c.kind = 1 ∧ pairB c.re c.im = true ∨ c.kind = 2 ∨ c.kind = 3 := by
    unfold cmayB at h
    simp only [Bool.and_eq_true] at h
    obtain ⟨_, h⟩ := h
    by_cases k0 : c.kind = 0
    · exact Or.inl k0
    rw [if_neg k0] at h
    by_cases k1 : c.kind = 1
    · rw [if_pos k1] at h
      simp only [Bool.and_eq_true] at h
      exact Or.inr (Or.inl ⟨k1, h.2.2.2⟩)
    rw [if_neg k1] at h
    by_cases k2 : c.kind = 2
    · exact Or.inr (Or.inr (Or.inl k2))
    rw [if_neg k2] at h
    by_cases k3 : c.kind = 3
    · exact Or.inr (Or.inr (Or.inr k3))
    rw [if_neg k3] at h
    cases h
  obtain ⟨b1, b2, b3, b4, _⟩ := bounds_may h
  refine ⟨rd_fit 256 b1 b2 b3 (by omega) (by omega), ?_, ?_⟩
  · unfold readC
    rcases hk with k | ⟨k, hp⟩ | k | k
    · rw [if_pos k]
    · rw [if_neg (by omega), if_pos k, if_pos hp]
    · rw [if_neg (by omega), if_neg (by omega), if_pos (Or.inl k)]
    · rw [if_neg (by omega), if_neg (by omega), if_pos (Or.inr k)]
  · unfold readC
    rcases hk with k | ⟨k, hp⟩ | k | k
    · rw [if_pos k]
      split
      · simp [quoT]
      · simp [nul]
    · rw [if_neg (by omega), if_pos k, if_pos hp]
      show (if c.im = 0 then _ else _) ≠ _
      split
      · intro e
        exact itoa_some _ e
      · simp
    · rw [if_neg (by omega), if_neg (by omega), if_pos (Or.inl k)]
      simp [quoL]
    · rw [if_neg (by omega), if_neg (by omega), if_pos (Or.inr k)]
      simp [quoL]

end Go.Proofs.YtgkddimijmnpcaaGreatDoor

/-
  Package cell: mayNum, mayElem, mayEntries, by contracts.
-/
namespace Go.Proofs.YtgkddimijmnpcaaGreatDoor
open Go.RowKit
set_option linter.unusedVariables false
set_option linter.unusedSimpArgs false

theorem add_zero (x y : Int) : addB x y 0 0 = pairB x y := by
  have hz : pairB 0 0 = true := by decide
  unfold addB
  rw [hz, Int.add_zero, Int.add_zero]
  cases pairB x y <;> rfl
set_option maxHeartbeats 1000000 in
set_option maxRecDepth 100000 in
theorem mnum_any (c : Ce) (p : Pl) (n : Int) (w : World) : Calls Tryz.prog 81 #[ceV c p, .int .i64 n] w fun e w' => e = .returned (.bool (pairB c.re c.im)) ∧ Below w.heap.size w w' := by
  have B0 : Hid (Below w.heap.size w (w.alloc (.cells (ceL c p).toArray 30))) := (Below.refl _ _).alloc (Nat.le_refl _) _
  have hz := add_zero c.re c.im
  have C := gadd_any c.re c.im 0 0 (w.alloc (.cells (ceL c p).toArray 30))
  obtain ⟨h, hh⟩ : ∃ h, w.heap.size = h := ⟨_, rfl⟩
  rw [hh] at B0 ⊢
  go_enter Tryz.func81, Tryz.ntmps81
  go_wp2_with fail
  refine C.mono ?_
  rintro e w1 ⟨rfl, b1⟩
  have H1 : Hid (Below h w w1 ∧ h ≤ w1.heap.size) := ⟨B0.out.trans (b1.mono (by simp; omega)), by have := b1.size; simp at this; omega⟩
  clear b1 B0 C
  cases hp : pairB c.re c.im with
  | true =>
    have e3 : ser c.re c.im 0 0 = 0 := by unfold ser; rw [hz, hp]; rfl
    go_wp2_with fail
    go_ret
    exact ⟨by first | rfl | (rw [hp]; rfl), H1.out.1.alloc H1.out.2 _⟩
  | false =>
    have e3 : ser c.re c.im 0 0 = 600 := by unfold ser; rw [hz, hp]; rfl
    go_wp2_with fail
    go_ret
    exact ⟨by first | rfl | (rw [hp]; rfl), H1.out.1.alloc H1.out.2 _⟩

theorem has_any12 (ao : Option Addr) (ca : Nat) (s : List Int) (d : D2) (w : World) (h : FRow w ao (flatI s)) :
    Calls Tryz.prog 125 #[.slice ao s.length ca, dv d] w fun e w' => e = .returned (.bool (hasB s d)) ∧ Below w.heap.size w w' := vhas_any ao ca s d w h

set_option maxHeartbeats 4000000 in
set_option maxRecDepth 100000 in
theorem melem_any (x : L5) (so : Option Addr) (sc : Nat) (s : List Int) (w : World) (hr : FRow w so (flatI s)) : Calls Tryz.prog 128 #[.agg #[.int .i64 x.node, .int .i64 x.seq, .int .i64 x.time, .string x.val, .bool x.gone], .slice so s.length sc] w fun e w' => e = .returned (.bool (elmV s x)) ∧ Below w.heap.size w w' := by
  obtain ⟨xn, xs, xt, xv, xg⟩ := x
  have hV : elmV s ⟨xn, xs, xt, xv, xg⟩ = (hasB s (xn, xs) && (decide (1 ≤ xt ∧ xt ≤ 16777215) && (decide (xv.size ≤ 256) && (!xg || decide (xv.size = 0))))) := rfl
  have HV : Hid (elmV s ⟨xn, xs, xt, xv, xg⟩ = (hasB s (xn, xs) && (decide (1 ≤ xt ∧ xt ≤ 16777215) && (decide (xv.size ≤ 256) && (!xg || decide (xv.size = 0)))))) := hV
  clear hV
  obtain ⟨r, hR⟩ : ∃ r, elmV s ⟨xn, xs, xt, xv, xg⟩ = r := ⟨_, rfl⟩
  have HR : Hid (elmV s ⟨xn, xs, xt, xv, xg⟩ = r) := hR
  rw [hR]
  clear hR
  have B0 : Hid (Below w.heap.size w (w.alloc (.cells (l5 ⟨xn, xs, xt, xv, xg⟩).toArray 59)) ∧ Has (w.alloc (.cells (l5 ⟨xn, xs, xt, xv, xg⟩).toArray 59)) w.heap.size (l5 ⟨xn, xs, xt, xv, xg⟩) ∧ FRow (w.alloc (.cells (l5 ⟨xn, xs, xt, xv, xg⟩).toArray 59)) so (flatI s)) := ⟨(Below.refl _ _).alloc (Nat.le_refl _) _, has_new _ _ _, hr.later ((Below.refl _ _).alloc (Nat.le_refl _) _)⟩
  obtain ⟨h, hh⟩ : ∃ h, w.heap.size = h := ⟨_, rfl⟩
  rw [hh] at B0 ⊢
  clear hr
  cases h1 : hasB s (xn, xs) with
  | false =>
    go_enter Tryz.func128, Tryz.ntmps128
    go_wp2_with fail
    refine (has_any12 so sc s (xn, xs) _ B0.out.2.2).mono ?_
    rintro e w1 ⟨rfl, b1⟩
    have H1 : Hid (Below h w w1 ∧ Has w1 h (l5 ⟨xn, xs, xt, xv, xg⟩)) := ⟨B0.out.1.trans (b1.mono (Nat.le_of_lt B0.out.2.1.1)), B0.out.2.1.later b1⟩
    clear b1 B0
    go_wp2_with fail
    go_ret
    exact ⟨by rw [← HR.out, HV.out, h1]; rfl, H1.out.1⟩
  | true =>
    by_cases h2 : 1 ≤ xt ∧ xt ≤ 16777215
    · have d2 := decide_eq_true h2
      by_cases h3 : xv.size ≤ 256
      · have d3 := decide_eq_true h3
        go_enter Tryz.func128, Tryz.ntmps128
        go_wp2_with fail
        refine (has_any12 so sc s (xn, xs) _ B0.out.2.2).mono ?_
        rintro e w1 ⟨rfl, b1⟩
        have H1 : Hid (Below h w w1 ∧ Has w1 h (l5 ⟨xn, xs, xt, xv, xg⟩)) := ⟨B0.out.1.trans (b1.mono (Nat.le_of_lt B0.out.2.1.1)), B0.out.2.1.later b1⟩
        clear b1 B0
        have x2 := H1.out.2.at 2 rfl
        go_wp2_with fail
        refine (mtime_any xt _).mono ?_
        rintro e w2 ⟨rfl, b2⟩
        have H2 : Hid (Below h w w2 ∧ Has w2 h (l5 ⟨xn, xs, xt, xv, xg⟩)) := ⟨H1.out.1.trans (b2.mono (Nat.le_of_lt H1.out.2.1)), H1.out.2.later b2⟩
        clear b2 H1 x2
        have x3 := H2.out.2.at 3 rfl
        go_wp2_with fail
        refine (mvalue_any xv _).mono ?_
        rintro e w3 ⟨rfl, b3⟩
        have H3 : Hid (Below h w w3 ∧ Has w3 h (l5 ⟨xn, xs, xt, xv, xg⟩)) := ⟨H2.out.1.trans (b3.mono (Nat.le_of_lt H2.out.2.1)), H2.out.2.later b3⟩
        clear b3 H2 x3
        have x3 := H3.out.2.at 3 rfl
        have x4 := H3.out.2.at 4 rfl
        have HD : Hid (decide (1 ≤ xt ∧ xt ≤ 16777215) = true ∧ decide (xv.size ≤ 256) = true) := ⟨d2, d3⟩
        cases xg with
        | false =>
          go_wp2_with fail
          go_ret
          exact ⟨by rw [← HR.out, HV.out, HD.out.1, HD.out.2, h1]; rfl, H3.out.1⟩
        | true =>
          by_cases h5 : xv.toList = []
          · have h6 : decide (xv.size = 0) = true := decide_eq_true ((val_nil _).1 h5)
            have HE : Hid (decide (xv.size = 0) = true) := h6
            clear h6
            go_wp2_with fail
            go_ret
            exact ⟨by rw [← HR.out, HV.out, HD.out.1, HD.out.2, h1, HE.out]; rfl, H3.out.1⟩
          · have h6 : decide (xv.size = 0) = false := decide_eq_false fun h => h5 ((val_nil _).2 h)
            have HE : Hid (decide (xv.size = 0) = false) := h6
            have h7 : xv.toList.isEmpty = false := List.isEmpty_eq_false_iff.2 h5
            clear h6
            go_wp2_with fail
            go_ret
            exact ⟨by rw [← HR.out, HV.out, HD.out.1, HD.out.2, h1, HE.out]; rfl, H3.out.1⟩
      · have d3 := decide_eq_false h3
        go_enter Tryz.func128, Tryz.ntmps128
        go_wp2_with fail
        refine (has_any12 so sc s (xn, xs) _ B0.out.2.2).mono ?_
        rintro e w1 ⟨rfl, b1⟩
        have H1 : Hid (Below h w w1 ∧ Has w1 h (l5 ⟨xn, xs, xt, xv, xg⟩)) := ⟨B0.out.1.trans (b1.mono (Nat.le_of_lt B0.out.2.1.1)), B0.out.2.1.later b1⟩
        clear b1 B0
        have x2 := H1.out.2.at 2 rfl
        go_wp2_with fail
        refine (mtime_any xt _).mono ?_
        rintro e w2 ⟨rfl, b2⟩
        have H2 : Hid (Below h w w2 ∧ Has w2 h (l5 ⟨xn, xs, xt, xv, xg⟩)) := ⟨H1.out.1.trans (b2.mono (Nat.le_of_lt H1.out.2.1)), H1.out.2.later b2⟩
        clear b2 H1 x2
        have x3 := H2.out.2.at 3 rfl
        go_wp2_with fail
        refine (mvalue_any xv _).mono ?_
        rintro e w3 ⟨rfl, b3⟩
        have H3 : Hid (Below h w w3) := H2.out.1.trans (b3.mono (Nat.le_of_lt H2.out.2.1))
        clear b3 H2 x3
        have HD : Hid (decide (xv.size ≤ 256) = false) := d3
        go_wp2_with fail
        go_ret
        exact ⟨by rw [← HR.out, HV.out, HD.out, h1]; cases decide (1 ≤ xt ∧ xt ≤ 16777215) <;> rfl, H3.out⟩
    · have d2 := decide_eq_false h2
      go_enter Tryz.func128, Tryz.ntmps128
      go_wp2_with fail
      refine (has_any12 so sc s (xn, xs) _ B0.out.2.2).mono ?_
      rintro e w1 ⟨rfl, b1⟩
      have H1 : Hid (Below h w w1 ∧ Has w1 h (l5 ⟨xn, xs, xt, xv, xg⟩)) := ⟨B0.out.1.trans (b1.mono (Nat.le_of_lt B0.out.2.1.1)), B0.out.2.1.later b1⟩
      clear b1 B0
      have x2 := H1.out.2.at 2 rfl
      go_wp2_with fail
      refine (mtime_any xt _).mono ?_
      rintro e w2 ⟨rfl, b2⟩
      have H2 : Hid (Below h w w2) := H1.out.1.trans (b2.mono (Nat.le_of_lt H1.out.2.1))
      clear b2 H1 x2
      have HD : Hid (decide (1 ≤ xt ∧ xt ≤ 16777215) = false) := d2
      go_wp2_with fail
      go_ret
      exact ⟨by rw [← HR.out, HV.out, HD.out, h1]; rfl, H2.out⟩

end Go.Proofs.YtgkddimijmnpcaaGreatDoor

/-
  Package cell: mayEntries, by a contract.
-/
namespace Go.Proofs.YtgkddimijmnpcaaGreatDoor
open Go.RowKit
set_option linter.unusedVariables false
set_option linter.unusedSimpArgs false

/-- What a call on a cell keeps: the cell in block h, its lists, nothing old has turned. -/
def CBox (w : World) (h : Nat) (c : Ce) (p : Pl) (W : World) : Prop := Has W h (ceL c p) ∧ CRow W c p ∧ Below h w W ∧ h ≤ W.heap.size
theorem cbox_new {w : World} {h : Nat} (hh : w.heap.size = h) {c : Ce} {p : Pl} (hr : CRow w c p) (t : TypeId) : CBox w h c p (w.alloc (.cells (ceL c p).toArray t)) := by
  subst hh
  exact ⟨has_new _ _ _, hr.alloc _, (Below.refl _ _).alloc (Nat.le_refl _) _, by simp⟩
theorem CBox.later {w w1 w2 : World} {h : Nat} {c : Ce} {p : Pl} (H : CBox w h c p w1) (hb : Below w1.heap.size w1 w2) : CBox w h c p w2 := ⟨H.1.later hb, H.2.1.later hb, H.2.2.1.trans (hb.mono H.2.2.2), Nat.le_trans H.2.2.2 hb.size⟩
theorem CBox.alloc {w w1 : World} {h : Nat} {c : Ce} {p : Pl} (H : CBox w h c p w1) (o : Obj) : CBox w h c p (w1.alloc o) := H.later ((Below.refl _ _).alloc (Nat.le_refl _) _)
theorem entsB_last {s : List Int} {l : List E3} {i : Nat} (h : ∀ j, j < i → entB s l j = true) (hl : ¬ i < l.length) : entsB s l = true := by
  unfold entsB
  rw [List.all_eq_true]
  intro j hj
  exact h j (by have := List.mem_range.1 hj; omega)
theorem entsB_not {s : List Int} {l : List E3} {i : Nat} (h : entB s l i = false) (hl : i < l.length) : entsB s l = false := by
  rw [Bool.eq_false_iff]
  intro ht
  unfold entsB at ht
  have := List.all_eq_true.1 ht i (List.mem_range.2 hl)
  rw [h] at this
  cases this

set_option maxHeartbeats 4000000 in
set_option maxRecDepth 100000 in
theorem ments_any (c : Ce) (p : Pl) (n : Int) (w : World) (hr : CRow w c p) (hf : Fit c) : Calls Tryz.prog 84 #[ceV c p, .int .i64 n] w fun e w' => e = .returned (.bool (entsB c.seen c.ents)) ∧ Below w.heap.size w w' := by
  obtain ⟨ck, cs, ct, cn, cv, cre, cim, ce, cl, cse⟩ := c
  obtain ⟨eo, ec, lo, lc, so, sc⟩ := p
  have hlen : ce.length * 32 ≤ 140737488351232 := hf.1
  obtain ⟨h, hh⟩ : ∃ h, w.heap.size = h := ⟨_, rfl⟩
  have H0 : Hid (CBox w h ⟨ck, cs, ct, cn, cv, cre, cim, ce, cl, cse⟩ ⟨eo, ec, lo, lc, so, sc⟩ (w.alloc (.cells (ceL ⟨ck, cs, ct, cn, cv, cre, cim, ce, cl, cse⟩ ⟨eo, ec, lo, lc, so, sc⟩).toArray 30))) := cbox_new hh hr _
  rw [hh]
  clear hr hf
  simp only
  go_enter Tryz.func84, Tryz.ntmps84
  go_upto_region 1 with fail
  generalize hW : w.alloc (.cells (ceL ⟨ck, cs, ct, cn, cv, cre, cim, ce, cl, cse⟩ ⟨eo, ec, lo, lc, so, sc⟩).toArray 30) = w1 at H0 ⊢
  clear hW hh
  have y7 : w1.cell? ⟨h, 7, none⟩ = some (.slice eo ce.length ec) := H0.out.1.at 7 rfl
  go_wp2
  clear y7
  go_loopg [5, 6, 10] ce.length (fun n _ _ iv wr => ∃ i : Nat, i + n = ce.length ∧ iv = .int .i64 i ∧ Hid (CBox w h ⟨ck, cs, ct, cn, cv, cre, cim, ce, cl, cse⟩ ⟨eo, ec, lo, lc, so, sc⟩ wr ∧ ∀ j, j < i → entB cse ce j = true))
  case atStart => exact ⟨0, by omega, rfl, H0.out, fun j hj => by omega⟩
  case round =>
    clear H0
    obtain ⟨i, hin, rfl, HJ⟩ := hrel
    obtain ⟨k, hk⟩ : ∃ k, wr.heap.size = k := ⟨_, rfl⟩
    by_cases hi : i < ce.length
    · obtain ⟨x, hx⟩ : ∃ x, ce[i]? = some x := ⟨_, List.getElem?_eq_getElem hi⟩
      obtain ⟨bk, off, heo, hbk, hc⟩ := HJ.out.1.2.1.1 (by rw [flatE_len]; simp only; omega)
      simp only at heo
      subst heo
      have HX : Hid (ce.getD i e30 = x) := by show ce.getD i e30 = x; simp [List.getD, hx]
      obtain ⟨x1, x2, x3⟩ := x
      have c0 : wr.cell? ⟨bk, off + i * 3, none⟩ = some (.int .i64 x1) := hc _ _ (flatE_at ce i hx).1
      have c1 : wr.cell? ⟨bk, off + i * 3 + 1, none⟩ = some (.int .i64 x2) := hc _ _ (flatE_at ce i hx).2.1
      have c2 : wr.cell? ⟨bk, off + i * 3 + 2, none⟩ = some (.string x3) := hc _ _ (flatE_at ce i hx).2.2
      have F0 : Hid (Has (wr.alloc (.cells #[.int .i64 x1, .int .i64 x2, .string x3] 62)) k [.int .i64 x1, .int .i64 x2, .string x3] ∧ CBox w h ⟨ck, cs, ct, cn, cv, cre, cim, ce, cl, cse⟩ ⟨some ⟨bk, off, none⟩, ec, lo, lc, so, sc⟩ (wr.alloc (.cells #[.int .i64 x1, .int .i64 x2, .string x3] 62)) ∧ h < k) := by
        subst hk
        exact ⟨has_new wr [.int .i64 x1, .int .i64 x2, .string x3] _, HJ.out.1.alloc _, HJ.out.1.1.1⟩
      have hgo : Hid (entB cse ce i = true → ∀ j, j < i + 1 → entB cse ce j = true) := fun h j hj => by
        by_cases e : j = i
        · subst e; exact h
        · exact HJ.out.2 j (by omega)
      clear HJ
      have HI : Hid (i < ce.length) := hi
      have HC : Hid (∀ (j : Nat) (y : E3), ce[j]? = some y → wr.cell? ⟨bk, off + j * 3, none⟩ = some (.int .i64 y.node) ∧ wr.cell? ⟨bk, off + j * 3 + 1, none⟩ = some (.int .i64 y.seq) ∧ bk < k) := fun j y hy => ⟨hc _ _ (flatE_at ce j hy).1, hc _ _ (flatE_at ce j hy).2.1, by omega⟩
      have HW : Hid (Below k wr (wr.alloc (.cells #[.int .i64 x1, .int .i64 x2, .string x3] 62)) ∧ k < (wr.alloc (.cells #[.int .i64 x1, .int .i64 x2, .string x3] 62)).heap.size) := ⟨hk ▸ (Below.refl _ _).alloc (Nat.le_refl _) _, by simp; omega⟩
      clear hc hx
      go_upto_region 4 with fail
      generalize hW : wr.alloc (.cells #[.int .i64 x1, .int .i64 x2, .string x3] 62) = w2 at F0 HW ⊢
      clear hW c0 c1 c2
      try simp only [hk]
      clear hk
      have y9 : w2.cell? ⟨h, 9, none⟩ = some (.slice so cse.length sc) := F0.out.2.1.1.at 9 rfl
      have z0 : w2.cell? ⟨k, 0, none⟩ = some (.int .i64 x1) := F0.out.1.at 0 rfl
      have z1 : w2.cell? ⟨k, 1, none⟩ = some (.int .i64 x2) := F0.out.1.at 1 rfl
      cases hb : hasB cse (x1, x2) with
      | false =>
        go_wp2_with fail
        refine (vhas_any so sc cse (x1, x2) _ F0.out.2.1.2.1.2.2).mono ?_
        rintro e w3 ⟨rfl, b3⟩
        have HE : Hid (Below h w w3) := (F0.out.2.1.later b3).2.2.1
        clear b3 F0 y9 z0 z1
        have HH : Hid (hasB cse (x1, x2) = false) := hb
        rw [hb]
        clear hb
        go_wp2_with fail
        go_ret
        exact ⟨ret_bool (entsB_not (by unfold entB; rw [HX.out, HH.out]; rfl) HI.out).symm, HE.out⟩
      | true =>
        go_wp2_with fail
        refine (vhas_any so sc cse (x1, x2) _ F0.out.2.1.2.1.2.2).mono ?_
        rintro e w3 ⟨rfl, b3⟩
        have F3 : Hid (Has w3 k [.int .i64 x1, .int .i64 x2, .string x3] ∧ CBox w h ⟨ck, cs, ct, cn, cv, cre, cim, ce, cl, cse⟩ ⟨some ⟨bk, off, none⟩, ec, lo, lc, so, sc⟩ w3 ∧ h < k) := ⟨F0.out.1.later b3, F0.out.2.1.later b3, F0.out.2.2⟩
        have HW3 : Hid (Below k wr w3 ∧ k < w3.heap.size) := ⟨HW.out.1.trans (b3.mono (Nat.le_of_lt HW.out.2)), Nat.lt_of_lt_of_le HW.out.2 b3.size⟩
        clear b3 F0 y9 z0 z1 HW
        have HH : Hid (hasB cse (x1, x2) = true) := hb
        rw [hb]
        clear hb
        have z2 : w3.cell? ⟨k, 2, none⟩ = some (.string x3) := F3.out.1.at 2 rfl
        go_wp2_with fail
        refine (mvalue_any x3 _).mono ?_
        rintro e w4 ⟨rfl, b4⟩
        have F4 : Hid (Has w4 k [.int .i64 x1, .int .i64 x2, .string x3] ∧ CBox w h ⟨ck, cs, ct, cn, cv, cre, cim, ce, cl, cse⟩ ⟨some ⟨bk, off, none⟩, ec, lo, lc, so, sc⟩ w4 ∧ h < k) := ⟨F3.out.1.later b4, F3.out.2.1.later b4, F3.out.2.2⟩
        have HW4 : Hid (Below k wr w4 ∧ k < w4.heap.size) := ⟨HW3.out.1.trans (b4.mono (Nat.le_of_lt HW3.out.2)), Nat.lt_of_lt_of_le HW3.out.2 b4.size⟩
        clear b4 F3 z2 HW3
        by_cases hv : x3.size ≤ 256
        · have d1 := decide_eq_true hv
          have HV : Hid (decide (x3.size ≤ 256) = true) := d1
          rw [d1]
          clear d1 hv
          obtain ⟨kk, hkk⟩ : ∃ kk, w4.heap.size = kk := ⟨_, rfl⟩
          have hlt : k < kk := by have := HW4.out.2; omega
          have hlt2 : h < kk := by have := F4.out.2.2; omega
          have hne : Nonempty (MW kk w4) := MW.some hkk
          have g7 : ∀ r : MW kk w4, r.w.cell? ⟨h, 7, none⟩ = some (.slice (some ⟨bk, off, none⟩) ce.length ec) := MW.has F4.out.2.1.1 hlt2 rfl
          have z0 : ∀ r : MW kk w4, r.w.cell? ⟨k, 0, none⟩ = some (.int .i64 x1) := MW.has F4.out.1 hlt rfl
          have z1 : ∀ r : MW kk w4, r.w.cell? ⟨k, 1, none⟩ = some (.int .i64 x2) := MW.has F4.out.1 hlt rfl
          by_cases h0 : 0 < i
          · obtain ⟨q, hq⟩ : ∃ q, i = q + 1 := ⟨i - 1, by omega⟩
            have hq1 : (i : Int) - 1 = (q : Int) := by omega
            have hql : q < ce.length := by omega
            have hql2 : (q : Int) < (ce.length : Int) := by omega
            have hw : IntKind.i64.wrap (q : Int) = (q : Int) := by rw [IntKind.wrap_i64]; omega
            obtain ⟨y, hy⟩ : ∃ y, ce[q]? = some y := ⟨_, List.getElem?_eq_getElem hql⟩
            have HY : Hid (ce.getD (i - 1) e30 = y) := by show ce.getD (i - 1) e30 = y; rw [show i - 1 = q by omega]; simp [List.getD, hy]
            obtain ⟨y1, y2, y3⟩ := y
            have f0 : ∀ r : MW kk w4, r.w.cell? ⟨bk, off + q * 3, none⟩ = some (.int .i64 y1) := MW.cell ((HW4.out.1.cell (p := ⟨bk, off + q * 3, none⟩) (by exact (HC.out q _ hy).2.2)).trans (HC.out q _ hy).1) (by have := (HC.out q _ hy).2.2; omega)
            have f1 : ∀ r : MW kk w4, r.w.cell? ⟨bk, off + q * 3 + 1, none⟩ = some (.int .i64 y2) := MW.cell ((HW4.out.1.cell (p := ⟨bk, off + q * 3 + 1, none⟩) (by exact (HC.out q _ hy).2.2)).trans (HC.out q _ hy).2.1) (by have := (HC.out q _ hy).2.2; omega)
            have HP : Hid (i = q + 1) := hq
            have hd0 : decide (0 < i) = true := by simpa using h0
            have hd1 : decide ((0 : Int) < (i : Int)) = true := by simpa using h0
            have C2 : ∀ W, Calls Tryz.prog 108 #[.agg #[.int .i64 y1, .int .i64 y2], .agg #[.int .i64 x1, .int .i64 x2]] W fun e w' => e = .returned (.int .i64 (cmpD (y1, y2) (x1, x2))) ∧ Below W.heap.size W w' := fun W => odots_below (y1, y2) (x1, x2) W
            obtain ⟨z, hz⟩ : ∃ z, cmpD (y1, y2) (x1, x2) = z := ⟨_, rfl⟩
            have HZ2 : Hid (z < 0 ↔ ltD (y1, y2) (x1, x2) = true) := by rw [← hz]; exact cmpD_neg _ _
            rw [hz] at C2
            clear hq hy hz
            by_cases hz0 : 0 ≤ z
            · have hz1 : decide (0 ≤ z) = true := by simpa using hz0
              go_upto_region 6 with fail
              refine wp_region_mild hkk (by kernel_rfl) (by kernel_rfl) ?_
              repeat (go_big_quiet_step ((first | (go_at_call 108; refine (C2 _).mono ?_; rintro e w2 ⟨rfl, b⟩; exact ⟨rfl, MW.later _ b⟩))))
              refine wpQuiet_nil ?_
              intro _ hw'
              obtain ⟨rq, rfl⟩ := hw'
              have HE : Hid (Below h w rq.w) := F4.out.2.1.2.2.1.trans (rq.h.1.mono (by omega))
              clear F4 HW4 g7 z0 z1 f0 f1 C2
              go_wp2
              go_ret
              exact ⟨ret_bool (entsB_not (by unfold entB; rw [HX.out, HY.out, HH.out, HV.out]; have e : ltD (y1, y2) (x1, x2) = false := (by rw [Bool.eq_false_iff]; intro h; have := HZ2.out.2 h; omega); show (true && (true && (decide (i = 0) || ltD (y1, y2) (x1, x2)))) = false; rw [e]; simp; omega) HI.out).symm, HE.out⟩
            · have hz1 : decide (0 ≤ z) = false := by simpa using hz0
              go_upto_region 6 with fail
              refine wp_region_mild hkk (by kernel_rfl) (by kernel_rfl) ?_
              repeat (go_big_quiet_step ((first | (go_at_call 108; refine (C2 _).mono ?_; rintro e w2 ⟨rfl, b⟩; exact ⟨rfl, MW.later _ b⟩))))
              refine wpQuiet_nil ?_
              intro _ hw'
              obtain ⟨rq, rfl⟩ := hw'
              have HE : Hid (CBox w h ⟨ck, cs, ct, cn, cv, cre, cim, ce, cl, cse⟩ ⟨some ⟨bk, off, none⟩, ec, lo, lc, so, sc⟩ rq.w) := F4.out.2.1.later (hkk.symm ▸ rq.h.1)
              clear F4 HW4 g7 z0 z1 f0 f1 C2
              go_wp2
              go_roundg (gk - 1)
              case measure => omega
              case rel => exact ⟨i + 1, by omega, by go_num, HE.out, hgo.out (by unfold entB; rw [HX.out, HY.out, HH.out, HV.out]; show (true && (true && (decide (i = 0) || ltD (y1, y2) (x1, x2)))) = true; rw [HZ2.out.1 (by omega)]; simp)⟩
          · have hd0 : decide (0 < i) = false := by simpa using h0
            have hd1 : decide ((0 : Int) < (i : Int)) = false := by simpa using h0
            go_upto_region 6 with fail
            refine wp_region_mild hkk (by kernel_rfl) (by kernel_rfl) ?_
            repeat (go_big_quiet_step (fail))
            refine wpQuiet_nil ?_
            intro _ hw'
            obtain ⟨rq, rfl⟩ := hw'
            have HE : Hid (CBox w h ⟨ck, cs, ct, cn, cv, cre, cim, ce, cl, cse⟩ ⟨some ⟨bk, off, none⟩, ec, lo, lc, so, sc⟩ rq.w) := F4.out.2.1.later (hkk.symm ▸ rq.h.1)
            clear F4 HW4 g7 z0 z1
            go_wp2
            go_roundg (gk - 1)
            case measure => omega
            case rel => exact ⟨i + 1, by omega, by go_num, HE.out, hgo.out (by unfold entB; rw [HX.out, HH.out, HV.out]; have e : i = 0 := (by omega); subst e; rfl)⟩
        · have d1 := decide_eq_false hv
          have HV : Hid (decide (x3.size ≤ 256) = false) := d1
          rw [d1]
          clear d1 hv
          have HE : Hid (Below h w w4) := F4.out.2.1.2.2.1
          clear F4 HW4
          go_wp2_with fail
          go_ret
          exact ⟨ret_bool (entsB_not (by unfold entB; rw [HX.out, HH.out, HV.out]; rfl) HI.out).symm, HE.out⟩
    · have hd : decide ((i : Int) < (ce.length : Int)) = false := by simp; omega
      go_wp2
      go_ret
      exact ⟨ret_bool (entsB_last HJ.out.2 hi).symm, HJ.out.1.2.2.1⟩

end Go.Proofs.YtgkddimijmnpcaaGreatDoor

/-
  Package cell: mayElems, by a contract: a map of the dots that have come.
-/
namespace Go.Proofs.YtgkddimijmnpcaaGreatDoor
open Go.RowKit Go.Maps
set_option linter.unusedVariables false
set_option linter.unusedSimpArgs false

theorem Tryz.laidOut12 : laidOutB Tryz.prog = true := by kernel_rfl
theorem Tryz.dotRow : 32 < Tryz.prog.types.size := of_decide_eq_true (by kernel_rfl)
set_option maxRecDepth 100000 in
theorem Tryz.dotWide : (match Tryz.prog.underlying 32 with | some (.array _ _) | some (.struct _) => true | _ => false) = true := by kernel_rfl
set_option maxRecDepth 100000 in
theorem Tryz.dotLaw : WideMaps.KeyLaw Tryz.prog 32 := deep_law_laid Tryz.laidOut12 (m := 3) (by omega) Tryz.dotRow (by kernel_rfl) Tryz.dotWide
theorem dotKeyed : Keyed Tryz.prog 32 := Keyed.of_law Tryz.dotLaw
theorem Tryz.dotKeyType : Tryz.prog.keyType 32 = true := by kernel_rfl
theorem Tryz.dotCells : Tryz.prog.cellsOf 32 = 2 := by kernel_rfl
theorem Tryz.intCells : Tryz.prog.cellsOf 3 = 1 := by kernel_rfl
theorem Tryz.dotIs : ∃ fs, Tryz.prog.underlying 32 = some (.struct fs) := ⟨_, Tryz.underlying32⟩
/-- A dot of machine numbers. -/
def WfD (d : D2) : Prop := (-9223372036854775808 ≤ d.1 ∧ d.1 ≤ 9223372036854775807) ∧ (-9223372036854775808 ≤ d.2 ∧ d.2 ≤ 9223372036854775807)
set_option maxRecDepth 100000 in
theorem key_dot (d : D2) (h : WfD d) : ∃ l, keyOf Tryz.prog 32 (dv d) = some l := by
  obtain ⟨d1, d2⟩ := d
  have w1 : (Lit.int .i64 d1).wf = true := by have := h.1; simp only at this; exact WalkArith.wf_i64 (by omega)
  have w2 : (Lit.int .i64 d2).wf = true := by have := h.2; simp only at this; exact WalkArith.wf_i64 (by omega)
  have f : (dv (d1, d2)).formed Tryz.prog 32 = true := by simp [Value.formed, Tryz.underlying32, Tryz.dotCells]
  unfold keyOf
  simp only [Tryz.underlying32, Tryz.dotKeyType, f, Bool.and_self, if_true]
  obtain ⟨n, hn⟩ : ∃ n, Tryz.prog.types.size = n + 1 := ⟨Tryz.prog.types.size - 1, by have := Tryz.dotRow; omega⟩
  rw [hn]
  simp [Program.keyLits, Tryz.underlying32, Tryz.underlying3, Tryz.dotCells, Tryz.intCells, Value.cells, mapKey, w1, w2]
/-- What a dot reads as. -/
def kD (d : D2) : Lit := .string (keyBytes [.int .i64 d.1, .int .i64 d.2])
set_option maxRecDepth 100000 in
theorem kD_eq (d : D2) (h : WfD d) : keyOf Tryz.prog 32 (dv d) = some (kD d) := by
  obtain ⟨d1, d2⟩ := d
  have w1 : (Lit.int .i64 d1).wf = true := by have := h.1; simp only at this; exact WalkArith.wf_i64 (by omega)
  have w2 : (Lit.int .i64 d2).wf = true := by have := h.2; simp only at this; exact WalkArith.wf_i64 (by omega)
  have f : (dv (d1, d2)).formed Tryz.prog 32 = true := by simp [Value.formed, Tryz.underlying32, Tryz.dotCells]
  unfold keyOf kD
  simp only [Tryz.underlying32, Tryz.dotKeyType, f, Bool.and_self, if_true]
  obtain ⟨n, hn⟩ : ∃ n, Tryz.prog.types.size = n + 1 := ⟨Tryz.prog.types.size - 1, by have := Tryz.dotRow; omega⟩
  rw [hn]
  simp [Program.keyLits, Tryz.underlying32, Tryz.underlying3, Tryz.dotCells, Tryz.intCells, Value.cells, mapKey, w1, w2]
set_option maxRecDepth 100000 in
theorem kD_inj {d e : D2} (hd : WfD d) (he : WfD e) (h : kD d = kD e) : d = e := by
  have := dotKeyed.inj (kD_eq d hd) (h ▸ kD_eq e he)
  obtain ⟨a1, a2⟩ := d
  obtain ⟨b1, b2⟩ := e
  have h1 : (#[Value.int .i64 a1, Value.int .i64 a2] : Array Value) = #[Value.int .i64 b1, Value.int .i64 b2] := by injection this
  have h3 : a1 = b1 ∧ a2 = b2 := by simpa using h1
  rw [h3.1, h3.2]
theorem run_makeMap_hint {P : Program} {t k e : TypeId} (ht : P.underlying t = some (.map k e)) (n : Nat) (w : World) : (Instr.makeMap t (some (.int .i64 n))).run P w = .ok (.map (some w.heap.size)) (w.alloc (.map #[] 0)) := by
  simp [Instr.makeMap, run_underlying ht, asInt, asIntOf, Result.andThen]

end Go.Proofs.YtgkddimijmnpcaaGreatDoor

/-
  Package cell: mayElems, by a contract.
-/
namespace Go.Proofs.YtgkddimijmnpcaaGreatDoor
open Go.RowKit Go.Maps
set_option linter.unusedVariables false
set_option linter.unusedSimpArgs false

theorem elmsG_last {s : List Int} {l : List L5} {i : Nat} (h : ∀ j, j < i → elmG s l j = true) (hl : ¬ i < l.length) : elmsG s l = true := by
  unfold elmsG
  rw [List.all_eq_true]
  intro j hj
  exact h j (by have := List.mem_range.1 hj; omega)
theorem elmsG_not {s : List Int} {l : List L5} {i : Nat} (h : elmG s l i = false) (hl : i < l.length) : elmsG s l = false := by
  rw [Bool.eq_false_iff]
  intro ht
  unfold elmsG at ht
  have := List.all_eq_true.1 ht i (List.mem_range.2 hl)
  rw [h] at this
  cases this
/-- The map holds the dots of the elements that have come. -/
def MapX (w : World) (b : Nat) (l : List L5) (i : Nat) (D : DataW Unit) : Prop := w.ownsMap Tryz.prog 32 (plainElem Tryz.prog 3) b i D ∧ ∀ d, WfD d → Maps.has D (kD d) = hasX (l.take i) d
set_option maxRecDepth 100000 in
theorem mapX_step {w w' : World} {b : Nat} {l : List L5} {i : Nat} {D : DataW Unit} {x : L5} {v : DataW Unit} (h : MapX w b l i D) (hx : l[i]? = some x) (hw : WfD (dotX x)) (hown : w'.ownsMap Tryz.prog 32 (plainElem Tryz.prog 3) b (i + 1) (D.put (kD (dotX x)) v)) : MapX w' b l (i + 1) (D.put (kD (dotX x)) v) := by
  refine ⟨hown, fun d hd => ?_⟩
  have ht : l.take (i + 1) = l.take i ++ [x] := by
    rw [List.take_add_one, hx]
    rfl
  have hX : hasX (l.take (i + 1)) d = (hasX (l.take i) d || decide (dotX x = d)) := by
    rw [ht]
    unfold hasX
    rw [List.any_append]
    simp
  rw [hX]
  by_cases e : dotX x = d
  · subst e
    rw [has_put_same h.1.isMap (dotKeyed.key (kD_eq _ hw)) v]
    simp
  · have hk : kD d ≠ kD (dotX x) := fun k => e (kD_inj hd hw k).symm
    rw [has_put_other hk v, h.2 d hd]
    simp [e]

set_option maxHeartbeats 4000000 in
set_option maxRecDepth 100000 in
theorem melms_any (c : Ce) (p : Pl) (n : Int) (w : World) (hr : CRow w c p) (hf : Fit c) (hwf : Wf5 c) : Calls Tryz.prog 87 #[ceV c p, .int .i64 n] w fun e w' => e = .returned (.bool (elmsB c.seen c.elems)) ∧ Below w.heap.size w w' := by
  rw [← elmsG_eq]
  obtain ⟨ck, cs, ct, cn, cv, cre, cim, ce, cl, cse⟩ := c
  obtain ⟨eo, ec, lo, lc, so, sc⟩ := p
  have hlen : cl.length * 48 ≤ 140737488351232 := hf.2.1
  have HWF : Hid (Wf5 ⟨ck, cs, ct, cn, cv, cre, cim, ce, cl, cse⟩) := hwf
  obtain ⟨h, hh⟩ : ∃ h, w.heap.size = h := ⟨_, rfl⟩
  have H0 : Hid (CBox w h ⟨ck, cs, ct, cn, cv, cre, cim, ce, cl, cse⟩ ⟨eo, ec, lo, lc, so, sc⟩ (w.alloc (.cells (ceL ⟨ck, cs, ct, cn, cv, cre, cim, ce, cl, cse⟩ ⟨eo, ec, lo, lc, so, sc⟩).toArray 30)) ∧ (w.alloc (.cells (ceL ⟨ck, cs, ct, cn, cv, cre, cim, ce, cl, cse⟩ ⟨eo, ec, lo, lc, so, sc⟩).toArray 30)).heap.size = h + 1) := ⟨cbox_new hh hr _, by simp; omega⟩
  rw [hh]
  clear hr hf hwf
  simp only
  have hmm : ∀ (n : Nat) (w : World), (Instr.makeMap 141 (some (.int .i64 n))).run Tryz.prog w = .ok (.map (some w.heap.size)) (w.alloc (.map #[] 0)) := fun n w => run_makeMap_hint Tryz.underlying141 n w
  go_enter Tryz.func87, Tryz.ntmps87
  go_upto_region 1 with fail
  generalize hW : w.alloc (.cells (ceL ⟨ck, cs, ct, cn, cv, cre, cim, ce, cl, cse⟩ ⟨eo, ec, lo, lc, so, sc⟩).toArray 30) = w1 at H0 ⊢
  clear hW hh
  have y8 : w1.cell? ⟨h, 8, none⟩ = some (.slice lo cl.length lc) := H0.out.1.1.at 8 rfl
  have hs1 : w1.heap.size = h + 1 := H0.out.2
  have hm1 : (Instr.makeMap 141 (some (.int .i64 (cl.length : Int)))).run Tryz.prog w1 = .ok (.map (some (h + 1))) (w1.alloc (.map #[] 0)) := hs1 ▸ hmm cl.length w1
  have M0 : Hid (MapX (w1.alloc (.map #[] 0)) (h + 1) cl 0 (.map [])) := ⟨hs1 ▸ World.ownsMap_made w1 _ _ _, fun d _ => rfl⟩
  have HB0 : Hid (Below (h + 1) w1 (w1.alloc (.map #[] 0)) ∧ h + 1 < (w1.alloc (.map #[] 0)).heap.size) := ⟨(Below.refl _ _).alloc (by omega) _, by simp; omega⟩
  clear hmm hs1
  go_upto_region 2 with fail
  generalize hW : w1.alloc (.map #[] 0) = w2 at M0 HB0 ⊢
  have y8 : w2.cell? ⟨h, 8, none⟩ = some (.slice lo cl.length lc) := (HB0.out.1.cell (p := ⟨h, 8, none⟩) (Nat.lt_succ_self h)).trans (H0.out.1.1.at 8 rfl)
  clear hW hm1
  go_wp2
  clear y8
  go_loopg [6, 7, 8, 9, 17] cl.length (fun n _ _ _ _ iv wr => ∃ i : Nat, i + n = cl.length ∧ iv = .int .i64 i ∧ Hid ((Below (h + 1) w1 wr ∧ h + 1 < wr.heap.size) ∧ (∃ D, MapX wr (h + 1) cl i D) ∧ ∀ j, j < i → elmG cse cl j = true))
  case atStart => exact ⟨0, by omega, rfl, HB0.out, ⟨_, M0.out⟩, fun j hj => by omega⟩
  case round =>
    clear M0 HB0
    obtain ⟨i, hin, rfl, HJ⟩ := hrel
    have HC : Hid (CBox w h ⟨ck, cs, ct, cn, cv, cre, cim, ce, cl, cse⟩ ⟨eo, ec, lo, lc, so, sc⟩ wr) := H0.out.1.later (H0.out.2.symm ▸ HJ.out.1.1)
    obtain ⟨D, HD⟩ := HJ.out.2.1
    have HM : Hid (MapX wr (h + 1) cl i D) := HD
    clear HD
    obtain ⟨k, hk⟩ : ∃ k, wr.heap.size = k := ⟨_, rfl⟩
    by_cases hi : i < cl.length
    · obtain ⟨x, hx⟩ : ∃ x, cl[i]? = some x := ⟨_, List.getElem?_eq_getElem hi⟩
      obtain ⟨bk, off, hlo, hbk, hc⟩ := HC.out.2.1.2.1 (by rw [flatL_len]; simp only; omega)
      simp only at hlo
      subst hlo
      have HX : Hid (cl.getD i l50 = x) := by show cl.getD i l50 = x; simp [List.getD, hx]
      have HXX : Hid (cl[i]? = some x) := hx
      have HWD : Hid (WfD (dotX x)) := HWF.out x (List.mem_of_getElem? hx)
      obtain ⟨x1, x2, x3, x4, x5⟩ := x
      have c0 : wr.cell? ⟨bk, off + i * 5, none⟩ = some (.int .i64 x1) := hc _ _ (flatL_at cl i hx).1
      have c1 : wr.cell? ⟨bk, off + i * 5 + 1, none⟩ = some (.int .i64 x2) := hc _ _ (flatL_at cl i hx).2.1
      have c2 : wr.cell? ⟨bk, off + i * 5 + 2, none⟩ = some (.int .i64 x3) := hc _ _ (flatL_at cl i hx).2.2.1
      have c3 : wr.cell? ⟨bk, off + i * 5 + 3, none⟩ = some (.string x4) := hc _ _ (flatL_at cl i hx).2.2.2.1
      have c4 : wr.cell? ⟨bk, off + i * 5 + 4, none⟩ = some (.bool x5) := hc _ _ (flatL_at cl i hx).2.2.2.2
      have F0 : Hid (Has (wr.alloc (.cells #[.int .i64 x1, .int .i64 x2, .int .i64 x3, .string x4, .bool x5] 59)) k [.int .i64 x1, .int .i64 x2, .int .i64 x3, .string x4, .bool x5] ∧ CBox w h ⟨ck, cs, ct, cn, cv, cre, cim, ce, cl, cse⟩ ⟨eo, ec, some ⟨bk, off, none⟩, lc, so, sc⟩ (wr.alloc (.cells #[.int .i64 x1, .int .i64 x2, .int .i64 x3, .string x4, .bool x5] 59)) ∧ h + 1 < k ∧ MapX (wr.alloc (.cells #[.int .i64 x1, .int .i64 x2, .int .i64 x3, .string x4, .bool x5] 59)) (h + 1) cl i D ∧ Below (h + 1) w1 (wr.alloc (.cells #[.int .i64 x1, .int .i64 x2, .int .i64 x3, .string x4, .bool x5] 59))) := by
        subst hk
        exact ⟨has_new wr [.int .i64 x1, .int .i64 x2, .int .i64 x3, .string x4, .bool x5] _, HC.out.alloc _, HJ.out.1.2, ⟨HM.out.1.alloc _, HM.out.2⟩, HJ.out.1.1.alloc (Nat.le_of_lt HJ.out.1.2) _⟩
      have hgo : Hid (elmG cse cl i = true → ∀ j, j < i + 1 → elmG cse cl j = true) := fun h j hj => by
        by_cases e : j = i
        · subst e; exact h
        · exact HJ.out.2.2 j (by omega)
      clear HJ HM HC
      have HI : Hid (i < cl.length) := hi
      clear hc hx
      go_upto_region 5 with fail
      generalize hW : wr.alloc (.cells #[.int .i64 x1, .int .i64 x2, .int .i64 x3, .string x4, .bool x5] 59) = w2 at F0 ⊢
      clear hW c0 c1 c2 c3 c4
      try simp only [hk]
      clear hk
      have z0 : w2.cell? ⟨k, 0, none⟩ = some (.int .i64 x1) := F0.out.1.at 0 rfl
      have z1 : w2.cell? ⟨k, 1, none⟩ = some (.int .i64 x2) := F0.out.1.at 1 rfl
      have hkey : keyOf Tryz.prog 32 (.agg #[.int .i64 x1, .int .i64 x2]) = some (kD (x1, x2)) := kD_eq (x1, x2) HWD.out
      have hhas := F0.out.2.2.2.1.2 (x1, x2) HWD.out
      cases hb : hasX (cl.take i) (x1, x2) with
      | true =>
        have HH : Hid (hasX (cl.take i) (x1, x2) = true) := hb
        rw [hb] at hhas
        clear hb
        go_wp2_with (first | (at_lookup; refine wpList_lookup_own_ok_int _ rfl _ _ 141 rfl 32 3 .i64 dotKeyed Tryz.underlying141 Tryz.underlying3 (Tryz.zeroValue3 _) (h + 1) i D rfl F0.out.2.2.2.1.1 _ _ rfl hkey ?_; intro q hat hwc) | fail)
        go_ret
        exact ⟨ret_bool (elmsG_not (by unfold elmG; rw [HX.out]; show (!hasX (cl.take i) (x1, x2) && _) = false; rw [HH.out]; rfl) HI.out).symm, F0.out.2.1.2.2.1⟩
      | false =>
        have HH : Hid (hasX (cl.take i) (x1, x2) = false) := hb
        rw [hb] at hhas
        clear hb
        have y9 : w2.cell? ⟨h, 9, none⟩ = some (.slice so cse.length sc) := F0.out.2.1.1.at 9 rfl
        have z2 : w2.cell? ⟨k, 2, none⟩ = some (.int .i64 x3) := F0.out.1.at 2 rfl
        have z3 : w2.cell? ⟨k, 3, none⟩ = some (.string x4) := F0.out.1.at 3 rfl
        have z4 : w2.cell? ⟨k, 4, none⟩ = some (.bool x5) := F0.out.1.at 4 rfl
        go_wp2_with (first | (at_lookup; refine wpList_lookup_own_ok_int _ rfl _ _ 141 rfl 32 3 .i64 dotKeyed Tryz.underlying141 Tryz.underlying3 (Tryz.zeroValue3 _) (h + 1) i D rfl F0.out.2.2.2.1.1 _ _ rfl hkey ?_; intro q hat hwc) | fail)
        refine (melem_any ⟨x1, x2, x3, x4, x5⟩ so sc cse _ F0.out.2.1.2.1.2.2).mono ?_
        rintro e w3 ⟨rfl, b3⟩
        have F3 : Hid (Has w3 k [.int .i64 x1, .int .i64 x2, .int .i64 x3, .string x4, .bool x5] ∧ CBox w h ⟨ck, cs, ct, cn, cv, cre, cim, ce, cl, cse⟩ ⟨eo, ec, some ⟨bk, off, none⟩, lc, so, sc⟩ w3 ∧ h + 1 < k ∧ MapX w3 (h + 1) cl i D ∧ Below (h + 1) w1 w3 ∧ h + 1 < w3.heap.size) := by
          obtain ⟨f1, f2, f3, f4, f5⟩ := F0.out
          have hlt : h + 1 < w2.heap.size := by have := f1.1; omega
          refine ⟨f1.later b3, f2.later b3, f3, ⟨?_, f4.2⟩, f5.trans (b3.mono (Nat.le_of_lt hlt)), Nat.lt_of_lt_of_le hlt b3.size⟩
          obtain ⟨es, clock, g1, g2⟩ := f4.1
          exact ⟨es, clock, (b3.block (h + 1) hlt).trans g1, g2⟩
        clear b3 F0 y9 z0 z1 z2 z3 z4 hhas
        cases hV : elmV cse ⟨x1, x2, x3, x4, x5⟩ with
        | false =>
          have HV : Hid (elmV cse ⟨x1, x2, x3, x4, x5⟩ = false) := hV
          clear hV
          have HE : Hid (Below h w w3) := F3.out.2.1.2.2.1
          clear F3
          go_wp2_with fail
          go_ret
          exact ⟨ret_bool (elmsG_not (by unfold elmG; rw [HX.out, HV.out]; simp) HI.out).symm, HE.out⟩
        | true =>
          have HV : Hid (elmV cse ⟨x1, x2, x3, x4, x5⟩ = true) := hV
          clear hV
          have z0 : w3.cell? ⟨k, 0, none⟩ = some (.int .i64 x1) := F3.out.1.at 0 rfl
          have z1 : w3.cell? ⟨k, 1, none⟩ = some (.int .i64 x2) := F3.out.1.at 1 rfl
          have HL : Hid (i < maxLen) := by have := HI.out; show i < maxLen; unfold maxLen; omega
          go_wp2_with (first | (at_mapUpdate; refine wpList_mapUpdate_own _ rfl _ _ _ 141 rfl 32 3 dotKeyed Tryz.underlying141 _ (h + 1) i D rfl F3.out.2.2.2.1.1 HL.out _ _ _ rfl rfl hkey _ [] (plainElem_int Tryz.underlying3 (WalkArith.wf_i64 (by omega))) ?_; intro w4 hown1 hgrow1) | fail)
          go_roundg (gk - 1)
          case measure => omega
          case rel =>
            refine ⟨i + 1, by omega, by go_num, ⟨⟨F3.out.2.2.2.2.1.grown hgrow1 (Nat.le_of_lt F3.out.2.2.2.2.2) (fun j hj => by cases hj; exact Nat.le_refl _), Nat.lt_of_lt_of_le F3.out.2.2.2.2.2 hgrow1.size⟩, ⟨_, mapX_step F3.out.2.2.2.1 HXX.out HWD.out hown1⟩, hgo.out (by unfold elmG; rw [HX.out, HV.out]; show (!hasX (cl.take i) (x1, x2) && true) = true; rw [HH.out]; rfl)⟩⟩
    · have hd : decide ((i : Int) < (cl.length : Int)) = false := by simp; omega
      go_wp2
      go_ret
      exact ⟨ret_bool (elmsG_last HJ.out.2.2 hi).symm, HC.out.2.2.1⟩

end Go.Proofs.YtgkddimijmnpcaaGreatDoor

/-
  Package cell: May, by a contract.
-/
namespace Go.Proofs.YtgkddimijmnpcaaGreatDoor
open Go.RowKit
set_option linter.unusedVariables false
set_option linter.unusedSimpArgs false

theorem cm_0 (c : Ce) (n : Int) (hk : c.kind = 0) : cmayB c n = (vecB c.seen n && (empB (rW c) && mwB c n)) := by
  unfold cmayB
  rw [if_pos hk]
  have e : empB (rW c) = (numZc c && (entZ c && elmZ c)) := rfl
  rw [e]
  unfold mwB lwwZ
  cases c.set <;> simp [Bool.and_assoc]
theorem cm_1 (c : Ce) (n : Int) (hk : c.kind = 1) : cmayB c n = (vecB c.seen n && (empB (rN c) && pairB c.re c.im)) := by
  unfold cmayB
  rw [if_neg (by omega), if_pos hk]
  have e : empB (rN c) = (lwwZ c && (entZ c && elmZ c)) := rfl
  rw [e]
  simp [Bool.and_assoc]
theorem cm_2 (c : Ce) (n : Int) (hk : c.kind = 2) : cmayB c n = (vecB c.seen n && (empB (rE c) && entsB c.seen c.ents)) := by
  unfold cmayB
  rw [if_neg (by omega), if_neg (by omega), if_pos hk]
  have e : empB (rE c) = (lwwZ c && (numZc c && elmZ c)) := rfl
  rw [e]
  simp [Bool.and_assoc]
theorem cm_3 (c : Ce) (n : Int) (hk : c.kind = 3) : cmayB c n = (vecB c.seen n && (empB (rL c) && elmsB c.seen c.elems)) := by
  unfold cmayB
  rw [if_neg (by omega), if_neg (by omega), if_neg (by omega), if_pos hk]
  have e : empB (rL c) = (lwwZ c && (numZc c && (entZ c && true))) := rfl
  rw [e]
  simp [Bool.and_assoc]
theorem cm_9 (c : Ce) (n : Int) (hk : knoB c.kind = false) : cmayB c n = false := by
  unfold knoB at hk
  rw [decide_eq_false_iff_not] at hk
  unfold cmayB
  rw [if_neg (by omega), if_neg (by omega), if_neg (by omega), if_neg (by omega), Bool.and_false]
theorem vmay12_any (ao : Option Addr) (ca : Nat) (l : List Int) (n : Int) (w : World) (hr : FRow w ao (flatI l)) : Calls Tryz.prog 41 #[.slice ao l.length ca, .int .i64 n] w fun e w' => e = .returned (.bool (vecB l n)) ∧ Below w.heap.size w w' := (vmay_any ao ca l n w hr).mono fun e w' ⟨a, b⟩ => ⟨a, by rw [b]; exact Below.refl _ _⟩

set_option maxHeartbeats 4000000 in
set_option maxRecDepth 100000 in
theorem cmay_0 (c : Ce) (p : Pl) (n : Int) (w : World) (hr : CRow w c p) (hf : Fit c) (hwf : Wf5 c) (hk : c.kind = 0) : Calls Tryz.prog 20 #[ceV c p, .int .i64 n] w fun e w' => e = .returned (.bool (cmayB c n)) ∧ Below w.heap.size w w' := by
  have HF : Hid (Fit c ∧ Wf5 c ∧ c.kind = 0) := ⟨hf, hwf, hk⟩
  have HB : Hid (cmayB c n = (vecB c.seen n && (empB (rW c) && mwB c n))) := cm_0 c n hk
  have e0 : rulL c.kind = [fnV 77, fnV 78, fnV 79] := by rw [hk]; rfl
  have e1 : knoB c.kind = true := by rw [hk]; rfl
  have CR := rules_any c.kind
  rw [e0, e1] at CR
  obtain ⟨r, hR⟩ : ∃ r, cmayB c n = r := ⟨_, rfl⟩
  have HR : Hid (cmayB c n = r) := hR
  rw [hR]
  obtain ⟨h, hh⟩ : ∃ h, w.heap.size = h := ⟨_, rfl⟩
  have H0 : Hid (CBox w h c p (w.alloc (.cells (ceL c p).toArray 30))) := cbox_new hh hr _
  rw [hh]
  clear hr hf hwf hk e0 e1 hR
  go_enter Tryz.func20, Tryz.ntmps20
  go_upto_region 1 with fail
  generalize hW : w.alloc (.cells (ceL c p).toArray 30) = w1 at H0 ⊢
  clear hW hh
  have y0 : w1.cell? ⟨h, 0, none⟩ = some (.int .i64 c.kind) := H0.out.1.at 0 rfl
  go_wp2_with fail
  refine (CR w1).mono ?_
  rintro e w2 ⟨rfl, b2⟩
  have H2 : Hid (CBox w h c p w2) := H0.out.later b2
  obtain ⟨g, hg⟩ : ∃ g, w2.heap.size = g := ⟨_, rfl⟩
  have H3 : Hid (CBox w h c p (w2.alloc (.cells #[fnV 77, fnV 78, fnV 79] 77)) ∧ Has (w2.alloc (.cells #[fnV 77, fnV 78, fnV 79] 77)) g [fnV 77, fnV 78, fnV 79]) := ⟨H2.out.alloc _, hg ▸ has_new w2 _ _⟩
  clear H0 b2 y0 CR H2
  go_upto_region 2 with fail
  generalize hW : w2.alloc (.cells #[fnV 77, fnV 78, fnV 79] 77) = w3 at H3 ⊢
  clear hW
  try simp only [hg]
  clear hg
  have y9 : w3.cell? ⟨h, 9, none⟩ = some (.slice p.so c.seen.length p.sc) := H3.out.1.1.at 9 rfl
  cases hv : vecB c.seen n with
  | false =>
    have HV : Hid (vecB c.seen n = false) := hv
    go_wp2_with fail
    refine (vmay12_any p.so p.sc c.seen n w3 H3.out.1.2.1.2.2).mono ?_
    rw [hv]
    clear hv
    rintro e w4 ⟨rfl, b4⟩
    have HE : Hid (Below h w w4) := (H3.out.1.later b4).2.2.1
    clear b4 H3 y9
    go_wp2_with fail
    go_ret
    exact ⟨by rw [← HR.out, HB.out, HV.out]; rfl, HE.out⟩
  | true =>
    have HV : Hid (vecB c.seen n = true) := hv
    go_wp2_with fail
    refine (vmay12_any p.so p.sc c.seen n w3 H3.out.1.2.1.2.2).mono ?_
    rw [hv]
    clear hv
    rintro e w4 ⟨rfl, b4⟩
    have H4 : Hid (CBox w h c p w4 ∧ Has w4 g [fnV 77, fnV 78, fnV 79]) := ⟨H3.out.1.later b4, H3.out.2.later b4⟩
    clear b4 H3 y9
    have lc := ld_ce H4.out.1.1
    have q0 : w4.cell? ⟨g, 0, none⟩ = some (fnV 77) := H4.out.2.at 0 rfl
    go_wp2_with (refine wpList_ldt lc rfl rfl rfl ?_)
    refine (wW_any c p w4).mono ?_
    rintro e w5 ⟨rfl, b5⟩
    have H5 : Hid (CBox w h c p w5 ∧ Has w5 g [fnV 77, fnV 78, fnV 79]) := ⟨H4.out.1.later b5, H4.out.2.later b5⟩
    clear b5 H4 lc q0
    go_wp2_with fail
    refine (empty_any (rW c) p w5).mono ?_
    rintro e w6 ⟨rfl, b6⟩
    have H6 : Hid (CBox w h c p w6 ∧ Has w6 g [fnV 77, fnV 78, fnV 79]) := ⟨H5.out.1.later b6, H5.out.2.later b6⟩
    clear b6 H5
    cases he : empB (rW c) with
    | false =>
      have HX : Hid (empB (rW c) = false) := he
      clear he
      have HE : Hid (Below h w w6) := H6.out.1.2.2.1
      clear H6
      go_wp2_with fail
      go_ret
      exact ⟨by rw [← HR.out, HB.out, HV.out, HX.out]; rfl, HE.out⟩
    | true =>
      have HX : Hid (empB (rW c) = true) := he
      clear he
      have lc := ld_ce H6.out.1.1
      have q1 : w6.cell? ⟨g, 1, none⟩ = some (fnV 78) := H6.out.2.at 1 rfl
      go_wp2_with (refine wpList_ldt lc rfl rfl rfl ?_)
      refine (mwrite_any c p n w6).mono ?_
      rintro e w7 ⟨rfl, b7⟩
      have HE : Hid (Below h w w7) := (H6.out.1.later b7).2.2.1
      clear b7 H6 lc q1
      go_wp2_with fail
      go_ret
      exact ⟨by rw [← HR.out, HB.out, HV.out, HX.out]; rfl, HE.out⟩

set_option maxHeartbeats 4000000 in
set_option maxRecDepth 100000 in
theorem cmay_1 (c : Ce) (p : Pl) (n : Int) (w : World) (hr : CRow w c p) (hf : Fit c) (hwf : Wf5 c) (hk : c.kind = 1) : Calls Tryz.prog 20 #[ceV c p, .int .i64 n] w fun e w' => e = .returned (.bool (cmayB c n)) ∧ Below w.heap.size w w' := by
  have HF : Hid (Fit c ∧ Wf5 c ∧ c.kind = 1) := ⟨hf, hwf, hk⟩
  have HB : Hid (cmayB c n = (vecB c.seen n && (empB (rN c) && pairB c.re c.im))) := cm_1 c n hk
  have e0 : rulL c.kind = [fnV 80, fnV 81, fnV 82] := by rw [hk]; rfl
  have e1 : knoB c.kind = true := by rw [hk]; rfl
  have CR := rules_any c.kind
  rw [e0, e1] at CR
  obtain ⟨r, hR⟩ : ∃ r, cmayB c n = r := ⟨_, rfl⟩
  have HR : Hid (cmayB c n = r) := hR
  rw [hR]
  obtain ⟨h, hh⟩ : ∃ h, w.heap.size = h := ⟨_, rfl⟩
  have H0 : Hid (CBox w h c p (w.alloc (.cells (ceL c p).toArray 30))) := cbox_new hh hr _
  rw [hh]
  clear hr hf hwf hk e0 e1 hR
  go_enter Tryz.func20, Tryz.ntmps20
  go_upto_region 1 with fail
  generalize hW : w.alloc (.cells (ceL c p).toArray 30) = w1 at H0 ⊢
  clear hW hh
  have y0 : w1.cell? ⟨h, 0, none⟩ = some (.int .i64 c.kind) := H0.out.1.at 0 rfl
  go_wp2_with fail
  refine (CR w1).mono ?_
  rintro e w2 ⟨rfl, b2⟩
  have H2 : Hid (CBox w h c p w2) := H0.out.later b2
  obtain ⟨g, hg⟩ : ∃ g, w2.heap.size = g := ⟨_, rfl⟩
  have H3 : Hid (CBox w h c p (w2.alloc (.cells #[fnV 80, fnV 81, fnV 82] 77)) ∧ Has (w2.alloc (.cells #[fnV 80, fnV 81, fnV 82] 77)) g [fnV 80, fnV 81, fnV 82]) := ⟨H2.out.alloc _, hg ▸ has_new w2 _ _⟩
  clear H0 b2 y0 CR H2
  go_upto_region 2 with fail
  generalize hW : w2.alloc (.cells #[fnV 80, fnV 81, fnV 82] 77) = w3 at H3 ⊢
  clear hW
  try simp only [hg]
  clear hg
  have y9 : w3.cell? ⟨h, 9, none⟩ = some (.slice p.so c.seen.length p.sc) := H3.out.1.1.at 9 rfl
  cases hv : vecB c.seen n with
  | false =>
    have HV : Hid (vecB c.seen n = false) := hv
    go_wp2_with fail
    refine (vmay12_any p.so p.sc c.seen n w3 H3.out.1.2.1.2.2).mono ?_
    rw [hv]
    clear hv
    rintro e w4 ⟨rfl, b4⟩
    have HE : Hid (Below h w w4) := (H3.out.1.later b4).2.2.1
    clear b4 H3 y9
    go_wp2_with fail
    go_ret
    exact ⟨by rw [← HR.out, HB.out, HV.out]; rfl, HE.out⟩
  | true =>
    have HV : Hid (vecB c.seen n = true) := hv
    go_wp2_with fail
    refine (vmay12_any p.so p.sc c.seen n w3 H3.out.1.2.1.2.2).mono ?_
    rw [hv]
    clear hv
    rintro e w4 ⟨rfl, b4⟩
    have H4 : Hid (CBox w h c p w4 ∧ Has w4 g [fnV 80, fnV 81, fnV 82]) := ⟨H3.out.1.later b4, H3.out.2.later b4⟩
    clear b4 H3 y9
    have lc := ld_ce H4.out.1.1
    have q0 : w4.cell? ⟨g, 0, none⟩ = some (fnV 80) := H4.out.2.at 0 rfl
    go_wp2_with (refine wpList_ldt lc rfl rfl rfl ?_)
    refine (wN_any c p w4).mono ?_
    rintro e w5 ⟨rfl, b5⟩
    have H5 : Hid (CBox w h c p w5 ∧ Has w5 g [fnV 80, fnV 81, fnV 82]) := ⟨H4.out.1.later b5, H4.out.2.later b5⟩
    clear b5 H4 lc q0
    go_wp2_with fail
    refine (empty_any (rN c) p w5).mono ?_
    rintro e w6 ⟨rfl, b6⟩
    have H6 : Hid (CBox w h c p w6 ∧ Has w6 g [fnV 80, fnV 81, fnV 82]) := ⟨H5.out.1.later b6, H5.out.2.later b6⟩
    clear b6 H5
    cases he : empB (rN c) with
    | false =>
      have HX : Hid (empB (rN c) = false) := he
      clear he
      have HE : Hid (Below h w w6) := H6.out.1.2.2.1
      clear H6
      go_wp2_with fail
      go_ret
      exact ⟨by rw [← HR.out, HB.out, HV.out, HX.out]; rfl, HE.out⟩
    | true =>
      have HX : Hid (empB (rN c) = true) := he
      clear he
      have lc := ld_ce H6.out.1.1
      have q1 : w6.cell? ⟨g, 1, none⟩ = some (fnV 81) := H6.out.2.at 1 rfl
      go_wp2_with (refine wpList_ldt lc rfl rfl rfl ?_)
      refine (mnum_any c p n w6).mono ?_
      rintro e w7 ⟨rfl, b7⟩
      have HE : Hid (Below h w w7) := (H6.out.1.later b7).2.2.1
      clear b7 H6 lc q1
      go_wp2_with fail
      go_ret
      exact ⟨by rw [← HR.out, HB.out, HV.out, HX.out]; rfl, HE.out⟩

set_option maxHeartbeats 4000000 in
set_option maxRecDepth 100000 in
theorem cmay_2 (c : Ce) (p : Pl) (n : Int) (w : World) (hr : CRow w c p) (hf : Fit c) (hwf : Wf5 c) (hk : c.kind = 2) : Calls Tryz.prog 20 #[ceV c p, .int .i64 n] w fun e w' => e = .returned (.bool (cmayB c n)) ∧ Below w.heap.size w w' := by
  have HF : Hid (Fit c ∧ Wf5 c ∧ c.kind = 2) := ⟨hf, hwf, hk⟩
  have HB : Hid (cmayB c n = (vecB c.seen n && (empB (rE c) && entsB c.seen c.ents))) := cm_2 c n hk
  have e0 : rulL c.kind = [fnV 83, fnV 84, fnV 85] := by rw [hk]; rfl
  have e1 : knoB c.kind = true := by rw [hk]; rfl
  have CR := rules_any c.kind
  rw [e0, e1] at CR
  obtain ⟨r, hR⟩ : ∃ r, cmayB c n = r := ⟨_, rfl⟩
  have HR : Hid (cmayB c n = r) := hR
  rw [hR]
  obtain ⟨h, hh⟩ : ∃ h, w.heap.size = h := ⟨_, rfl⟩
  have H0 : Hid (CBox w h c p (w.alloc (.cells (ceL c p).toArray 30))) := cbox_new hh hr _
  rw [hh]
  clear hr hf hwf hk e0 e1 hR
  go_enter Tryz.func20, Tryz.ntmps20
  go_upto_region 1 with fail
  generalize hW : w.alloc (.cells (ceL c p).toArray 30) = w1 at H0 ⊢
  clear hW hh
  have y0 : w1.cell? ⟨h, 0, none⟩ = some (.int .i64 c.kind) := H0.out.1.at 0 rfl
  go_wp2_with fail
  refine (CR w1).mono ?_
  rintro e w2 ⟨rfl, b2⟩
  have H2 : Hid (CBox w h c p w2) := H0.out.later b2
  obtain ⟨g, hg⟩ : ∃ g, w2.heap.size = g := ⟨_, rfl⟩
  have H3 : Hid (CBox w h c p (w2.alloc (.cells #[fnV 83, fnV 84, fnV 85] 77)) ∧ Has (w2.alloc (.cells #[fnV 83, fnV 84, fnV 85] 77)) g [fnV 83, fnV 84, fnV 85]) := ⟨H2.out.alloc _, hg ▸ has_new w2 _ _⟩
  clear H0 b2 y0 CR H2
  go_upto_region 2 with fail
  generalize hW : w2.alloc (.cells #[fnV 83, fnV 84, fnV 85] 77) = w3 at H3 ⊢
  clear hW
  try simp only [hg]
  clear hg
  have y9 : w3.cell? ⟨h, 9, none⟩ = some (.slice p.so c.seen.length p.sc) := H3.out.1.1.at 9 rfl
  cases hv : vecB c.seen n with
  | false =>
    have HV : Hid (vecB c.seen n = false) := hv
    go_wp2_with fail
    refine (vmay12_any p.so p.sc c.seen n w3 H3.out.1.2.1.2.2).mono ?_
    rw [hv]
    clear hv
    rintro e w4 ⟨rfl, b4⟩
    have HE : Hid (Below h w w4) := (H3.out.1.later b4).2.2.1
    clear b4 H3 y9
    go_wp2_with fail
    go_ret
    exact ⟨by rw [← HR.out, HB.out, HV.out]; rfl, HE.out⟩
  | true =>
    have HV : Hid (vecB c.seen n = true) := hv
    go_wp2_with fail
    refine (vmay12_any p.so p.sc c.seen n w3 H3.out.1.2.1.2.2).mono ?_
    rw [hv]
    clear hv
    rintro e w4 ⟨rfl, b4⟩
    have H4 : Hid (CBox w h c p w4 ∧ Has w4 g [fnV 83, fnV 84, fnV 85]) := ⟨H3.out.1.later b4, H3.out.2.later b4⟩
    clear b4 H3 y9
    have lc := ld_ce H4.out.1.1
    have q0 : w4.cell? ⟨g, 0, none⟩ = some (fnV 83) := H4.out.2.at 0 rfl
    go_wp2_with (refine wpList_ldt lc rfl rfl rfl ?_)
    refine (wE_any c p w4).mono ?_
    rintro e w5 ⟨rfl, b5⟩
    have H5 : Hid (CBox w h c p w5 ∧ Has w5 g [fnV 83, fnV 84, fnV 85]) := ⟨H4.out.1.later b5, H4.out.2.later b5⟩
    clear b5 H4 lc q0
    go_wp2_with fail
    refine (empty_any (rE c) ⟨none, 0, p.lo, p.lc, p.so, p.sc⟩ w5).mono ?_
    rintro e w6 ⟨rfl, b6⟩
    have H6 : Hid (CBox w h c p w6 ∧ Has w6 g [fnV 83, fnV 84, fnV 85]) := ⟨H5.out.1.later b6, H5.out.2.later b6⟩
    clear b6 H5
    cases he : empB (rE c) with
    | false =>
      have HX : Hid (empB (rE c) = false) := he
      clear he
      have HE : Hid (Below h w w6) := H6.out.1.2.2.1
      clear H6
      go_wp2_with fail
      go_ret
      exact ⟨by rw [← HR.out, HB.out, HV.out, HX.out]; rfl, HE.out⟩
    | true =>
      have HX : Hid (empB (rE c) = true) := he
      clear he
      have lc := ld_ce H6.out.1.1
      have q1 : w6.cell? ⟨g, 1, none⟩ = some (fnV 84) := H6.out.2.at 1 rfl
      go_wp2_with (refine wpList_ldt lc rfl rfl rfl ?_)
      refine (ments_any c p n w6 H6.out.1.2.1 HF.out.1).mono ?_
      rintro e w7 ⟨rfl, b7⟩
      have HE : Hid (Below h w w7) := (H6.out.1.later b7).2.2.1
      clear b7 H6 lc q1
      go_wp2_with fail
      go_ret
      exact ⟨by rw [← HR.out, HB.out, HV.out, HX.out]; rfl, HE.out⟩

set_option maxHeartbeats 4000000 in
set_option maxRecDepth 100000 in
theorem cmay_3 (c : Ce) (p : Pl) (n : Int) (w : World) (hr : CRow w c p) (hf : Fit c) (hwf : Wf5 c) (hk : c.kind = 3) : Calls Tryz.prog 20 #[ceV c p, .int .i64 n] w fun e w' => e = .returned (.bool (cmayB c n)) ∧ Below w.heap.size w w' := by
  have HF : Hid (Fit c ∧ Wf5 c ∧ c.kind = 3) := ⟨hf, hwf, hk⟩
  have HB : Hid (cmayB c n = (vecB c.seen n && (empB (rL c) && elmsB c.seen c.elems))) := cm_3 c n hk
  have e0 : rulL c.kind = [fnV 86, fnV 87, fnV 88] := by rw [hk]; rfl
  have e1 : knoB c.kind = true := by rw [hk]; rfl
  have CR := rules_any c.kind
  rw [e0, e1] at CR
  obtain ⟨r, hR⟩ : ∃ r, cmayB c n = r := ⟨_, rfl⟩
  have HR : Hid (cmayB c n = r) := hR
  rw [hR]
  obtain ⟨h, hh⟩ : ∃ h, w.heap.size = h := ⟨_, rfl⟩
  have H0 : Hid (CBox w h c p (w.alloc (.cells (ceL c p).toArray 30))) := cbox_new hh hr _
  rw [hh]
  clear hr hf hwf hk e0 e1 hR
  go_enter Tryz.func20, Tryz.ntmps20
  go_upto_region 1 with fail
  generalize hW : w.alloc (.cells (ceL c p).toArray 30) = w1 at H0 ⊢
  clear hW hh
  have y0 : w1.cell? ⟨h, 0, none⟩ = some (.int .i64 c.kind) := H0.out.1.at 0 rfl
  go_wp2_with fail
  refine (CR w1).mono ?_
  rintro e w2 ⟨rfl, b2⟩
  have H2 : Hid (CBox w h c p w2) := H0.out.later b2
  obtain ⟨g, hg⟩ : ∃ g, w2.heap.size = g := ⟨_, rfl⟩
  have H3 : Hid (CBox w h c p (w2.alloc (.cells #[fnV 86, fnV 87, fnV 88] 77)) ∧ Has (w2.alloc (.cells #[fnV 86, fnV 87, fnV 88] 77)) g [fnV 86, fnV 87, fnV 88]) := ⟨H2.out.alloc _, hg ▸ has_new w2 _ _⟩
  clear H0 b2 y0 CR H2
  go_upto_region 2 with fail
  generalize hW : w2.alloc (.cells #[fnV 86, fnV 87, fnV 88] 77) = w3 at H3 ⊢
  clear hW
  try simp only [hg]
  clear hg
  have y9 : w3.cell? ⟨h, 9, none⟩ = some (.slice p.so c.seen.length p.sc) := H3.out.1.1.at 9 rfl
  cases hv : vecB c.seen n with
  | false =>
    have HV : Hid (vecB c.seen n = false) := hv
    go_wp2_with fail
    refine (vmay12_any p.so p.sc c.seen n w3 H3.out.1.2.1.2.2).mono ?_
    rw [hv]
    clear hv
    rintro e w4 ⟨rfl, b4⟩
    have HE : Hid (Below h w w4) := (H3.out.1.later b4).2.2.1
    clear b4 H3 y9
    go_wp2_with fail
    go_ret
    exact ⟨by rw [← HR.out, HB.out, HV.out]; rfl, HE.out⟩
  | true =>
    have HV : Hid (vecB c.seen n = true) := hv
    go_wp2_with fail
    refine (vmay12_any p.so p.sc c.seen n w3 H3.out.1.2.1.2.2).mono ?_
    rw [hv]
    clear hv
    rintro e w4 ⟨rfl, b4⟩
    have H4 : Hid (CBox w h c p w4 ∧ Has w4 g [fnV 86, fnV 87, fnV 88]) := ⟨H3.out.1.later b4, H3.out.2.later b4⟩
    clear b4 H3 y9
    have lc := ld_ce H4.out.1.1
    have q0 : w4.cell? ⟨g, 0, none⟩ = some (fnV 86) := H4.out.2.at 0 rfl
    go_wp2_with (refine wpList_ldt lc rfl rfl rfl ?_)
    refine (wL_any c p w4).mono ?_
    rintro e w5 ⟨rfl, b5⟩
    have H5 : Hid (CBox w h c p w5 ∧ Has w5 g [fnV 86, fnV 87, fnV 88]) := ⟨H4.out.1.later b5, H4.out.2.later b5⟩
    clear b5 H4 lc q0
    go_wp2_with fail
    refine (empty_any (rL c) ⟨p.eo, p.ec, none, 0, p.so, p.sc⟩ w5).mono ?_
    rintro e w6 ⟨rfl, b6⟩
    have H6 : Hid (CBox w h c p w6 ∧ Has w6 g [fnV 86, fnV 87, fnV 88]) := ⟨H5.out.1.later b6, H5.out.2.later b6⟩
    clear b6 H5
    cases he : empB (rL c) with
    | false =>
      have HX : Hid (empB (rL c) = false) := he
      clear he
      have HE : Hid (Below h w w6) := H6.out.1.2.2.1
      clear H6
      go_wp2_with fail
      go_ret
      exact ⟨by rw [← HR.out, HB.out, HV.out, HX.out]; rfl, HE.out⟩
    | true =>
      have HX : Hid (empB (rL c) = true) := he
      clear he
      have lc := ld_ce H6.out.1.1
      have q1 : w6.cell? ⟨g, 1, none⟩ = some (fnV 87) := H6.out.2.at 1 rfl
      go_wp2_with (refine wpList_ldt lc rfl rfl rfl ?_)
      refine (melms_any c p n w6 H6.out.1.2.1 HF.out.1 HF.out.2.1).mono ?_
      rintro e w7 ⟨rfl, b7⟩
      have HE : Hid (Below h w w7) := (H6.out.1.later b7).2.2.1
      clear b7 H6 lc q1
      go_wp2_with fail
      go_ret
      exact ⟨by rw [← HR.out, HB.out, HV.out, HX.out]; rfl, HE.out⟩

set_option maxHeartbeats 4000000 in
set_option maxRecDepth 100000 in
theorem cmay_9 (c : Ce) (p : Pl) (n : Int) (w : World) (hr : CRow w c p) (hk : knoB c.kind = false) : Calls Tryz.prog 20 #[ceV c p, .int .i64 n] w fun e w' => e = .returned (.bool (cmayB c n)) ∧ Below w.heap.size w w' := by
  rw [cm_9 c n hk]
  have e0 : rulL c.kind = [.nilFunc, .nilFunc, .nilFunc] := by
    unfold knoB at hk
    rw [decide_eq_false_iff_not] at hk
    unfold rulL
    rw [if_neg (by omega), if_neg (by omega), if_neg (by omega), if_neg (by omega)]
  have CR := rules_any c.kind
  rw [e0, hk] at CR
  obtain ⟨h, hh⟩ : ∃ h, w.heap.size = h := ⟨_, rfl⟩
  have H0 : Hid (CBox w h c p (w.alloc (.cells (ceL c p).toArray 30))) := cbox_new hh hr _
  rw [hh]
  clear hr hk e0
  go_enter Tryz.func20, Tryz.ntmps20
  go_upto_region 1 with fail
  generalize hW : w.alloc (.cells (ceL c p).toArray 30) = w1 at H0 ⊢
  clear hW hh
  have y0 : w1.cell? ⟨h, 0, none⟩ = some (.int .i64 c.kind) := H0.out.1.at 0 rfl
  go_wp2_with fail
  refine (CR w1).mono ?_
  rintro e w2 ⟨rfl, b2⟩
  have H2 : Hid (CBox w h c p w2) := H0.out.later b2
  clear H0 b2 y0 CR
  go_wp2_with fail
  go_ret
  exact ⟨rfl, (H2.out.alloc _).2.2.1⟩

/-- May, at whatever comes. -/
theorem cmay_any (c : Ce) (p : Pl) (n : Int) (w : World) (hr : CRow w c p) (hf : Fit c) (hwf : Wf5 c) : Calls Tryz.prog 20 #[ceV c p, .int .i64 n] w fun e w' => e = .returned (.bool (cmayB c n)) ∧ Below w.heap.size w w' := by
  by_cases k0 : c.kind = 0
  · exact cmay_0 c p n w hr hf hwf k0
  by_cases k1 : c.kind = 1
  · exact cmay_1 c p n w hr hf hwf k1
  by_cases k2 : c.kind = 2
  · exact cmay_2 c p n w hr hf hwf k2
  by_cases k3 : c.kind = 3
  · exact cmay_3 c p n w hr hf hwf k3
  exact cmay_9 c p n w hr (by unfold knoB; rw [decide_eq_false_iff_not]; omega)

end Go.Proofs.YtgkddimijmnpcaaGreatDoor

/-
  Package quote: putByte, Text; package cell: brackets, by contracts.
-/
namespace Go.Proofs.YtgkddimijmnpcaaGreatDoor
open Go.RowKit Go.Shelf
set_option linter.unusedVariables false
set_option linter.unusedSimpArgs false

abbrev hexS : ByteArray := ⟨#[48, 49, 50, 51, 52, 53, 54, 55, 56, 57, 97, 98, 99, 100, 101, 102]⟩
theorem hexB_of (n : Nat) (h : n < 16) : hexS.data[n]? = some (hexB n) := by
  have : ∀ k : Fin 16, hexS.data[k.val]? = some (hexB k.val) := by decide
  exact this ⟨n, h⟩

theorem bbyte_z (b : Nat) (l : List UInt8) (c : UInt8) (z : Int) (hz : z = (c.toNat : Int)) (w : World) (h : Bd b l w) (hl : l.length + 1 ≤ 140737488355328) :
    Calls Tryz.prog 153 #[bdP b, .int .u8 z] w fun e w' => e = .returned .nilIface ∧ Bd b (l ++ [c]) w' ∧ Below b w w' := by
  rw [hz]
  exact bbyte_any b l c w h hl

theorem hexG (n : Nat) (h : n < 16) : ∀ h2 : n < hexS.size, hexS[n]'h2 = hexB n := fun h2 => by
  have h3 := hexB_of n h
  have h4 : hexS.data[n]? = some (hexS.data[n]'h2) := Array.getElem?_eq_getElem h2
  rw [h4] at h3
  injection h3
set_option maxHeartbeats 4000000 in
set_option maxRecDepth 100000 in
theorem pbyte_z (b : Nat) (l : List UInt8) (c : UInt8) (z : Int) (hz : z = (c.toNat : Int)) (w : World) (h : Bd b l w) (hl : l.length + 6 ≤ 140737488355328) :
    Calls Tryz.prog 154 #[bdP b, .int .u8 z] w fun e w' => e = .returned (.tuple #[]) ∧ Bd b (l ++ quo1 c) w' ∧ Below b w w' := by
  have hc : c.toNat < 256 := c.toNat_lt
  have HZ : Hid (z = (c.toNat : Int)) := hz
  have HCC : Hid (c.toNat < 256) := hc
  have H0 : Hid (Bd b l w ∧ Below b w w) := ⟨h, Below.refl _ _⟩
  by_cases h1 : c.toNat = 34 ∨ c.toNat = 92
  · have e1 : quo1 c = [92, c] := by unfold quo1; rw [if_pos h1]
    rw [e1]
    have C1 : Calls Tryz.prog 153 #[bdP b, .int .u8 92] w fun e w' => e = .returned .nilIface ∧ Bd b (l ++ [92]) w' ∧ Below b w w' := bbyte_any b l 92 w h (by omega)
    clear h e1
    rcases h1 with h1 | h1
    · have q1 : (z == 34) = true := by rw [beq_iff_eq]; omega
      clear hz hc
      try clear h1
      try clear h2
      try clear h3
      go_enter Tryz.func154, Tryz.ntmps154
      go_wp2_with fail
      refine C1.mono ?_
      rintro e w1 ⟨rfl, h1', b1⟩
      have H1 : Hid (Bd b (l ++ [92]) w1 ∧ Below b w w1) := ⟨h1', b1⟩
      clear h1' b1 C1 H0
      go_wp2_with fail
      refine (bbyte_z b (l ++ [92]) c z HZ.out w1 H1.out.1 (by simp; omega)).mono ?_
      rintro e w2 ⟨rfl, h2', b2⟩
      have H2 : Hid (Bd b (l ++ [92, c]) w2 ∧ Below b w w2) := ⟨by simpa using h2', H1.out.2.trans b2⟩
      clear h2' b2 H1
      go_wp2_with fail
      go_end0
      exact ⟨rfl, H2.out.1, H2.out.2⟩
    · have q1 : (z == 34) = false := by rw [beq_eq_false_iff_ne]; omega
      have q2 : (z == 92) = true := by rw [beq_iff_eq]; omega
      clear hz hc
      try clear h1
      try clear h2
      try clear h3
      go_enter Tryz.func154, Tryz.ntmps154
      go_wp2_with fail
      refine C1.mono ?_
      rintro e w1 ⟨rfl, h1', b1⟩
      have H1 : Hid (Bd b (l ++ [92]) w1 ∧ Below b w w1) := ⟨h1', b1⟩
      clear h1' b1 C1 H0
      go_wp2_with fail
      refine (bbyte_z b (l ++ [92]) c z HZ.out w1 H1.out.1 (by simp; omega)).mono ?_
      rintro e w2 ⟨rfl, h2', b2⟩
      have H2 : Hid (Bd b (l ++ [92, c]) w2 ∧ Below b w w2) := ⟨by simpa using h2', H1.out.2.trans b2⟩
      clear h2' b2 H1
      go_wp2_with fail
      go_end0
      exact ⟨rfl, H2.out.1, H2.out.2⟩
  · have q1 : (z == 34) = false := by rw [beq_eq_false_iff_ne]; omega
    have q2 : (z == 92) = false := by rw [beq_eq_false_iff_ne]; omega
    by_cases h2 : c.toNat < 32 ∨ 127 ≤ c.toNat
    · have e1 : quo1 c = [92, 117, 48, 48, hexB (c.toNat / 16), hexB (c.toNat % 16)] := by unfold quo1; rw [if_neg h1, if_pos h2]
      rw [e1]
      have C1 : Calls Tryz.prog 159 #[bdP b, .string ⟨#[92, 117, 48, 48]⟩] w fun e w' => e = .returned (.tuple #[.int .i64 4, .nilIface]) ∧ Bd b (l ++ [92, 117, 48, 48]) w' ∧ Below b w w' := bstring_any b l ⟨#[92, 117, 48, 48]⟩ w h (by show l.length + 4 ≤ _; omega)
      clear h e1
      by_cases h3 : c.toNat < 32
      · have q3 : decide (z < 32) = true := by simp; omega
        clear hz hc
        try clear h1
        try clear h2
        try clear h3
        go_enter Tryz.func154, Tryz.ntmps154
        go_wp2_with fail
        refine C1.mono ?_
        rintro e w1 ⟨rfl, h1', b1⟩
        have H1 : Hid (Bd b (l ++ [92, 117, 48, 48]) w1 ∧ Below b w w1) := ⟨by simpa using h1', b1⟩
        clear h1' b1 C1 H0
        obtain ⟨d, hd⟩ : ∃ d : Nat, z / 16 = (d : Int) := ⟨c.toNat / 16, by rw [HZ.out]; omega⟩
        have hd2 : d < 16 := by have := HZ.out; have := HCC.out; omega
        have hd3 : (0 : Int) ≤ (d : Int) ∧ (d : Int) < 16 := by omega
        obtain ⟨m, hm⟩ : ∃ m : Nat, z % 16 = (m : Int) := ⟨c.toNat % 16, by rw [HZ.out]; omega⟩
        have hm2 : m < 16 := by omega
        have hm3 : (0 : Int) ≤ (m : Int) ∧ (m : Int) < 16 := by omega
        have HD : Hid (hexB (c.toNat / 16) = hexB d ∧ hexB (c.toNat % 16) = hexB m) := ⟨by congr 1; have := HZ.out; omega, by congr 1; have := HZ.out; omega⟩
        go_wp2_with fail
        refine (bbyte_z b _ (hexB d) _ (by rw [hexG d hd2]) w1 H1.out.1 (by simp; omega)).mono ?_
        rintro e w2 ⟨rfl, h2', b2⟩
        have H2 : Hid (Bd b (l ++ [92, 117, 48, 48, hexB d]) w2 ∧ Below b w w2) := ⟨by simpa using h2', H1.out.2.trans b2⟩
        clear h2' b2 H1
        go_wp2_with fail
        refine (bbyte_z b _ (hexB m) _ (by rw [hexG m hm2]) w2 H2.out.1 (by simp; omega)).mono ?_
        rintro e w3 ⟨rfl, h3', b3⟩
        have H3 : Hid (Bd b (l ++ [92, 117, 48, 48, hexB (c.toNat / 16), hexB (c.toNat % 16)]) w3 ∧ Below b w w3) := ⟨by rw [HD.out.1, HD.out.2]; simpa using h3', H2.out.2.trans b3⟩
        clear h3' b3 H2
        go_wp2_with fail
        go_end0
        exact ⟨rfl, H3.out.1, H3.out.2⟩
      · have q3 : decide (z < 32) = false := by simp; omega
        have q4 : decide (127 ≤ z) = true := by simp; omega
        clear hz hc
        try clear h1
        try clear h2
        try clear h3
        go_enter Tryz.func154, Tryz.ntmps154
        go_wp2_with fail
        refine C1.mono ?_
        rintro e w1 ⟨rfl, h1', b1⟩
        have H1 : Hid (Bd b (l ++ [92, 117, 48, 48]) w1 ∧ Below b w w1) := ⟨by simpa using h1', b1⟩
        clear h1' b1 C1 H0
        obtain ⟨d, hd⟩ : ∃ d : Nat, z / 16 = (d : Int) := ⟨c.toNat / 16, by rw [HZ.out]; omega⟩
        have hd2 : d < 16 := by have := HZ.out; have := HCC.out; omega
        have hd3 : (0 : Int) ≤ (d : Int) ∧ (d : Int) < 16 := by omega
        obtain ⟨m, hm⟩ : ∃ m : Nat, z % 16 = (m : Int) := ⟨c.toNat % 16, by rw [HZ.out]; omega⟩
        have hm2 : m < 16 := by omega
        have hm3 : (0 : Int) ≤ (m : Int) ∧ (m : Int) < 16 := by omega
        have HD : Hid (hexB (c.toNat / 16) = hexB d ∧ hexB (c.toNat % 16) = hexB m) := ⟨by congr 1; have := HZ.out; omega, by congr 1; have := HZ.out; omega⟩
        go_wp2_with fail
        refine (bbyte_z b _ (hexB d) _ (by rw [hexG d hd2]) w1 H1.out.1 (by simp; omega)).mono ?_
        rintro e w2 ⟨rfl, h2', b2⟩
        have H2 : Hid (Bd b (l ++ [92, 117, 48, 48, hexB d]) w2 ∧ Below b w w2) := ⟨by simpa using h2', H1.out.2.trans b2⟩
        clear h2' b2 H1
        go_wp2_with fail
        refine (bbyte_z b _ (hexB m) _ (by rw [hexG m hm2]) w2 H2.out.1 (by simp; omega)).mono ?_
        rintro e w3 ⟨rfl, h3', b3⟩
        have H3 : Hid (Bd b (l ++ [92, 117, 48, 48, hexB (c.toNat / 16), hexB (c.toNat % 16)]) w3 ∧ Below b w w3) := ⟨by rw [HD.out.1, HD.out.2]; simpa using h3', H2.out.2.trans b3⟩
        clear h3' b3 H2
        go_wp2_with fail
        go_end0
        exact ⟨rfl, H3.out.1, H3.out.2⟩
    · have e1 : quo1 c = [c] := by unfold quo1; rw [if_neg h1, if_neg h2]
      rw [e1]
      have q3 : decide (z < 32) = false := by simp; omega
      have q4 : decide (127 ≤ z) = false := by simp; omega
      have C1 := bbyte_z b l c z hz w h (by omega)
      clear h e1
      clear hz hc
      try clear h1
      try clear h2
      try clear h3
      go_enter Tryz.func154, Tryz.ntmps154
      go_wp2_with fail
      refine C1.mono ?_
      rintro e w1 ⟨rfl, h1', b1⟩
      have H1 : Hid (Bd b (l ++ [c]) w1 ∧ Below b w w1) := ⟨h1', b1⟩
      clear h1' b1 C1 H0
      go_wp2_with fail
      go_end0
      exact ⟨rfl, H1.out.1, H1.out.2⟩

theorem pbyte_any (b : Nat) (l : List UInt8) (c : UInt8) (w : World) (h : Bd b l w) (hl : l.length + 6 ≤ 140737488355328) :
    Calls Tryz.prog 154 #[bdP b, .int .u8 (c.toNat : Int)] w fun e w' => e = .returned (.tuple #[]) ∧ Bd b (l ++ quo1 c) w' ∧ Below b w w' := pbyte_z b l c _ rfl w h hl
theorem quoM_step {l : List UInt8} {i : Nat} {c : UInt8} (h : l[i]? = some c) : quoM (l.take (i + 1)) = quoM (l.take i) ++ quo1 c := by
  rw [List.take_add_one, h]
  unfold quoM
  simp

set_option maxHeartbeats 4000000 in
set_option maxRecDepth 100000 in
theorem text_any (s : ByteArray) (w : World) (hs : 6 * s.size + 2 ≤ 140737488355328) :
    Calls Tryz.prog 123 #[.string s] w fun e w' => e = .returned (.string ⟨(quoT s.data.toList).toArray⟩) ∧ Below w.heap.size w w' := by
  obtain ⟨b, hb⟩ : ∃ b, w.heap.size = b := ⟨_, rfl⟩
  have C0 := bgrow_any b (s.size + 2) w hb (by omega)
  have hsz : ((s.size + 2 : Nat) : Int) = (s.size : Int) + 2 := by omega
  rw [hsz] at C0
  rw [hb]
  clear hsz
  go_enter Tryz.func123, Tryz.ntmps123
  go_wp2_with fail
  refine C0.mono ?_
  rintro e w1 ⟨rfl, h1, b1⟩
  have H1 : Hid (Bd b [] w1 ∧ Below b w w1) := ⟨h1, b1⟩
  clear h1 b1 C0
  have C1 : Calls Tryz.prog 153 #[bdP b, .int .u8 34] w1 fun e w' => e = .returned .nilIface ∧ Bd b [34] w' ∧ Below b w1 w' := bbyte_any b [] 34 w1 H1.out.1 (by simp)
  go_wp2_with fail
  refine C1.mono ?_
  rintro e w2 ⟨rfl, h2, b2⟩
  have H2 : Hid (Bd b (34 :: quoM (s.data.toList.take 0)) w2 ∧ Below b w w2) := ⟨by simpa [quoM] using h2, H1.out.2.trans b2⟩
  clear h2 b2 C1 H1
  go_wp2_with fail
  go_loopg [4, 12] s.size (fun n _ iv wr => ∃ i : Nat, i + n = s.size ∧ iv = .int .i64 i ∧ Hid (Bd b (34 :: quoM (s.data.toList.take i)) wr ∧ Below b w wr))
  case atStart => exact ⟨0, by omega, rfl, H2.out⟩
  case round =>
    clear H2
    obtain ⟨i, hin, rfl, HJ⟩ := hrel
    by_cases hi : i < s.size
    · have hi2 : (i : Int) < (s.size : Int) := by omega
      have HQ : Hid ((34 :: quoM (s.data.toList.take i)).length + 6 ≤ 140737488355328) := by
        have h1 := (quoM_len (s.data.toList.take i)).2
        have h2 : (s.data.toList.take i).length = i := by simp; omega
        show _ ≤ _
        simp only [List.length_cons]
        omega
      go_wp2_with fail
      refine (pbyte_z b _ (s[i]'hi) _ rfl wr HJ.out.1 HQ.out).mono ?_
      rintro e w3 ⟨rfl, h3, b3⟩
      have hx : s.data.toList[i]? = some (s[i]'hi) := by
        rw [Array.getElem?_toList]
        exact Array.getElem?_eq_getElem hi
      have H3 : Hid (Bd b (34 :: quoM (s.data.toList.take (i + 1))) w3 ∧ Below b w w3) := ⟨by rw [quoM_step hx]; simpa using h3, HJ.out.2.trans b3⟩
      clear h3 b3 HJ HQ hx
      go_wp2_with fail
      go_roundg (gk - 1)
      case measure => omega
      case rel => exact ⟨i + 1, by omega, by go_num, H3.out⟩
    · have hd : decide ((i : Int) < (s.size : Int)) = false := by simp; omega
      have HE : Hid (s.data.toList.take i = s.data.toList) := by
        show s.data.toList.take i = s.data.toList
        exact List.take_of_length_le (by simp; omega)
      have HQ : Hid (34 :: quoM s.data.toList ++ [34] = quoT s.data.toList ∧ (34 :: quoM s.data.toList).length + 1 ≤ 140737488355328) := by
        have h1 := (quoM_len s.data.toList).2
        have h2 : s.data.toList.length = s.size := by simp
        refine ⟨rfl, ?_⟩
        simp only [List.length_cons]
        omega
      have HJ2 : Hid (Bd b (34 :: quoM s.data.toList) wr ∧ Below b w wr) := ⟨by rw [← HE.out]; exact HJ.out.1, HJ.out.2⟩
      clear HJ
      have C1 : Calls Tryz.prog 153 #[bdP b, .int .u8 34] wr fun e w' => e = .returned .nilIface ∧ Bd b (34 :: quoM s.data.toList ++ [34]) w' ∧ Below b wr w' := bbyte_any b _ 34 wr HJ2.out.1 HQ.out.2
      go_wp2_with fail
      refine C1.mono ?_
      rintro e w3 ⟨rfl, h3, b3⟩
      have H3 : Hid (Bd b (quoT s.data.toList) w3 ∧ Below b w w3) := ⟨HQ.out.1 ▸ h3, HJ2.out.2.trans b3⟩
      clear h3 b3 C1 HJ2
      go_wp2_with fail
      refine (btext_any b _ w3 H3.out.1).mono ?_
      rintro e w4 ⟨rfl, b4⟩
      have H4 : Hid (Below b w w4) := H3.out.2.trans b4
      clear b4 H3
      go_wp2_with fail
      go_ret
      exact ⟨rfl, H4.out⟩

theorem szA (x : List UInt8) : (⟨x.toArray⟩ : ByteArray).size = x.length := by show x.toArray.size = _; simp
theorem quoU_len (l : List (List UInt8)) (i : Nat) : (quoU (l.take i)).length ≤ (quoU l).length := by
  cases l with
  | nil => simp
  | cons s l =>
    cases i with
    | zero => simp [quoU]
    | succ i =>
      simp only [List.take_succ_cons, quoU, List.length_append]
      have h : l.flatMap (fun t => 44 :: quoT t) = (l.take i).flatMap (fun t => 44 :: quoT t) ++ (l.drop i).flatMap (fun t => 44 :: quoT t) := by
        rw [← List.flatMap_append, List.take_append_drop]
      rw [h, List.length_append]
      omega
theorem quoU_step {l : List (List UInt8)} {i : Nat} {s : List UInt8} (h : l[i]? = some s) : quoU (l.take (i + 1)) = quoU (l.take i) ++ (if i = 0 then quoT s else 44 :: quoT s) := by
  have hi := (List.getElem?_eq_some_iff.1 h).1
  rw [List.take_add_one, h]
  show quoU (l.take i ++ [s]) = _
  rw [quoU_snoc]
  congr 1
  by_cases h0 : i = 0
  · subst h0
    simp
  · rw [if_neg h0, if_neg]
    intro e
    have := congrArg List.length e
    rw [List.length_take, List.length_nil] at this
    omega

set_option maxHeartbeats 4000000 in
set_option maxRecDepth 100000 in
theorem brackets_any (ao : Option Addr) (ca : Nat) (l : List S8) (w : World) (hr : FRow w ao (flatS l)) (hl : l.length ≤ maxLen) (hq : (quoL l).length ≤ 140737488355328) (hs : ∀ s ∈ l, 6 * s.length + 2 ≤ 140737488355328) :
    Calls Tryz.prog 127 #[.slice ao l.length ca] w fun e w' => e = .returned (.string ⟨(quoL l).toArray⟩) ∧ Below w.heap.size w w' := by
  have HL : Hid (l.length ≤ maxLen) := hl
  unfold maxLen at hl
  have HQ : Hid ((quoL l).length ≤ 140737488355328 ∧ quoL l = 91 :: (quoU l ++ [93])) := ⟨hq, by unfold quoL; rw [quoR_U]⟩
  have HS : Hid (∀ s ∈ l, 6 * s.length + 2 ≤ 140737488355328) := hs
  clear hs
  obtain ⟨b, hb⟩ : ∃ b, w.heap.size = b := ⟨_, rfl⟩
  have H0 : Hid (Bd b [] (w.alloc (.cells #[.pointer none, .slice none 0 0] 164)) ∧ Below b w (w.alloc (.cells #[.pointer none, .slice none 0 0] 164)) ∧ w.heap.size = b) := ⟨bd_new hb, hb ▸ (Below.refl _ _).alloc (Nat.le_refl _) _, hb⟩
  have HR : Hid (FRow w ao (flatS l)) := hr
  rw [hb]
  clear hr hq
  have C1 : Calls Tryz.prog 153 #[bdP b, .int .u8 91] (w.alloc (.cells #[.pointer none, .slice none 0 0] 164)) fun e w' => e = .returned .nilIface ∧ Bd b [91] w' ∧ Below b (w.alloc (.cells #[.pointer none, .slice none 0 0] 164)) w' := bbyte_any b [] 91 _ H0.out.1 (by simp)
  go_enter Tryz.func127, Tryz.ntmps127
  go_wp2_with fail
  refine C1.mono ?_
  rintro e w2 ⟨rfl, h2, b2⟩
  have H2 : Hid (Bd b (91 :: quoU (l.take 0)) w2 ∧ Below b w w2) := ⟨by simpa [quoU] using h2, H0.out.2.1.trans b2⟩
  clear h2 b2 C1 hb
  go_wp2_with fail
  go_loopg [4, 5, 9] l.length (fun n _ _ iv wr => ∃ i : Nat, i + n = l.length ∧ iv = .int .i64 i ∧ Hid (Bd b (91 :: quoU (l.take i)) wr ∧ Below b w wr))
  case atStart => exact ⟨0, by omega, rfl, H2.out⟩
  case round =>
    clear H2
    obtain ⟨i, hin, rfl, HJ⟩ := hrel
    by_cases hi : i < l.length
    · have hi2 : (i : Int) < (l.length : Int) := by omega
      obtain ⟨x, hx⟩ : ∃ x, l[i]? = some x := ⟨_, List.getElem?_eq_getElem hi⟩
      obtain ⟨bk, off, rfl, hbk, hc⟩ := HR.out (by rw [flatS_len]; omega)
      have c0 : wr.cell? ⟨bk, off + i, none⟩ = some (.string ⟨x.toArray⟩) := (HJ.out.2.cell (p := ⟨bk, off + i, none⟩) (by show bk < b; have := H0.out.2.2; omega)).trans (hc _ _ (flatS_at hx))
      have HX : Hid (l[i]? = some x ∧ x ∈ l) := ⟨hx, List.mem_of_getElem? hx⟩
      have HN : Hid ((91 :: quoU (l.take i)).length + 1 + (quoT x).length ≤ 140737488355328 ∨ True) := Or.inr trivial
      have HLN : Hid ((91 :: quoU (l.take (i + 1))).length + 1 ≤ 140737488355328) := by
        have h1 := quoU_len l (i + 1)
        have h2 := HQ.out.1
        rw [HQ.out.2] at h2
        simp only [List.length_cons, List.length_append, List.length_nil] at h2
        show _ ≤ _
        simp only [List.length_cons]
        omega
      have HST := quoU_step hx
      clear hx hc
      by_cases h0 : 0 < i
      · have hd0 : decide (0 < i) = true := by simpa using h0
        have hd1 : decide ((0 : Int) < (i : Int)) = true := by simpa using h0
        have HS1 : Hid (quoU (l.take (i + 1)) = quoU (l.take i) ++ (44 :: quoT x)) := by rw [if_neg (by omega)] at HST; exact HST
        clear HST
        have C2 : Calls Tryz.prog 153 #[bdP b, .int .u8 44] wr fun e w' => e = .returned .nilIface ∧ Bd b (91 :: quoU (l.take i) ++ [44]) w' ∧ Below b wr w' := bbyte_any b _ 44 wr HJ.out.1 (by have := HLN.out; rw [HS1.out] at this; simp at this ⊢; omega)
        go_wp2_with fail
        refine C2.mono ?_
        rintro e w3 ⟨rfl, h3, b3⟩
        have H3 : Hid (Bd b (91 :: quoU (l.take i) ++ [44]) w3 ∧ Below b w w3) := ⟨h3, HJ.out.2.trans b3⟩
        clear h3 b3 C2 HJ c0 hd0 hd1
        go_wp2_with fail
        refine (text_any ⟨x.toArray⟩ w3 (by rw [szA]; exact HS.out x HX.out.2)).mono ?_
        rintro e w4 ⟨rfl, b4⟩
        have H4 : Hid (Bd b (91 :: quoU (l.take i) ++ [44]) w4 ∧ Below b w w4) := ⟨H3.out.1.later b4, H3.out.2.trans (b4.mono (Nat.le_of_lt H3.out.1.size))⟩
        clear b4 H3
        go_wp2_with fail
        refine (bstring_any b _ ⟨(quoT x).toArray⟩ w4 H4.out.1 (by rw [szA]; have := HLN.out; rw [HS1.out] at this; simp at this ⊢; omega)).mono ?_
        rintro e w5 ⟨rfl, h5, b5⟩
        have H5 : Hid (Bd b (91 :: quoU (l.take (i + 1))) w5 ∧ Below b w w5) := ⟨by rw [HS1.out]; simpa using h5, H4.out.2.trans b5⟩
        clear h5 b5 H4
        go_wp2_with fail
        go_roundg (gk - 1)
        case measure => omega
        case rel => exact ⟨i + 1, by omega, by go_num, H5.out⟩
      · have hd0 : decide (0 < i) = false := by simpa using h0
        have hd1 : decide ((0 : Int) < (i : Int)) = false := by simpa using h0
        have HS1 : Hid (quoU (l.take (i + 1)) = quoU (l.take i) ++ quoT x) := by rw [if_pos (by omega)] at HST; exact HST
        clear HST
        go_wp2_with fail
        refine (text_any ⟨x.toArray⟩ wr (by rw [szA]; exact HS.out x HX.out.2)).mono ?_
        rintro e w4 ⟨rfl, b4⟩
        have H4 : Hid (Bd b (91 :: quoU (l.take i)) w4 ∧ Below b w w4) := ⟨HJ.out.1.later b4, HJ.out.2.trans (b4.mono (Nat.le_of_lt HJ.out.1.size))⟩
        clear b4 HJ c0 hd0 hd1
        go_wp2_with fail
        refine (bstring_any b _ ⟨(quoT x).toArray⟩ w4 H4.out.1 (by rw [szA]; have := HLN.out; rw [HS1.out] at this; simp at this ⊢; omega)).mono ?_
        rintro e w5 ⟨rfl, h5, b5⟩
        have H5 : Hid (Bd b (91 :: quoU (l.take (i + 1))) w5 ∧ Below b w w5) := ⟨by rw [HS1.out]; simpa using h5, H4.out.2.trans b5⟩
        clear h5 b5 H4
        go_wp2_with fail
        go_roundg (gk - 1)
        case measure => omega
        case rel => exact ⟨i + 1, by omega, by go_num, H5.out⟩
    · have hd : decide ((i : Int) < (l.length : Int)) = false := by simp; omega
      have HE : Hid (l.take i = l) := List.take_of_length_le (by omega)
      have HJ2 : Hid (Bd b (91 :: quoU l) wr ∧ Below b w wr) := ⟨by rw [← HE.out]; rw [HE.out]; have := HJ.out.1; rw [HE.out] at this; exact this, HJ.out.2⟩
      clear HJ
      have C1 : Calls Tryz.prog 153 #[bdP b, .int .u8 93] wr fun e w' => e = .returned .nilIface ∧ Bd b (91 :: quoU l ++ [93]) w' ∧ Below b wr w' := bbyte_any b _ 93 wr HJ2.out.1 (by have := HQ.out.1; rw [HQ.out.2] at this; simp at this ⊢; omega)
      go_wp2_with fail
      refine C1.mono ?_
      rintro e w3 ⟨rfl, h3, b3⟩
      have H3 : Hid (Bd b (quoL l) w3 ∧ Below b w w3) := ⟨by rw [HQ.out.2]; exact h3, HJ2.out.2.trans b3⟩
      clear h3 b3 C1 HJ2
      go_wp2_with fail
      refine (btext_any b _ w3 H3.out.1).mono ?_
      rintro e w4 ⟨rfl, b4⟩
      have H4 : Hid (Below b w w4) := H3.out.2.trans b4
      clear b4 H3
      go_wp2_with fail
      go_ret
      exact ⟨rfl, H4.out⟩

end Go.Proofs.YtgkddimijmnpcaaGreatDoor

/-
  Package cell: Read, by a contract.
-/
namespace Go.Proofs.YtgkddimijmnpcaaGreatDoor
open Go.RowKit Go.Shelf
set_option linter.unusedVariables false
set_option linter.unusedSimpArgs false

/-- A list of bytes as a string, a number: what Read answers. -/
abbrev rdV (c : Ce) : Value := .tuple #[.string ⟨(readC c).1.toArray⟩, .int .i64 (readC c).2]
theorem rdV_of {c : Ce} {l : List UInt8} {n : Int} (h : readC c = (l, n)) : rdV c = .tuple #[.string ⟨l.toArray⟩, .int .i64 n] := by unfold rdV; rw [h]
theorem vals_max {c : Ce} (hf : Fit c) : (valsC c).length ≤ maxLen := by
  have h1 := valsC_len c
  have h2 := hf.1
  have h3 := hf.2.1
  unfold maxLen
  omega
theorem flatT_S (l : List ByteArray) : flatT l = flatS (l.map bytesV) := by
  unfold flatT flatS
  rw [List.map_map]
  rfl
theorem pair_wf {x y : Int} (h : pairB x y = true) : (-9223372036854775807 ≤ x ∧ x ≤ 9223372036854775807) ∧ (-9223372036854775807 ≤ y ∧ y ≤ 9223372036854775807) := by
  unfold pairB partB at h
  simp only [Bool.and_eq_true, decide_eq_true_eq] at h
  omega

theorem num_text (x y : Int) : ((((str [91] ++ str (Lib.itoa x)) ++ str [44]) ++ str (Lib.itoa y)) ++ str [93]) = str (91 :: (Lib.itoa x ++ (44 :: (Lib.itoa y ++ [93])))) := by
  rw [join2s, join2s, join2s, join2s]
  simp
set_option maxHeartbeats 2000000 in
set_option maxRecDepth 100000 in
theorem readW_any (c : Ce) (p : Pl) (w : World) (hk : c.kind = 0) (hz : RdFit c) : Calls Tryz.prog 79 #[ceV c p] w fun e w' => e = .returned (rdV c) ∧ Below w.heap.size w w' := by
  obtain ⟨ck, cs, ct, cn, cv, cre, cim, ce, cl, cse⟩ := c
  simp only at hk
  subst hk
  have B0 : Hid (Below w.heap.size w (w.alloc (.cells (ceL ⟨0, cs, ct, cn, cv, cre, cim, ce, cl, cse⟩ p).toArray 30))) := (Below.refl _ _).alloc (Nat.le_refl _) _
  cases cs with
  | false =>
    have hr : readC ⟨0, false, ct, cn, cv, cre, cim, ce, cl, cse⟩ = (nul, 0) := rfl
    rw [rdV_of hr]
    clear hr
    go_enter Tryz.func79, Tryz.ntmps79
    go_wp2
    go_ret2
    exact ⟨rfl, B0.out⟩
  | true =>
    have hr : readC ⟨0, true, ct, cn, cv, cre, cim, ce, cl, cse⟩ = (quoT (bytesV cv), 0) := rfl
    rw [rdV_of hr]
    clear hr
    have CT := fun W => text_any cv W hz.1
    obtain ⟨h, hh⟩ : ∃ h, w.heap.size = h := ⟨_, rfl⟩
    rw [hh] at B0 ⊢
    go_enter Tryz.func79, Tryz.ntmps79
    go_wp2_with fail
    refine (CT _).mono ?_
    rintro e w1 ⟨rfl, b1⟩
    have H1 : Hid (Below h w w1) := B0.out.trans (b1.mono (by simp; omega))
    clear b1 B0
    go_wp2_with fail
    go_ret2
    exact ⟨rfl, H1.out⟩

set_option maxHeartbeats 2000000 in
set_option maxRecDepth 100000 in
theorem readN_any (c : Ce) (p : Pl) (w : World) (hr : CRow w c p) (hk : c.kind = 1) (ht : Tab w) : Calls Tryz.prog 82 #[ceV c p] w fun e w' => e = .returned (rdV c) ∧ Below w.heap.size w w' := by
  obtain ⟨h, hh⟩ : ∃ h, w.heap.size = h := ⟨_, rfl⟩
  have H0 : Hid (CBox w h c p (w.alloc (.cells (ceL c p).toArray 30)) ∧ Tab (w.alloc (.cells (ceL c p).toArray 30))) := ⟨cbox_new hh hr _, ht.later ((Below.refl _ _).alloc (Nat.le_refl _) _)⟩
  rw [hh]
  have HK : Hid (c.kind = 1) := hk
  clear hr hk ht
  go_enter Tryz.func82, Tryz.ntmps82
  go_upto_region 1 with fail
  generalize hW : w.alloc (.cells (ceL c p).toArray 30) = w1 at H0 ⊢
  clear hW hh
  have lc := ld_ce H0.out.1.1
  cases hp : pairB c.re c.im with
  | false =>
    have HRR : Hid (readC c = ([], 1200)) := (show readC c = ([], 1200) from by unfold readC; rw [if_neg (by rw [HK.out]; decide), if_pos HK.out, hp]; rfl)
    go_wp2_with (refine wpList_ldt lc rfl rfl rfl ?_)
    refine (mnum_any c p 0 w1).mono ?_
    rw [hp]
    clear hp
    rintro e w2 ⟨rfl, b2⟩
    have H2 : Hid (Below h w w2) := (H0.out.1.later b2).2.2.1
    clear b2 H0 lc
    go_wp2_with fail
    go_ret2
    exact ⟨by rw [rdV_of HRR.out]; rfl, H2.out⟩
  | true =>
    have HP := pair_wf hp
    have HPP : Hid (pairB c.re c.im = true) := hp
    go_wp2_with (refine wpList_ldt lc rfl rfl rfl ?_)
    refine (mnum_any c p 0 w1).mono ?_
    rw [hp]
    clear hp
    rintro e w2 ⟨rfl, b2⟩
    have H2 : Hid (CBox w h c p w2 ∧ Tab w2) := ⟨H0.out.1.later b2, H0.out.2.later b2⟩
    clear b2 H0 lc
    have x5 := H2.out.1.1.at 5 rfl
    have CI := itoa_any c.re w2 (by omega) (by omega) H2.out.2
    go_wp2_with fail
    refine CI.mono ?_
    rintro e w3 ⟨rfl, b3⟩
    have H3 : Hid (CBox w h c p w3 ∧ Tab w3) := ⟨H2.out.1.later b3, H2.out.2.later b3⟩
    clear b3 H2 x5 CI
    have x6 := H3.out.1.1.at 6 rfl
    have hlx := Lib.itoa_length_le c.re (by omega) (by omega)
    have hly := Lib.itoa_length_le c.im (by omega) (by omega)
    by_cases hi : c.im = 0
    · have HRR : Hid (readC c = (Lib.itoa c.re, 0)) := (show readC c = (Lib.itoa c.re, 0) from by unfold readC; rw [if_neg (by rw [HK.out]; decide), if_pos HK.out, HPP.out, if_pos rfl, if_pos hi])
      have hd : (c.im == 0) = true := by simpa using hi
      clear hi
      go_wp2_with fail
      go_ret2
      exact ⟨by rw [rdV_of HRR.out]; rfl, H3.out.1.2.2.1⟩
    · have HRR : Hid (readC c = (91 :: (Lib.itoa c.re ++ (44 :: (Lib.itoa c.im ++ [93]))), 0)) := (show readC c = (91 :: (Lib.itoa c.re ++ (44 :: (Lib.itoa c.im ++ [93]))), 0) from by unfold readC; rw [if_neg (by rw [HK.out]; decide), if_pos HK.out, HPP.out, if_pos rfl, if_neg hi])
      have hd : (c.im == 0) = false := by simpa using hi
      have CI := itoa_any c.im w3 (by omega) (by omega) H3.out.2
      clear hi
      go_wp2_with fail
      refine CI.mono ?_
      rintro e w4 ⟨rfl, b4⟩
      have H4 : Hid (Below h w w4) := (H3.out.1.later b4).2.2.1
      clear b4 H3 x6 CI
      go_wp2_with fail
      go_ret2
      exact ⟨by rw [rdV_of HRR.out]; exact congrArg (fun s => Ending.returned (.tuple #[.string s, .int .i64 0])) (num_text c.re c.im), H4.out⟩

theorem vals12_any (c : Ce) (p : Pl) (w : World) (hr : CRow w c p) (hf : Fit c) (hk : c.kind = 2) :
    Calls Tryz.prog 126 #[ceV c p] w fun e w' => ∃ ao ca, e = .returned (.tuple #[.slice ao (valsC c).length ca, .int .i64 0]) ∧ FRow w' ao (flatS (valsC c)) ∧ Below w.heap.size w w' := by
  have e1 : valsC c = ansV c := by unfold valsC; rw [if_pos hk]
  have e2 : numQ c = 0 := by unfold numQ; rw [if_pos (by simpa using hk)]
  rw [e1]
  refine (vals_all c p w hr hf).mono ?_
  rw [e2]
  rintro e w1 ⟨ao, ca, rfl, o, b⟩
  exact ⟨ao, ca, rfl, o.row, b⟩
theorem xvals12_any (c : Ce) (p : Pl) (w : World) (hr : CRow w c p) (hf : Fit c) (hk : c.kind = 3) :
    Calls Tryz.prog 129 #[ceV c p] w fun e w' => ∃ ao ca, e = .returned (.tuple #[.slice ao (valsC c).length ca, .int .i64 0]) ∧ FRow w' ao (flatS (valsC c)) ∧ Below w.heap.size w w' := by
  have e1 : valsC c = (ansX c).map bytesV := by unfold valsC; rw [if_neg (by omega)]
  have e2 : numK c = 0 := by unfold numK; rw [if_pos hk]
  rw [e1, ← flatT_S, List.length_map]
  refine (xvals_all c p w hr hf).mono ?_
  rw [e2]
  rintro e w1 ⟨ao, ca, rfl, o, b⟩
  exact ⟨ao, ca, rfl, o.row, b⟩

set_option maxHeartbeats 2000000 in
set_option maxRecDepth 100000 in
theorem readE_any (c : Ce) (p : Pl) (w : World) (hr : CRow w c p) (hf : Fit c) (hk : c.kind = 2) (hz : RdFit c) : Calls Tryz.prog 85 #[ceV c p] w fun e w' => e = .returned (rdV c) ∧ Below w.heap.size w w' := by
  obtain ⟨h, hh⟩ : ∃ h, w.heap.size = h := ⟨_, rfl⟩
  have H0 : Hid (CBox w h c p (w.alloc (.cells (ceL c p).toArray 30))) := cbox_new hh hr _
  rw [hh]
  have HRR : Hid (readC c = (quoL (valsC c), 0)) := (show readC c = _ from by unfold readC; rw [if_neg (by omega), if_neg (by omega), if_pos (by omega)])
  have HF : Hid (Fit c ∧ c.kind = 2 ∧ RdFit c) := ⟨hf, hk, hz⟩
  clear hr hf hk hz
  go_enter Tryz.func85, Tryz.ntmps85
  go_upto_region 1 with fail
  generalize hW : w.alloc (.cells (ceL c p).toArray 30) = w1 at H0 ⊢
  clear hW hh
  have lc := ld_ce H0.out.1
  go_wp2_with (refine wpList_ldt lc rfl rfl rfl ?_)
  refine (vals12_any c p w1 H0.out.2.1 HF.out.1 HF.out.2.1).mono ?_
  rintro e w2 ⟨ao, ca, rfl, o2, b2⟩
  have H2 : Hid (Below h w w2 ∧ FRow w2 ao (flatS (valsC c)) ∧ h ≤ w2.heap.size) := ⟨(H0.out.later b2).2.2.1, o2, (H0.out.later b2).2.2.2⟩
  clear o2 b2 H0 lc
  go_wp2_with fail
  refine (brackets_any ao ca (valsC c) w2 H2.out.2.1 (vals_max HF.out.1) HF.out.2.2.2.1 HF.out.2.2.2.2).mono ?_
  rintro e w3 ⟨rfl, b3⟩
  have H3 : Hid (Below h w w3) := H2.out.1.trans (b3.mono H2.out.2.2)
  clear b3 H2
  go_wp2_with fail
  go_ret2
  exact ⟨by rw [rdV_of HRR.out]; rfl, H3.out⟩

set_option maxHeartbeats 2000000 in
set_option maxRecDepth 100000 in
theorem readL_any (c : Ce) (p : Pl) (w : World) (hr : CRow w c p) (hf : Fit c) (hk : c.kind = 3) (hz : RdFit c) : Calls Tryz.prog 88 #[ceV c p] w fun e w' => e = .returned (rdV c) ∧ Below w.heap.size w w' := by
  obtain ⟨h, hh⟩ : ∃ h, w.heap.size = h := ⟨_, rfl⟩
  have H0 : Hid (CBox w h c p (w.alloc (.cells (ceL c p).toArray 30))) := cbox_new hh hr _
  rw [hh]
  have HRR : Hid (readC c = (quoL (valsC c), 0)) := (show readC c = _ from by unfold readC; rw [if_neg (by omega), if_neg (by omega), if_pos (by omega)])
  have HF : Hid (Fit c ∧ c.kind = 3 ∧ RdFit c) := ⟨hf, hk, hz⟩
  clear hr hf hk hz
  go_enter Tryz.func88, Tryz.ntmps88
  go_upto_region 1 with fail
  generalize hW : w.alloc (.cells (ceL c p).toArray 30) = w1 at H0 ⊢
  clear hW hh
  have lc := ld_ce H0.out.1
  go_wp2_with (refine wpList_ldt lc rfl rfl rfl ?_)
  refine (xvals12_any c p w1 H0.out.2.1 HF.out.1 HF.out.2.1).mono ?_
  rintro e w2 ⟨ao, ca, rfl, o2, b2⟩
  have H2 : Hid (Below h w w2 ∧ FRow w2 ao (flatS (valsC c)) ∧ h ≤ w2.heap.size) := ⟨(H0.out.later b2).2.2.1, o2, (H0.out.later b2).2.2.2⟩
  clear o2 b2 H0 lc
  go_wp2_with fail
  refine (brackets_any ao ca (valsC c) w2 H2.out.2.1 (vals_max HF.out.1) HF.out.2.2.2.1 HF.out.2.2.2.2).mono ?_
  rintro e w3 ⟨rfl, b3⟩
  have H3 : Hid (Below h w w3) := H2.out.1.trans (b3.mono H2.out.2.2)
  clear b3 H2
  go_wp2_with fail
  go_ret2
  exact ⟨by rw [rdV_of HRR.out]; rfl, H3.out⟩

set_option maxHeartbeats 2000000 in
set_option maxRecDepth 100000 in
theorem cread_0 (c : Ce) (p : Pl) (w : World) (hr : CRow w c p) (hf : Fit c) (hk : c.kind = 0) (hz : RdFit c) (ht : Tab w) : Calls Tryz.prog 15 #[ceV c p] w fun e w' => e = .returned (rdV c) ∧ Below w.heap.size w w' := by
  have HF : Hid (Fit c ∧ c.kind = 0 ∧ RdFit c) := ⟨hf, hk, hz⟩
  have e0 : rulL c.kind = [fnV 77, fnV 78, fnV 79] := by rw [hk]; rfl
  have e1 : knoB c.kind = true := by rw [hk]; rfl
  have CR := rules_any c.kind
  rw [e0, e1] at CR
  obtain ⟨h, hh⟩ : ∃ h, w.heap.size = h := ⟨_, rfl⟩
  have H0 : Hid (CBox w h c p (w.alloc (.cells (ceL c p).toArray 30)) ∧ Tab (w.alloc (.cells (ceL c p).toArray 30))) := ⟨cbox_new hh hr _, ht.later ((Below.refl _ _).alloc (Nat.le_refl _) _)⟩
  rw [hh]
  clear hr hf hk hz ht e0 e1
  go_enter Tryz.func15, Tryz.ntmps15
  go_upto_region 1 with fail
  generalize hW : w.alloc (.cells (ceL c p).toArray 30) = w1 at H0 ⊢
  clear hW hh
  have y0 : w1.cell? ⟨h, 0, none⟩ = some (.int .i64 c.kind) := H0.out.1.1.at 0 rfl
  go_wp2_with fail
  refine (CR w1).mono ?_
  rintro e w2 ⟨rfl, b2⟩
  have H2 : Hid (CBox w h c p w2 ∧ Tab w2) := ⟨H0.out.1.later b2, H0.out.2.later b2⟩
  obtain ⟨g, hg⟩ : ∃ g, w2.heap.size = g := ⟨_, rfl⟩
  have H3 : Hid (CBox w h c p (w2.alloc (.cells #[fnV 77, fnV 78, fnV 79] 77)) ∧ Tab (w2.alloc (.cells #[fnV 77, fnV 78, fnV 79] 77)) ∧ Has (w2.alloc (.cells #[fnV 77, fnV 78, fnV 79] 77)) g [fnV 77, fnV 78, fnV 79]) := ⟨H2.out.1.alloc _, H2.out.2.later ((Below.refl _ _).alloc (Nat.le_refl _) _), hg ▸ has_new w2 _ _⟩
  clear H0 b2 y0 CR H2
  go_upto_region 4 with fail
  generalize hW : w2.alloc (.cells #[fnV 77, fnV 78, fnV 79] 77) = w3 at H3 ⊢
  clear hW
  try simp only [hg]
  clear hg
  have lc := ld_ce H3.out.1.1
  have q2 : w3.cell? ⟨g, 2, none⟩ = some (fnV 79) := H3.out.2.2.at 2 rfl
  go_wp2_with (refine wpList_ldt lc rfl rfl rfl ?_)
  refine (readW_any c p w3 HF.out.2.1 HF.out.2.2).mono ?_
  rintro e w4 ⟨rfl, b4⟩
  have H4 : Hid (Below h w w4) := (H3.out.1.later b4).2.2.1
  clear b4 H3 lc q2
  go_wp2_with fail
  go_ret2
  exact ⟨rfl, H4.out⟩

set_option maxHeartbeats 2000000 in
set_option maxRecDepth 100000 in
theorem cread_1 (c : Ce) (p : Pl) (w : World) (hr : CRow w c p) (hf : Fit c) (hk : c.kind = 1) (hz : RdFit c) (ht : Tab w) : Calls Tryz.prog 15 #[ceV c p] w fun e w' => e = .returned (rdV c) ∧ Below w.heap.size w w' := by
  have HF : Hid (Fit c ∧ c.kind = 1 ∧ RdFit c) := ⟨hf, hk, hz⟩
  have e0 : rulL c.kind = [fnV 80, fnV 81, fnV 82] := by rw [hk]; rfl
  have e1 : knoB c.kind = true := by rw [hk]; rfl
  have CR := rules_any c.kind
  rw [e0, e1] at CR
  obtain ⟨h, hh⟩ : ∃ h, w.heap.size = h := ⟨_, rfl⟩
  have H0 : Hid (CBox w h c p (w.alloc (.cells (ceL c p).toArray 30)) ∧ Tab (w.alloc (.cells (ceL c p).toArray 30))) := ⟨cbox_new hh hr _, ht.later ((Below.refl _ _).alloc (Nat.le_refl _) _)⟩
  rw [hh]
  clear hr hf hk hz ht e0 e1
  go_enter Tryz.func15, Tryz.ntmps15
  go_upto_region 1 with fail
  generalize hW : w.alloc (.cells (ceL c p).toArray 30) = w1 at H0 ⊢
  clear hW hh
  have y0 : w1.cell? ⟨h, 0, none⟩ = some (.int .i64 c.kind) := H0.out.1.1.at 0 rfl
  go_wp2_with fail
  refine (CR w1).mono ?_
  rintro e w2 ⟨rfl, b2⟩
  have H2 : Hid (CBox w h c p w2 ∧ Tab w2) := ⟨H0.out.1.later b2, H0.out.2.later b2⟩
  obtain ⟨g, hg⟩ : ∃ g, w2.heap.size = g := ⟨_, rfl⟩
  have H3 : Hid (CBox w h c p (w2.alloc (.cells #[fnV 80, fnV 81, fnV 82] 77)) ∧ Tab (w2.alloc (.cells #[fnV 80, fnV 81, fnV 82] 77)) ∧ Has (w2.alloc (.cells #[fnV 80, fnV 81, fnV 82] 77)) g [fnV 80, fnV 81, fnV 82]) := ⟨H2.out.1.alloc _, H2.out.2.later ((Below.refl _ _).alloc (Nat.le_refl _) _), hg ▸ has_new w2 _ _⟩
  clear H0 b2 y0 CR H2
  go_upto_region 4 with fail
  generalize hW : w2.alloc (.cells #[fnV 80, fnV 81, fnV 82] 77) = w3 at H3 ⊢
  clear hW
  try simp only [hg]
  clear hg
  have lc := ld_ce H3.out.1.1
  have q2 : w3.cell? ⟨g, 2, none⟩ = some (fnV 82) := H3.out.2.2.at 2 rfl
  go_wp2_with (refine wpList_ldt lc rfl rfl rfl ?_)
  refine (readN_any c p w3 H3.out.1.2.1 HF.out.2.1 H3.out.2.1).mono ?_
  rintro e w4 ⟨rfl, b4⟩
  have H4 : Hid (Below h w w4) := (H3.out.1.later b4).2.2.1
  clear b4 H3 lc q2
  go_wp2_with fail
  go_ret2
  exact ⟨rfl, H4.out⟩

set_option maxHeartbeats 2000000 in
set_option maxRecDepth 100000 in
theorem cread_2 (c : Ce) (p : Pl) (w : World) (hr : CRow w c p) (hf : Fit c) (hk : c.kind = 2) (hz : RdFit c) (ht : Tab w) : Calls Tryz.prog 15 #[ceV c p] w fun e w' => e = .returned (rdV c) ∧ Below w.heap.size w w' := by
  have HF : Hid (Fit c ∧ c.kind = 2 ∧ RdFit c) := ⟨hf, hk, hz⟩
  have e0 : rulL c.kind = [fnV 83, fnV 84, fnV 85] := by rw [hk]; rfl
  have e1 : knoB c.kind = true := by rw [hk]; rfl
  have CR := rules_any c.kind
  rw [e0, e1] at CR
  obtain ⟨h, hh⟩ : ∃ h, w.heap.size = h := ⟨_, rfl⟩
  have H0 : Hid (CBox w h c p (w.alloc (.cells (ceL c p).toArray 30)) ∧ Tab (w.alloc (.cells (ceL c p).toArray 30))) := ⟨cbox_new hh hr _, ht.later ((Below.refl _ _).alloc (Nat.le_refl _) _)⟩
  rw [hh]
  clear hr hf hk hz ht e0 e1
  go_enter Tryz.func15, Tryz.ntmps15
  go_upto_region 1 with fail
  generalize hW : w.alloc (.cells (ceL c p).toArray 30) = w1 at H0 ⊢
  clear hW hh
  have y0 : w1.cell? ⟨h, 0, none⟩ = some (.int .i64 c.kind) := H0.out.1.1.at 0 rfl
  go_wp2_with fail
  refine (CR w1).mono ?_
  rintro e w2 ⟨rfl, b2⟩
  have H2 : Hid (CBox w h c p w2 ∧ Tab w2) := ⟨H0.out.1.later b2, H0.out.2.later b2⟩
  obtain ⟨g, hg⟩ : ∃ g, w2.heap.size = g := ⟨_, rfl⟩
  have H3 : Hid (CBox w h c p (w2.alloc (.cells #[fnV 83, fnV 84, fnV 85] 77)) ∧ Tab (w2.alloc (.cells #[fnV 83, fnV 84, fnV 85] 77)) ∧ Has (w2.alloc (.cells #[fnV 83, fnV 84, fnV 85] 77)) g [fnV 83, fnV 84, fnV 85]) := ⟨H2.out.1.alloc _, H2.out.2.later ((Below.refl _ _).alloc (Nat.le_refl _) _), hg ▸ has_new w2 _ _⟩
  clear H0 b2 y0 CR H2
  go_upto_region 4 with fail
  generalize hW : w2.alloc (.cells #[fnV 83, fnV 84, fnV 85] 77) = w3 at H3 ⊢
  clear hW
  try simp only [hg]
  clear hg
  have lc := ld_ce H3.out.1.1
  have q2 : w3.cell? ⟨g, 2, none⟩ = some (fnV 85) := H3.out.2.2.at 2 rfl
  go_wp2_with (refine wpList_ldt lc rfl rfl rfl ?_)
  refine (readE_any c p w3 H3.out.1.2.1 HF.out.1 HF.out.2.1 HF.out.2.2).mono ?_
  rintro e w4 ⟨rfl, b4⟩
  have H4 : Hid (Below h w w4) := (H3.out.1.later b4).2.2.1
  clear b4 H3 lc q2
  go_wp2_with fail
  go_ret2
  exact ⟨rfl, H4.out⟩

set_option maxHeartbeats 2000000 in
set_option maxRecDepth 100000 in
theorem cread_3 (c : Ce) (p : Pl) (w : World) (hr : CRow w c p) (hf : Fit c) (hk : c.kind = 3) (hz : RdFit c) (ht : Tab w) : Calls Tryz.prog 15 #[ceV c p] w fun e w' => e = .returned (rdV c) ∧ Below w.heap.size w w' := by
  have HF : Hid (Fit c ∧ c.kind = 3 ∧ RdFit c) := ⟨hf, hk, hz⟩
  have e0 : rulL c.kind = [fnV 86, fnV 87, fnV 88] := by rw [hk]; rfl
  have e1 : knoB c.kind = true := by rw [hk]; rfl
  have CR := rules_any c.kind
  rw [e0, e1] at CR
  obtain ⟨h, hh⟩ : ∃ h, w.heap.size = h := ⟨_, rfl⟩
  have H0 : Hid (CBox w h c p (w.alloc (.cells (ceL c p).toArray 30)) ∧ Tab (w.alloc (.cells (ceL c p).toArray 30))) := ⟨cbox_new hh hr _, ht.later ((Below.refl _ _).alloc (Nat.le_refl _) _)⟩
  rw [hh]
  clear hr hf hk hz ht e0 e1
  go_enter Tryz.func15, Tryz.ntmps15
  go_upto_region 1 with fail
  generalize hW : w.alloc (.cells (ceL c p).toArray 30) = w1 at H0 ⊢
  clear hW hh
  have y0 : w1.cell? ⟨h, 0, none⟩ = some (.int .i64 c.kind) := H0.out.1.1.at 0 rfl
  go_wp2_with fail
  refine (CR w1).mono ?_
  rintro e w2 ⟨rfl, b2⟩
  have H2 : Hid (CBox w h c p w2 ∧ Tab w2) := ⟨H0.out.1.later b2, H0.out.2.later b2⟩
  obtain ⟨g, hg⟩ : ∃ g, w2.heap.size = g := ⟨_, rfl⟩
  have H3 : Hid (CBox w h c p (w2.alloc (.cells #[fnV 86, fnV 87, fnV 88] 77)) ∧ Tab (w2.alloc (.cells #[fnV 86, fnV 87, fnV 88] 77)) ∧ Has (w2.alloc (.cells #[fnV 86, fnV 87, fnV 88] 77)) g [fnV 86, fnV 87, fnV 88]) := ⟨H2.out.1.alloc _, H2.out.2.later ((Below.refl _ _).alloc (Nat.le_refl _) _), hg ▸ has_new w2 _ _⟩
  clear H0 b2 y0 CR H2
  go_upto_region 4 with fail
  generalize hW : w2.alloc (.cells #[fnV 86, fnV 87, fnV 88] 77) = w3 at H3 ⊢
  clear hW
  try simp only [hg]
  clear hg
  have lc := ld_ce H3.out.1.1
  have q2 : w3.cell? ⟨g, 2, none⟩ = some (fnV 88) := H3.out.2.2.at 2 rfl
  go_wp2_with (refine wpList_ldt lc rfl rfl rfl ?_)
  refine (readL_any c p w3 H3.out.1.2.1 HF.out.1 HF.out.2.1 HF.out.2.2).mono ?_
  rintro e w4 ⟨rfl, b4⟩
  have H4 : Hid (Below h w w4) := (H3.out.1.later b4).2.2.1
  clear b4 H3 lc q2
  go_wp2_with fail
  go_ret2
  exact ⟨rfl, H4.out⟩

set_option maxHeartbeats 2000000 in
set_option maxRecDepth 100000 in
theorem cread_9 (c : Ce) (p : Pl) (w : World) (hr : CRow w c p) (hk : knoB c.kind = false) : Calls Tryz.prog 15 #[ceV c p] w fun e w' => e = .returned (rdV c) ∧ Below w.heap.size w w' := by
  have hk2 := hk
  unfold knoB at hk2
  rw [decide_eq_false_iff_not] at hk2
  have HRR : Hid (readC c = ([], 1200)) := (show readC c = _ from by unfold readC; rw [if_neg (by omega), if_neg (by omega), if_neg (by omega)])
  have e0 : rulL c.kind = [.nilFunc, .nilFunc, .nilFunc] := by
    unfold rulL
    rw [if_neg (by omega), if_neg (by omega), if_neg (by omega), if_neg (by omega)]
  have CR := rules_any c.kind
  rw [e0, hk] at CR
  obtain ⟨h, hh⟩ : ∃ h, w.heap.size = h := ⟨_, rfl⟩
  have H0 : Hid (CBox w h c p (w.alloc (.cells (ceL c p).toArray 30))) := cbox_new hh hr _
  rw [hh]
  clear hr hk e0 hk2
  go_enter Tryz.func15, Tryz.ntmps15
  go_upto_region 1 with fail
  generalize hW : w.alloc (.cells (ceL c p).toArray 30) = w1 at H0 ⊢
  clear hW hh
  have y0 : w1.cell? ⟨h, 0, none⟩ = some (.int .i64 c.kind) := H0.out.1.at 0 rfl
  go_wp2_with fail
  refine (CR w1).mono ?_
  rintro e w2 ⟨rfl, b2⟩
  have H2 : Hid (CBox w h c p w2) := H0.out.later b2
  clear H0 b2 y0 CR
  go_wp2_with fail
  go_ret2
  exact ⟨by rw [rdV_of HRR.out]; rfl, (H2.out.alloc _).2.2.1⟩

/-- Read, at whatever comes whose text is no longer than memory. -/
theorem cread_any (c : Ce) (p : Pl) (w : World) (hr : CRow w c p) (hf : Fit c) (hz : RdFit c) (ht : Tab w) : Calls Tryz.prog 15 #[ceV c p] w fun e w' => e = .returned (rdV c) ∧ Below w.heap.size w w' := by
  by_cases k0 : c.kind = 0
  · exact cread_0 c p w hr hf k0 hz ht
  by_cases k1 : c.kind = 1
  · exact cread_1 c p w hr hf k1 hz ht
  by_cases k2 : c.kind = 2
  · exact cread_2 c p w hr hf k2 hz ht
  by_cases k3 : c.kind = 3
  · exact cread_3 c p w hr hf k3 hz ht
  exact cread_9 c p w hr (by unfold knoB; rw [decide_eq_false_iff_not]; omega)

end Go.Proofs.YtgkddimijmnpcaaGreatDoor

/-
  Two operations of one time, in both rows, plain mathematics: what Apply answers of the law CellTwo's operations.
-/
namespace Go.Proofs.YtgkddimijmnpcaaGreatDoor
open Go.RowKit Go.Shelf
set_option linter.unusedVariables false
set_option linter.unusedSimpArgs false

/-- What Apply answers, step by step. -/
theorem appC_ok {c : Ce} {o : O14} {n : Int} (hc : cmayB c n = true) (ho : mayO o n = true) (hk : kindN o.kind = c.kind) (he : (effC c o).2 = 0) :
    appC c o n = (seeC (effC c o).1 (o.dn, o.ds), 0) ∧ cmayB (seeC (effC c o).1 (o.dn, o.ds)) n = true := by
  refine ⟨?_, (keeps hc ho hk he).1⟩
  unfold appC
  rw [if_pos (by rw [hc, ho]; rfl), if_pos hk, if_pos he]
def sT : ByteArray := ⟨#[84]⟩
def sI : ByteArray := ⟨#[105]⟩
def sF : ByteArray := ⟨#[102]⟩
/-- What New answers. -/
def newK (k n : Int) : Ce := ⟨k, false, 0, 0, ByteArray.empty, 0, 0, [], [], List.replicate n.toNat 0⟩
/-- The law's operations: the first; one of each node behind it. -/
def opB (k : Nat) (v : ByteArray) : O14 := ⟨0, 1, 1, [0, 0], [0, 1, 2, 4].getD k 0, sT, sI, sF, if k = 1 then noS else v, 0, 0, 0, 0, []⟩
def opA (k : Nat) (w : ByteArray) (x : Int) : O14 := ⟨0, 2, 2, [1, 0], [0, 1, 2, 4].getD k 0, sT, sI, sF, if k = 1 then noS else w, if k = 1 then x % 1024 else 0, 0, 0, if k = 3 ∧ x % 2 = 1 then 1 else 0, []⟩
def opC (k : Nat) (v : ByteArray) (x : Int) : O14 := ⟨1, 1, 2, [1, 0], if k = 2 ∧ x % 2 = 1 then 3 else if k = 3 ∧ x % 2 = 1 then 5 else [0, 1, 2, 4].getD k 0, sT, sI, sF, if k = 1 ∨ x % 2 = 1 ∧ 2 ≤ k then noS else v, 0, if k = 1 then -(x % 1024) else 0, 0, if k = 3 ∧ x % 2 = 1 then 1 else 0, if k = 2 ∧ x % 2 = 1 then [(0, 1)] else []⟩
theorem names : nameB sT = true ∧ nameB sF = true := by decide
theorem app_to {c d d2 : Ce} {o : O14} {n : Int} (hc : cmayB c n = true) (ho : mayO o n = true) (hk : kindN o.kind = c.kind) (he : effC c o = (d, 0)) (hd : seeC d (o.dn, o.ds) = d2) :
    appC c o n = (d2, 0) ∧ cmayB d2 n = true := by
  have := appC_ok hc ho hk (by rw [he])
  rw [he] at this
  subst hd
  exact this
theorem new_may (k n : Nat) (hk : k < 4) (hn : 1 ≤ n ∧ n ≤ 16) : cmayB (newK k n) n = true := by
  have hv : vecB (List.replicate n (0 : Int)) (n : Int) = true := by
    unfold vecB
    simp only [Bool.and_eq_true, decide_eq_true_eq, List.all_eq_true, List.length_replicate]
    refine ⟨⟨by omega, by omega, trivial⟩, fun x hx => ?_⟩
    rw [(List.mem_replicate.1 hx).2]
    omega
  unfold cmayB newK
  simp only [Int.toNat_natCast, hv, Bool.true_and]
  have : k = 0 ∨ k = 1 ∨ k = 2 ∨ k = 3 := by omega
  rcases this with rfl | rfl | rfl | rfl <;> rfl
/-- The operations may be. -/
theorem opB_may (k : Nat) (v : ByteArray) (hk : k < 4) (hv : v.size ≤ 256) : mayO (opB k v) 2 = true := by
  have h1 : whereB (opB k v) = true := by
    unfold whereB opB
    simp only [names.1, names.2, Bool.true_and]
    rfl
  have h2 : whenB (opB k v) 2 = true := by
    unfold whenB opB
    rfl
  unfold mayO
  rw [h1, h2]
  have h3 : decide (v.size ≤ 256) = true := decide_eq_true hv
  have : k = 0 ∨ k = 1 ∨ k = 2 ∨ k = 3 := by omega
  unfold whatB opB
  rcases this with rfl | rfl | rfl | rfl
  · show (decide (v.size ≤ 256) && _) = true
    rw [h3]
    rfl
  · rfl
  · show (decide (v.size ≤ 256) && _) = true
    rw [h3]
    rfl
  · show (decide (v.size ≤ 256) && _) = true
    rw [h3]
    rfl
theorem opA_may (k : Nat) (v : ByteArray) (x : Int) (hk : k < 4) (hv : v.size ≤ 256) : mayO (opA k v x) 2 = true := by
  have h1 : whereB (opA k v x) = true := by
    unfold whereB opA
    simp only [names.1, names.2, Bool.true_and]
    rfl
  have h2 : whenB (opA k v x) 2 = true := by
    unfold whenB opA
    rfl
  unfold mayO
  rw [h1, h2]
  have h3 : decide (v.size ≤ 256) = true := decide_eq_true hv
  have : k = 0 ∨ k = 1 ∨ k = 2 ∨ k = 3 := by omega
  unfold whatB opA
  rcases this with rfl | rfl | rfl | rfl
  · show (decide (v.size ≤ 256) && _) = true
    rw [h3]
    rfl
  · have : winB (x % 1024) = true := by unfold winB; rw [decide_eq_true_eq]; omega
    show ((_ && winB (x % 1024)) && _) = true
    rw [this]
    rfl
  · show (decide (v.size ≤ 256) && _) = true
    rw [h3]
    rfl
  · show (decide (v.size ≤ 256) && _) = true
    rw [h3]
    by_cases hx : x % 2 = 1
    · simp [hx, numZ, dotZ, refZ, hasB]
    · simp [hx, numZ, dotZ, refZ, hasB]
theorem opC_may (k : Nat) (v : ByteArray) (x : Int) (hk : k < 4) (hv : v.size ≤ 256) : mayO (opC k v x) 2 = true := by
  have h1 : whereB (opC k v x) = true := by
    unfold whereB opC
    simp only [names.1, names.2, Bool.true_and]
    rfl
  have h2 : whenB (opC k v x) 2 = true := by
    unfold whenB opC
    rfl
  unfold mayO
  rw [h1, h2]
  have h3 : decide (v.size ≤ 256) = true := decide_eq_true hv
  have : k = 0 ∨ k = 1 ∨ k = 2 ∨ k = 3 := by omega
  unfold whatB opC
  rcases this with rfl | rfl | rfl | rfl
  · simp [h3, numZ, dotZ, refZ, hv]
  · have : winB (-(x % 1024)) = true := by unfold winB; rw [decide_eq_true_eq]; omega
    simp [numZ, dotZ, refZ, valZ, noS, this, winB]
    exact ⟨by decide, rfl, by omega, by omega⟩
  · by_cases hx : x % 2 = 1
    · simp [hx, numZ, dotZ, refZ, hasB, valZ, noS, dotsB, stepD]
      exact ⟨by decide, rfl⟩
    · simp [hx, numZ, dotZ, refZ, hasB, hv]
  · by_cases hx : x % 2 = 1
    · simp [hx, numZ, dotZ, refZ, hasB, valZ, noS]
      exact ⟨by decide, rfl⟩
    · simp [hx, numZ, dotZ, refZ, hasB, hv]
abbrev tW (t n : Int) (v : ByteArray) (s : List Int) : Ce := ⟨0, true, t, n, v, 0, 0, [], [], s⟩
abbrev tN (x y : Int) (s : List Int) : Ce := ⟨1, false, 0, 0, ByteArray.empty, x, y, [], [], s⟩
abbrev tE (l : List E3) (s : List Int) : Ce := ⟨2, false, 0, 0, ByteArray.empty, 0, 0, l, [], s⟩
abbrev tL (l : List L5) (s : List Int) : Ce := ⟨3, false, 0, 0, ByteArray.empty, 0, 0, [], l, s⟩
/-- The law's cells: behind the first operation; behind both rows. -/
def cD (k : Nat) (v : ByteArray) : Ce := if k = 0 then tW 1 0 v [1, 0] else if k = 1 then tN 0 0 [1, 0] else if k = 2 then tE [⟨0, 1, v⟩] [1, 0] else tL [⟨0, 1, 1, v, false⟩] [1, 0]
def cP (k : Nat) (v w : ByteArray) (x : Int) : Ce := if k = 0 then tW 2 0 w [2, 0] else if k = 1 then tN (x % 1024) 0 [2, 0] else if k = 2 then tE [⟨0, 1, v⟩, ⟨0, 2, w⟩] [2, 0] else if x % 2 = 1 then tL [⟨0, 1, 1, v, false⟩, ⟨0, 2, 2, w, false⟩] [2, 0] else tL [⟨0, 2, 2, w, false⟩, ⟨0, 1, 1, v, false⟩] [2, 0]
def cR (k : Nat) (v : ByteArray) (x : Int) : Ce := if k = 0 then tW 2 1 v [1, 1] else if k = 1 then tN 0 (-(x % 1024)) [1, 1] else if k = 2 then (if x % 2 = 1 then tE [] [1, 1] else tE [⟨0, 1, v⟩, ⟨1, 1, v⟩] [1, 1]) else if x % 2 = 1 then tL [⟨0, 1, 1, ByteArray.empty, true⟩] [1, 1] else tL [⟨1, 1, 2, v, false⟩, ⟨0, 1, 1, v, false⟩] [1, 1]
def cQ (k : Nat) (v w : ByteArray) (x : Int) : Ce := if k = 0 then tW 2 1 v [2, 1] else if k = 1 then tN (x % 1024) (-(x % 1024)) [2, 1] else if k = 2 then (if x % 2 = 1 then tE [⟨0, 2, w⟩] [2, 1] else tE [⟨0, 1, v⟩, ⟨0, 2, w⟩, ⟨1, 1, v⟩] [2, 1]) else if x % 2 = 1 then tL [⟨0, 1, 1, ByteArray.empty, true⟩, ⟨0, 2, 2, w, false⟩] [2, 1] else tL [⟨1, 1, 2, v, false⟩, ⟨0, 2, 2, w, false⟩, ⟨0, 1, 1, v, false⟩] [2, 1]
theorem effC0 {c : Ce} {o : O14} (h : o.kind = 0) (hb : setB c o.time o.dn o.value = true) : effC c o = (setC c o.time o.dn o.value, 0) := by unfold effC; rw [if_pos h, if_pos hb]
theorem effC1 {c : Ce} {o : O14} (h : o.kind = 1) (hb : cntB c o.re o.im = true) : effC c o = (cntC c o.re o.im, 0) := by
  unfold effC ansN ansM; rw [if_neg (by omega), if_pos h, if_pos hb, if_pos hb]
theorem effC2 {c : Ce} {o : O14} (h : o.kind = 2) (hb : putB c (o.dn, o.ds) o.value = true) : effC c o = (cE c (putL c.ents (o.dn, o.ds) o.value), 0) := by
  unfold effC ansP numP; rw [if_neg (by omega), if_neg (by omega), if_pos h, if_pos hb, if_pos hb]
theorem effC3 {c : Ce} {o : O14} (h : o.kind = 3) (hb : c.kind = 2) : effC c o = (cE c (dropL c.ents o.dots), 0) := by
  unfold effC ansQ numQ; rw [if_neg (by omega), if_neg (by omega), if_neg (by omega), if_pos h, if_pos (by simpa using hb), if_pos (by simpa using hb)]
theorem effC4 {c : Ce} {o : O14} {L : List L5} (h : o.kind = 4) (hk : c.kind = 3) (hb : okX c.elems ⟨o.dn, o.ds, o.time, o.value, false⟩ = true) (hi : insL c.elems ⟨o.dn, o.ds, o.time, o.value, false⟩ (o.rn, o.rs) = some L) : effC c o = (cL c L, 0) := by
  unfold effC ansI; rw [if_neg (by omega), if_neg (by omega), if_neg (by omega), if_neg (by omega), if_pos h, if_pos (by rw [hb]; simpa using hk), hi]
theorem effC5 {c : Ce} {o : O14} {L : List L5} (h : o.kind = 5) (hk : c.kind = 3) (hi : eraL c.elems (o.rn, o.rs) = some L) : effC c o = (cL c L, 0) := by
  unfold effC ansR; rw [if_neg (by omega), if_neg (by omega), if_neg (by omega), if_neg (by omega), if_neg (by omega), if_pos hk, hi]
theorem two0 (v w : ByteArray) (x : Int) (hv : v.size ≤ 256) (hw : w.size ≤ 256) :
    (appC (newK 0 2) (opB 0 v) 2 = (cD 0 v, 0)) ∧ (appC (cD 0 v) (opA 0 w x) 2 = (cP 0 v w x, 0)) ∧ (appC (cP 0 v w x) (opC 0 v x) 2 = (cQ 0 v w x, 0)) ∧ (appC (cD 0 v) (opC 0 v x) 2 = (cR 0 v x, 0)) ∧ (appC (cR 0 v x) (opA 0 w x) 2 = (cQ 0 v w x, 0)) := by
  have hb : ∀ (c : Ce) (t n : Int) (u : ByteArray), c.kind = 0 → mayS t n = true → u.size ≤ 256 → setB c t n u = true := fun c t n u h1 h2 h3 => by
    unfold setB; rw [h1, h2, decide_eq_true h3]; rfl
  have s1 := app_to (d2 := cD 0 v) (new_may 0 2 (by omega) (by omega)) (opB_may 0 v (by omega) hv) rfl (effC0 rfl (hb _ _ _ _ rfl rfl hv)) rfl
  have s2 := app_to (d2 := cP 0 v w x) s1.2 (opA_may 0 w x (by omega) hw) rfl (effC0 rfl (hb _ _ _ _ rfl rfl hw)) rfl
  have hC : (opC 0 v x).value = v := by unfold opC; simp
  have hCk : (opC 0 v x).kind = 0 := by unfold opC; simp
  have s3 := app_to (d2 := cQ 0 v w x) s2.2 (opC_may 0 v x (by omega) hv) (by rw [hCk]; rfl) (effC0 hCk (hb _ _ _ _ rfl rfl (by rw [hC]; exact hv))) (by rw [hC]; rfl)
  have s4 := app_to (d2 := cR 0 v x) s1.2 (opC_may 0 v x (by omega) hv) (by rw [hCk]; rfl) (effC0 hCk (hb _ _ _ _ rfl rfl (by rw [hC]; exact hv))) (by rw [hC]; rfl)
  have s5 := app_to (d2 := cQ 0 v w x) s4.2 (opA_may 0 w x (by omega) hw) rfl (effC0 rfl (hb _ _ _ _ rfl rfl hw)) rfl
  exact ⟨s1.1, s2.1, s3.1, s4.1, s5.1⟩
theorem two1 (v w : ByteArray) (x : Int) (hv : v.size ≤ 256) (hw : w.size ≤ 256) :
    (appC (newK 1 2) (opB 1 v) 2 = (cD 1 v, 0)) ∧ (appC (cD 1 v) (opA 1 w x) 2 = (cP 1 v w x, 0)) ∧ (appC (cP 1 v w x) (opC 1 v x) 2 = (cQ 1 v w x, 0)) ∧ (appC (cD 1 v) (opC 1 v x) 2 = (cR 1 v x, 0)) ∧ (appC (cR 1 v x) (opA 1 w x) 2 = (cQ 1 v w x, 0)) := by
  have hb : ∀ (c : Ce) (y z : Int), c.kind = 1 → -1024 ≤ c.re → c.re ≤ 1024 → -1024 ≤ c.im → c.im ≤ 1024 → -1024 ≤ y → y ≤ 1024 → -1024 ≤ z → z ≤ 1024 → cntB c y z = true := fun c y z h1 a b c' d e f g h => by
    unfold cntB addB pairB partB
    simp only [h1, Bool.and_eq_true, decide_eq_true_eq]
    refine ⟨trivial, ⟨⟨⟨?_, ?_⟩, ⟨?_, ?_⟩⟩, ?_, ?_⟩⟩ <;> omega
  have z1 : (-1024 : Int) ≤ 0 := by decide
  have z2 : (0 : Int) ≤ 1024 := by decide
  have hC : (opC 1 v x).re = 0 ∧ (opC 1 v x).im = -(x % 1024) ∧ (opC 1 v x).kind = 1 := by unfold opC; simp
  have s1 := app_to (d2 := cD 1 v) (new_may 1 2 (by omega) (by omega)) (opB_may 1 v (by omega) hv) rfl (effC1 rfl (hb _ _ _ rfl z1 z2 z1 z2 z1 z2 z1 z2)) rfl
  have s2 := app_to (d2 := cP 1 v w x) s1.2 (opA_may 1 w x (by omega) hw) rfl (effC1 rfl (hb _ _ _ rfl z1 z2 z1 z2 (by show _ ≤ x % 1024; omega) (by show x % 1024 ≤ _; omega) z1 z2)) (by
    show Ce.mk 1 false 0 0 _ (0 + x % 1024) _ _ _ _ = _
    rw [Int.zero_add]; rfl)
  have s3 := app_to (d2 := cQ 1 v w x) s2.2 (opC_may 1 v x (by omega) hv) (by rw [hC.2.2]; rfl) (effC1 hC.2.2 (hb _ _ _ rfl (by show _ ≤ x % 1024; omega) (by show x % 1024 ≤ _; omega) z1 z2 (by rw [hC.1]; exact z1) (by rw [hC.1]; exact z2) (by rw [hC.2.1]; omega) (by rw [hC.2.1]; omega))) (by
    rw [hC.1, hC.2.1]
    show Ce.mk 1 false 0 0 _ (x % 1024 + 0) (0 + -(x % 1024)) _ _ _ = _
    rw [Int.zero_add, Int.add_zero]; rfl)
  have s4 := app_to (d2 := cR 1 v x) s1.2 (opC_may 1 v x (by omega) hv) (by rw [hC.2.2]; rfl) (effC1 hC.2.2 (hb _ _ _ rfl z1 z2 z1 z2 (by rw [hC.1]; exact z1) (by rw [hC.1]; exact z2) (by rw [hC.2.1]; omega) (by rw [hC.2.1]; omega))) (by
    rw [hC.1, hC.2.1]
    show Ce.mk 1 false 0 0 _ _ (0 + -(x % 1024)) _ _ _ = _
    rw [Int.zero_add]; rfl)
  have s5 := app_to (d2 := cQ 1 v w x) s4.2 (opA_may 1 w x (by omega) hw) rfl (effC1 rfl (hb _ _ _ rfl z1 z2 (by show _ ≤ -(x % 1024); omega) (by show -(x % 1024) ≤ _; omega) (by show _ ≤ x % 1024; omega) (by show x % 1024 ≤ _; omega) z1 z2)) (by
    show Ce.mk 1 false 0 0 _ (0 + x % 1024) (-(x % 1024) + 0) _ _ _ = _
    rw [Int.zero_add, Int.add_zero]; rfl)
  exact ⟨s1.1, s2.1, s3.1, s4.1, s5.1⟩
theorem two2 (v w : ByteArray) (x : Int) (hv : v.size ≤ 256) (hw : w.size ≤ 256) :
    (appC (newK 2 2) (opB 2 v) 2 = (cD 2 v, 0)) ∧ (appC (cD 2 v) (opA 2 w x) 2 = (cP 2 v w x, 0)) ∧ (appC (cP 2 v w x) (opC 2 v x) 2 = (cQ 2 v w x, 0)) ∧ (appC (cD 2 v) (opC 2 v x) 2 = (cR 2 v x, 0)) ∧ (appC (cR 2 v x) (opA 2 w x) 2 = (cQ 2 v w x, 0)) := by
  have hb : ∀ (c : Ce) (d : D2) (u : ByteArray), c.kind = 2 → mayB d.1 d.2 16 = true → u.size ≤ 256 → hasD c.ents d = false → putB c d u = true := fun c d u h1 h2 h3 h4 => by
    unfold putB; rw [h1, h2, decide_eq_true h3, h4]; rfl
  have s1 := app_to (d2 := cD 2 v) (new_may 2 2 (by omega) (by omega)) (opB_may 2 v (by omega) hv) rfl (effC2 rfl (hb _ _ _ rfl rfl hv rfl)) rfl
  have s2 := app_to (d2 := cP 2 v w x) s1.2 (opA_may 2 w x (by omega) hw) rfl (effC2 rfl (hb _ _ _ rfl rfl hw rfl)) rfl
  by_cases hx : x % 2 = 1
  · have hC : (opC 2 v x).kind = 3 ∧ (opC 2 v x).dots = [(0, 1)] := by unfold opC; simp [hx]
    have s3 := app_to (d2 := cQ 2 v w x) s2.2 (opC_may 2 v x (by omega) hv) (by rw [hC.1]; rfl) (effC3 hC.1 rfl) (by rw [hC.2]; unfold cQ; simp only [hx]; rfl)
    have s4 := app_to (d2 := cR 2 v x) s1.2 (opC_may 2 v x (by omega) hv) (by rw [hC.1]; rfl) (effC3 hC.1 rfl) (by rw [hC.2]; unfold cR; simp only [hx]; rfl)
    have hR : cR 2 v x = tE [] [1, 1] := by unfold cR; simp [hx]
    have s5 := app_to (d2 := cQ 2 v w x) s4.2 (opA_may 2 w x (by omega) hw) (by rw [hR]; rfl) (effC2 rfl (by rw [hR]; exact hb _ _ _ rfl rfl hw rfl)) (by rw [hR]; unfold cQ; simp only [hx]; rfl)
    exact ⟨s1.1, s2.1, s3.1, s4.1, s5.1⟩
  · have hC : (opC 2 v x).kind = 2 ∧ (opC 2 v x).value = v := by unfold opC; simp [hx]
    have s3 := app_to (d2 := cQ 2 v w x) s2.2 (opC_may 2 v x (by omega) hv) (by rw [hC.1]; rfl) (effC2 hC.1 (hb _ _ _ rfl rfl (by rw [hC.2]; exact hv) rfl)) (by rw [hC.2]; unfold cQ; simp only [hx]; rfl)
    have s4 := app_to (d2 := cR 2 v x) s1.2 (opC_may 2 v x (by omega) hv) (by rw [hC.1]; rfl) (effC2 hC.1 (hb _ _ _ rfl rfl (by rw [hC.2]; exact hv) rfl)) (by rw [hC.2]; unfold cR; simp only [hx]; rfl)
    have hR : cR 2 v x = tE [⟨0, 1, v⟩, ⟨1, 1, v⟩] [1, 1] := by unfold cR; simp [hx]
    have s5 := app_to (d2 := cQ 2 v w x) s4.2 (opA_may 2 w x (by omega) hw) (by rw [hR]; rfl) (effC2 rfl (by rw [hR]; exact hb _ _ _ rfl rfl hw rfl)) (by rw [hR]; unfold cQ; simp only [hx]; rfl)
    exact ⟨s1.1, s2.1, s3.1, s4.1, s5.1⟩
theorem two3 (v w : ByteArray) (x : Int) (hv : v.size ≤ 256) (hw : w.size ≤ 256) :
    (appC (newK 3 2) (opB 3 v) 2 = (cD 3 v, 0)) ∧ (appC (cD 3 v) (opA 3 w x) 2 = (cP 3 v w x, 0)) ∧ (appC (cP 3 v w x) (opC 3 v x) 2 = (cQ 3 v w x, 0)) ∧ (appC (cD 3 v) (opC 3 v x) 2 = (cR 3 v x, 0)) ∧ (appC (cR 3 v x) (opA 3 w x) 2 = (cQ 3 v w x, 0)) := by
  have hb : ∀ (l : List L5) (a b t : Int) (u : ByteArray), mayB a b 16 = true → decide (1 ≤ t ∧ t ≤ 16777215) = true → u.size ≤ 256 → hasX l (a, b) = false → okX l ⟨a, b, t, u, false⟩ = true := fun l a b t u h2 h3 h4 h5 => by
    unfold okX
    show (mayB a b 16 && (decide (1 ≤ t ∧ t ≤ 16777215) && (decide (u.size ≤ 256) && (!false && !hasX l (a, b))))) = true
    rw [h2, h3, decide_eq_true h4, h5]; rfl
  have s1 := app_to (d2 := cD 3 v) (new_may 3 2 (by omega) (by omega)) (opB_may 3 v (by omega) hv) rfl (effC4 rfl rfl (hb _ _ _ _ _ rfl rfl hv rfl) rfl) rfl
  by_cases hx : x % 2 = 1
  · have hA : (opA 3 w x).rs = 1 := by unfold opA; simp [hx]
    have hC : (opC 3 v x).kind = 5 ∧ (opC 3 v x).rs = 1 := by unfold opC; simp [hx]
    have hP : cP 3 v w x = tL [⟨0, 1, 1, v, false⟩, ⟨0, 2, 2, w, false⟩] [2, 0] := by unfold cP; simp [hx]
    have hR : cR 3 v x = tL [⟨0, 1, 1, ByteArray.empty, true⟩] [1, 1] := by unfold cR; simp [hx]
    have hQ : cQ 3 v w x = tL [⟨0, 1, 1, ByteArray.empty, true⟩, ⟨0, 2, 2, w, false⟩] [2, 1] := by unfold cQ; simp [hx]
    have s2 := app_to (d2 := cP 3 v w x) s1.2 (opA_may 3 w x (by omega) hw) rfl (effC4 rfl rfl (hb _ _ _ _ _ rfl rfl hw rfl) (by rw [hA]; rfl)) (by rw [hP]; rfl)
    have s3 := app_to (d2 := cQ 3 v w x) s2.2 (opC_may 3 v x (by omega) hv) (by rw [hC.1, hP]; rfl) (effC5 (L := [⟨0, 1, 1, ByteArray.empty, true⟩, ⟨0, 2, 2, w, false⟩]) hC.1 (by rw [hP]) (by rw [hP, hC.2]; rfl)) (by rw [hQ, hP]; rfl)
    have s4 := app_to (d2 := cR 3 v x) s1.2 (opC_may 3 v x (by omega) hv) (by rw [hC.1]; rfl) (effC5 (L := [⟨0, 1, 1, ByteArray.empty, true⟩]) hC.1 rfl (by rw [hC.2]; rfl)) (by rw [hR]; rfl)
    have s5 := app_to (d2 := cQ 3 v w x) s4.2 (opA_may 3 w x (by omega) hw) (by rw [hR]; rfl) (effC4 (L := [⟨0, 1, 1, ByteArray.empty, true⟩, ⟨0, 2, 2, w, false⟩]) rfl (by rw [hR]) (by rw [hR]; exact hb _ _ _ _ _ rfl rfl hw rfl) (by rw [hR, hA]; rfl)) (by rw [hQ, hR]; rfl)
    exact ⟨s1.1, s2.1, s3.1, s4.1, s5.1⟩
  · have hA : (opA 3 w x).rs = 0 := by unfold opA; simp [hx]
    have hC : (opC 3 v x).kind = 4 ∧ (opC 3 v x).rs = 0 ∧ (opC 3 v x).value = v := by unfold opC; simp [hx]
    have hP : cP 3 v w x = tL [⟨0, 2, 2, w, false⟩, ⟨0, 1, 1, v, false⟩] [2, 0] := by unfold cP; simp [hx]
    have hR : cR 3 v x = tL [⟨1, 1, 2, v, false⟩, ⟨0, 1, 1, v, false⟩] [1, 1] := by unfold cR; simp [hx]
    have hQ : cQ 3 v w x = tL [⟨1, 1, 2, v, false⟩, ⟨0, 2, 2, w, false⟩, ⟨0, 1, 1, v, false⟩] [2, 1] := by unfold cQ; simp [hx]
    have s2 := app_to (d2 := cP 3 v w x) s1.2 (opA_may 3 w x (by omega) hw) rfl (effC4 rfl rfl (hb _ _ _ _ _ rfl rfl hw rfl) (by rw [hA]; rfl)) (by rw [hP]; rfl)
    have s3 := app_to (d2 := cQ 3 v w x) s2.2 (opC_may 3 v x (by omega) hv) (by rw [hC.1, hP]; rfl) (effC4 (L := [⟨1, 1, 2, v, false⟩, ⟨0, 2, 2, w, false⟩, ⟨0, 1, 1, v, false⟩]) hC.1 (by rw [hP]) (by rw [hP, hC.2.2]; exact hb _ _ _ _ _ rfl rfl hv rfl) (by rw [hP, hC.2.1, hC.2.2]; rfl)) (by rw [hQ, hP]; rfl)
    have s4 := app_to (d2 := cR 3 v x) s1.2 (opC_may 3 v x (by omega) hv) (by rw [hC.1]; rfl) (effC4 (L := [⟨1, 1, 2, v, false⟩, ⟨0, 1, 1, v, false⟩]) hC.1 rfl (by rw [hC.2.2]; exact hb _ _ _ _ _ rfl rfl hv rfl) (by rw [hC.2.1, hC.2.2]; rfl)) (by rw [hR]; rfl)
    have s5 := app_to (d2 := cQ 3 v w x) s4.2 (opA_may 3 w x (by omega) hw) (by rw [hR]; rfl) (effC4 (L := [⟨1, 1, 2, v, false⟩, ⟨0, 2, 2, w, false⟩, ⟨0, 1, 1, v, false⟩]) rfl (by rw [hR]) (by rw [hR]; exact hb _ _ _ _ _ rfl rfl hw rfl) (by rw [hR, hA]; rfl)) (by rw [hQ, hR]; rfl)
    exact ⟨s1.1, s2.1, s3.1, s4.1, s5.1⟩

end Go.Proofs.YtgkddimijmnpcaaGreatDoor

/-
  Package cell: New, the document's NewCell, Stable and the document's, by contracts.
-/
namespace Go.Proofs.YtgkddimijmnpcaaGreatDoor
open Go.RowKit
set_option linter.unusedVariables false
set_option linter.unusedSimpArgs false

/-- What New answers. -/
def newC (k n : Int) : Ce := if knoB k then (if 1 ≤ n ∧ n ≤ 16 then newK k n else ce0) else ce0
def newE (k n : Int) : Int := if knoB k then (if 1 ≤ n ∧ n ≤ 16 then 0 else 1200) else 1201
theorem own_made12 (n : Nat) (w : World) {g : Nat} (hg : w.heap.size = g) : FOwn g (madeW n w) (some ⟨g, 0, none⟩) (flatI (List.replicate n 0)) := fun h0 => by
  subst hg
  refine ⟨w.heap.size, rfl, Nat.le_refl _, by rw [size_made]; omega, fun i u hu => ?_⟩
  have hu2 : i < n ∧ u = .int .i64 0 := by
    unfold flatI at hu
    rw [List.getElem?_map] at hu
    obtain ⟨x, hx, rfl⟩ := Option.map_eq_some_iff.1 hu
    obtain ⟨h1, h2⟩ := List.getElem?_eq_some_iff.1 hx
    simp only [List.length_replicate] at h1
    rw [List.getElem_replicate] at h2
    exact ⟨h1, by rw [← h2]⟩
  obtain ⟨hi, rfl⟩ := hu2
  constructor
  · unfold madeW
    rw [World.cell?_alloc_at _ _ _ _ rfl, ← Array.getElem?_toList, zeros_at n i hi]
  · exact World.frozen?_alloc_at _ _ _ _ rfl

set_option maxHeartbeats 2000000 in
set_option maxRecDepth 100000 in
theorem rnew_any (k n : Int) (w : World) : Calls Tryz.prog 14 #[.int .i64 k, .int .i64 n] w fun e w' => ∃ q, e = .returned (.tuple #[ceV (newC k n) q, .int .i64 (newE k n)]) ∧ COwn w.heap.size w' (newC k n) q ∧ Below w.heap.size w w' := by
  obtain ⟨h, hh⟩ : ∃ h, w.heap.size = h := ⟨_, rfl⟩
  have H0 : Hid (Has (w.alloc (.cells #[.int .i64 0, .bool false, .int .i64 0, .int .i64 0, .string ⟨#[]⟩, .int .i64 0, .int .i64 0, .slice none 0 0, .slice none 0 0, .slice none 0 0] 30)) h (ceL ce0 pl0) ∧ Below h w (w.alloc (.cells #[.int .i64 0, .bool false, .int .i64 0, .int .i64 0, .string ⟨#[]⟩, .int .i64 0, .int .i64 0, .slice none 0 0, .slice none 0 0, .slice none 0 0] 30)) ∧ (w.alloc (.cells #[.int .i64 0, .bool false, .int .i64 0, .int .i64 0, .string ⟨#[]⟩, .int .i64 0, .int .i64 0, .slice none 0 0, .slice none 0 0, .slice none 0 0] 30)).heap.size = h + 1) := ⟨hh ▸ has_new w (ceL ce0 pl0) _, hh ▸ (Below.refl _ _).alloc (Nat.le_refl _) _, by simp; omega⟩
  rw [hh]
  by_cases hk : 0 ≤ k ∧ k ≤ 3
  · have hkb : knoB k = true := decide_eq_true hk
    by_cases hn : 1 ≤ n ∧ n ≤ 16
    · obtain ⟨m, rfl⟩ : ∃ m : Nat, n = (m : Int) := ⟨n.toNat, by omega⟩
      have e1 : newC k m = newK k m := by unfold newC; rw [if_pos hkb, if_pos hn]
      have e2 : newE k m = 0 := by unfold newE; rw [if_pos hkb, if_pos hn]
      rw [e1, e2]
      clear e1 e2 hkb
      have hm := fun W => run_made m W (by omega)
      go_enter Tryz.func14, Tryz.ntmps14
      go_upto_region 1 with fail
      generalize hW : w.alloc (.cells #[.int .i64 0, .bool false, .int .i64 0, .int .i64 0, .string ⟨#[]⟩, .int .i64 0, .int .i64 0, .slice none 0 0, .slice none 0 0, .slice none 0 0] 30) = w1 at H0 ⊢
      clear hW hh
      have hs : w1.heap.size = h + 1 := H0.out.2.2
      have hm1 := hm w1
      rw [hs] at hm1
      have HM : Hid (Has (madeW m w1) h (ceL ce0 pl0) ∧ Below h w (madeW m w1) ∧ FOwn (h + 1) (madeW m w1) (some ⟨h + 1, 0, none⟩) (flatI (List.replicate m 0))) := ⟨H0.out.1.later (below_made m w1), H0.out.2.1.trans ((below_made m w1).mono (by omega)), own_made12 m w1 hs⟩
      clear hm hs H0
      obtain ⟨t0, t1, t2, t3, t4, t5, t6, t7, t8, t9⟩ := HM.out.1.ten
      obtain ⟨f0, f1, f2, f3, f4, f5, f6, f7, f8, f9⟩ := HM.out.1.tenf
      go_wp2_with fail
      exact bodyPost_ret (ret_cell2 rfl rfl rfl (HM.out.1.put10 _ _ _ _ _ _ _ _ _ _)) rfl ⟨⟨none, 0, none, 0, some ⟨h + 1, 0, none⟩, m⟩, by (simp [newK]; rfl), ⟨FOwn.nil _ _ _, FOwn.nil _ _ _, (HM.out.2.2.put10 (by omega) _ _ _ _ _ _ _ _ _ _).mono (by omega)⟩, below_put10 HM.out.2.1 (Nat.le_refl _) _ _ _ _ _ _ _ _ _ _⟩
    · have e1 : newC k n = ce0 := by unfold newC; rw [if_pos hkb, if_neg hn]
      have e2 : newE k n = 1200 := by unfold newE; rw [if_pos hkb, if_neg hn]
      rw [e1, e2]
      clear e1 e2 hkb
      go_enter Tryz.func14, Tryz.ntmps14
      rcases (show n < 1 ∨ 16 < n by omega) with h1 | h1
      · go_wp2
        exact bodyPost_ret (ret_cell2 rfl rfl rfl H0.out.1) rfl ⟨pl0, rfl, own_none0 _ _, H0.out.2.1⟩
      · go_wp2
        exact bodyPost_ret (ret_cell2 rfl rfl rfl H0.out.1) rfl ⟨pl0, rfl, own_none0 _ _, H0.out.2.1⟩
  · have hkb : knoB k = false := decide_eq_false hk
    have e1 : newC k n = ce0 := by unfold newC; rw [hkb]; rfl
    have e2 : newE k n = 1201 := by unfold newE; rw [hkb]; rfl
    rw [e1, e2]
    clear e1 e2 hkb
    go_enter Tryz.func14, Tryz.ntmps14
    rcases (show k < 0 ∨ 3 < k by omega) with h1 | h1
    · go_wp2
      exact bodyPost_ret (ret_cell2 rfl rfl rfl H0.out.1) rfl ⟨pl0, rfl, own_none0 _ _, H0.out.2.1⟩
    · go_wp2
      exact bodyPost_ret (ret_cell2 rfl rfl rfl H0.out.1) rfl ⟨pl0, rfl, own_none0 _ _, H0.out.2.1⟩

set_option maxHeartbeats 2000000 in
set_option maxRecDepth 100000 in
theorem new_any12 (k n : Int) (w : World) : Calls Tryz.prog 13 #[.int .i64 k, .int .i64 n] w fun e w' => ∃ q, e = .returned (.tuple #[ceV (newC k n) q, .int .i64 (newE k n)]) ∧ COwn w.heap.size w' (newC k n) q ∧ Below w.heap.size w w' := by
  obtain ⟨h, hh⟩ : ∃ h, w.heap.size = h := ⟨_, rfl⟩
  have H0 : Hid (Has (w.alloc (.cells #[.int .i64 0, .bool false, .int .i64 0, .int .i64 0, .string ⟨#[]⟩, .int .i64 0, .int .i64 0, .slice none 0 0, .slice none 0 0, .slice none 0 0] 30)) h (ceL ce0 pl0) ∧ Below h w (w.alloc (.cells #[.int .i64 0, .bool false, .int .i64 0, .int .i64 0, .string ⟨#[]⟩, .int .i64 0, .int .i64 0, .slice none 0 0, .slice none 0 0, .slice none 0 0] 30)) ∧ h + 1 ≤ (w.alloc (.cells #[.int .i64 0, .bool false, .int .i64 0, .int .i64 0, .string ⟨#[]⟩, .int .i64 0, .int .i64 0, .slice none 0 0, .slice none 0 0, .slice none 0 0] 30)).heap.size) := ⟨hh ▸ has_new w (ceL ce0 pl0) _, hh ▸ (Below.refl _ _).alloc (Nat.le_refl _) _, by simp; omega⟩
  have CR := rules_any k
  obtain ⟨z0, z1, z2, hz⟩ : ∃ z0 z1 z2, rulL k = [z0, z1, z2] := by
    unfold rulL
    split
    · exact ⟨_, _, _, rfl⟩
    · split
      · exact ⟨_, _, _, rfl⟩
      · split
        · exact ⟨_, _, _, rfl⟩
        · split
          · exact ⟨_, _, _, rfl⟩
          · exact ⟨_, _, _, rfl⟩
  have HZ : Hid (rulL k = [z0, z1, z2]) := hz
  rw [hh]
  have hk : knoB k = true ∨ knoB k = false := by cases knoB k <;> simp
  rcases hk with hkb | hkb
  · have e0 : ∃ f0 f1 f2, rulL k = [fnV f0, fnV f1, fnV f2] := by
      unfold knoB at hkb
      have hk := of_decide_eq_true hkb
      rcases (show k = 0 ∨ k = 1 ∨ k = 2 ∨ k = 3 by omega) with rfl | rfl | rfl | rfl
      · exact ⟨_, _, _, rfl⟩
      · exact ⟨_, _, _, rfl⟩
      · exact ⟨_, _, _, rfl⟩
      · exact ⟨_, _, _, rfl⟩
    obtain ⟨q0, q1, q2, hq⟩ := e0
    rw [hkb, hq] at CR
    clear hz HZ hq
    by_cases hn : 1 ≤ n ∧ n ≤ 16
    · obtain ⟨m, rfl⟩ : ∃ m : Nat, n = (m : Int) := ⟨n.toNat, by omega⟩
      have e1 : newC k m = newK k m := by unfold newC; rw [if_pos hkb, if_pos hn]
      have e2 : newE k m = 0 := by unfold newE; rw [if_pos hkb, if_pos hn]
      rw [e1, e2]
      clear e1 e2 hkb
      have hm := fun W => run_made m W (by omega)
      go_enter Tryz.func13, Tryz.ntmps13
      go_upto_region 1 with fail
      generalize hW : w.alloc (.cells #[.int .i64 0, .bool false, .int .i64 0, .int .i64 0, .string ⟨#[]⟩, .int .i64 0, .int .i64 0, .slice none 0 0, .slice none 0 0, .slice none 0 0] 30) = w1 at H0 ⊢
      clear hW hh
      go_wp2_with fail
      refine (CR w1).mono ?_
      rintro e w2 ⟨rfl, b2⟩
      have H2 : Hid (Has (w2.alloc (.cells #[fnV q0, fnV q1, fnV q2] 77)) h (ceL ce0 pl0) ∧ Below h w (w2.alloc (.cells #[fnV q0, fnV q1, fnV q2] 77)) ∧ h + 1 ≤ (w2.alloc (.cells #[fnV q0, fnV q1, fnV q2] 77)).heap.size) := by
        have h2 := b2.size
        have h3 := H0.out.2.2
        exact ⟨(H0.out.1.later b2).alloc _, (H0.out.2.1.trans (b2.mono (by omega))).alloc (by omega) _, by simp; omega⟩
      clear b2 H0 CR
      go_upto_region 6 with fail
      generalize hW : w2.alloc (.cells #[fnV q0, fnV q1, fnV q2] 77) = w3 at H2 ⊢
      clear hW
      obtain ⟨g, hg⟩ : ∃ g, w3.heap.size = g := ⟨_, rfl⟩
      have hm1 := hm w3
      rw [hg] at hm1
      have HM : Hid (Has (madeW m w3) h (ceL ce0 pl0) ∧ Below h w (madeW m w3) ∧ FOwn g (madeW m w3) (some ⟨g, 0, none⟩) (flatI (List.replicate m 0)) ∧ h < g) := ⟨H2.out.1.later (below_made m w3), H2.out.2.1.trans ((below_made m w3).mono (by have := H2.out.2.2; omega)), own_made12 m w3 hg, by have := H2.out.2.2; omega⟩
      clear hm hg H2
      obtain ⟨t0, t1, t2, t3, t4, t5, t6, t7, t8, t9⟩ := HM.out.1.ten
      obtain ⟨f0, f1, f2, f3, f4, f5, f6, f7, f8, f9⟩ := HM.out.1.tenf
      go_wp2_with fail
      exact bodyPost_ret (ret_cell2 rfl rfl rfl (HM.out.1.put10 _ _ _ _ _ _ _ _ _ _)) rfl ⟨⟨none, 0, none, 0, some ⟨g, 0, none⟩, m⟩, by (simp [newK]; rfl), ⟨FOwn.nil _ _ _, FOwn.nil _ _ _, (HM.out.2.2.1.put10 HM.out.2.2.2 _ _ _ _ _ _ _ _ _ _).mono (Nat.le_of_lt HM.out.2.2.2)⟩, below_put10 HM.out.2.1 (Nat.le_refl _) _ _ _ _ _ _ _ _ _ _⟩
    · have e1 : newC k n = ce0 := by unfold newC; rw [if_pos hkb, if_neg hn]
      have e2 : newE k n = 1200 := by unfold newE; rw [if_pos hkb, if_neg hn]
      rw [e1, e2]
      clear e1 e2 hkb
      go_enter Tryz.func13, Tryz.ntmps13
      go_upto_region 1 with fail
      generalize hW : w.alloc (.cells #[.int .i64 0, .bool false, .int .i64 0, .int .i64 0, .string ⟨#[]⟩, .int .i64 0, .int .i64 0, .slice none 0 0, .slice none 0 0, .slice none 0 0] 30) = w1 at H0 ⊢
      clear hW hh
      go_wp2_with fail
      refine (CR w1).mono ?_
      rintro e w2 ⟨rfl, b2⟩
      have H2 : Hid (Has (w2.alloc (.cells #[fnV q0, fnV q1, fnV q2] 77)) h (ceL ce0 pl0) ∧ Below h w (w2.alloc (.cells #[fnV q0, fnV q1, fnV q2] 77))) := by
        have h2 := b2.size
        have h3 := H0.out.2.2
        exact ⟨(H0.out.1.later b2).alloc _, (H0.out.2.1.trans (b2.mono (by omega))).alloc (by omega) _⟩
      clear b2 H0 CR
      go_upto_region 4 with fail
      generalize hW : w2.alloc (.cells #[fnV q0, fnV q1, fnV q2] 77) = w3 at H2 ⊢
      clear hW
      obtain ⟨t0, t1, t2, t3, t4, t5, t6, t7, t8, t9⟩ := H2.out.1.ten
      obtain ⟨f0, f1, f2, f3, f4, f5, f6, f7, f8, f9⟩ := H2.out.1.tenf
      rcases (show n < 1 ∨ 16 < n by omega) with h1 | h1
      · go_wp2_with fail
        exact bodyPost_ret (ret_cell2 rfl rfl rfl (H2.out.1.put10 _ _ _ _ _ _ _ _ _ _)) rfl ⟨pl0, rfl, own_none0 _ _, below_put10 H2.out.2 (Nat.le_refl _) _ _ _ _ _ _ _ _ _ _⟩
      · go_wp2_with fail
        exact bodyPost_ret (ret_cell2 rfl rfl rfl (H2.out.1.put10 _ _ _ _ _ _ _ _ _ _)) rfl ⟨pl0, rfl, own_none0 _ _, below_put10 H2.out.2 (Nat.le_refl _) _ _ _ _ _ _ _ _ _ _⟩
  · have e0 : rulL k = [.nilFunc, .nilFunc, .nilFunc] := by
      unfold knoB at hkb
      have hk := of_decide_eq_false hkb
      unfold rulL
      rw [if_neg (by omega), if_neg (by omega), if_neg (by omega), if_neg (by omega)]
    rw [hkb, e0] at CR
    have e1 : newC k n = ce0 := by unfold newC; rw [hkb]; rfl
    have e2 : newE k n = 1201 := by unfold newE; rw [hkb]; rfl
    rw [e1, e2]
    clear e1 e2 hkb e0 hz HZ
    go_enter Tryz.func13, Tryz.ntmps13
    go_upto_region 1 with fail
    generalize hW : w.alloc (.cells #[.int .i64 0, .bool false, .int .i64 0, .int .i64 0, .string ⟨#[]⟩, .int .i64 0, .int .i64 0, .slice none 0 0, .slice none 0 0, .slice none 0 0] 30) = w1 at H0 ⊢
    clear hW hh
    go_wp2_with fail
    refine (CR w1).mono ?_
    rintro e w2 ⟨rfl, b2⟩
    have H2 : Hid (Has (w2.alloc (.cells #[.nilFunc, .nilFunc, .nilFunc] 77)) h (ceL ce0 pl0) ∧ Below h w (w2.alloc (.cells #[.nilFunc, .nilFunc, .nilFunc] 77))) := by
      have h2 := b2.size
      have h3 := H0.out.2.2
      exact ⟨(H0.out.1.later b2).alloc _, (H0.out.2.1.trans (b2.mono (by omega))).alloc (by omega) _⟩
    clear b2 H0 CR
    go_upto_region 2 with fail
    generalize hW : w2.alloc (.cells #[.nilFunc, .nilFunc, .nilFunc] 77) = w3 at H2 ⊢
    clear hW
    obtain ⟨t0, t1, t2, t3, t4, t5, t6, t7, t8, t9⟩ := H2.out.1.ten
    obtain ⟨f0, f1, f2, f3, f4, f5, f6, f7, f8, f9⟩ := H2.out.1.tenf
    go_wp2_with fail
    exact bodyPost_ret (ret_cell2 rfl rfl rfl (H2.out.1.put10 _ _ _ _ _ _ _ _ _ _)) rfl ⟨pl0, rfl, own_none0 _ _, below_put10 H2.out.2 (Nat.le_refl _) _ _ _ _ _ _ _ _ _ _⟩

/-- Is all that was seen in least, too? -/
def undB (a b : List Int) : Bool := vecB a a.length && (vecB b a.length && (List.range a.length).all fun i => decide (a.getD i 0 ≤ b.getD i 0))
theorem undB_iff (a b : List Int) : undB a b = true ↔ Ve.Under a b := by
  unfold undB Ve.Under Ve.Alike
  rw [Bool.and_eq_true, Bool.and_eq_true, vecB_iff, vecB_iff, List.all_eq_true]
  constructor
  · rintro ⟨h1, h2, h3⟩
    exact ⟨⟨h1, h2⟩, fun i hi => of_decide_eq_true (h3 i (List.mem_range.2 hi))⟩
  · rintro ⟨⟨h1, h2⟩, h3⟩
    exact ⟨h1, h2, fun i hi => decide_eq_true (h3 i (List.mem_range.1 hi))⟩
set_option maxHeartbeats 2000000 in
set_option maxRecDepth 100000 in
theorem stable_any (c : Ce) (p : Pl) (ao : Option Addr) (ca : Nat) (v : List Int) (w : World) (hr : CRow w c p) (hv : FRow w ao (flatI v)) : Calls Tryz.prog 22 #[ceV c p, .slice ao v.length ca] w fun e w' => e = .returned (.bool (undB c.seen v)) ∧ Below w.heap.size w w' := by
  obtain ⟨h, hh⟩ : ∃ h, w.heap.size = h := ⟨_, rfl⟩
  have H0 : Hid (CBox w h c p (w.alloc (.cells (ceL c p).toArray 30)) ∧ FRow (w.alloc (.cells (ceL c p).toArray 30)) ao (flatI v)) := ⟨cbox_new hh hr _, hv.later ((Below.refl _ _).alloc (Nat.le_refl _) _)⟩
  rw [hh]
  clear hr hv
  go_enter Tryz.func22, Tryz.ntmps22
  go_upto_region 1 with fail
  generalize hW : w.alloc (.cells (ceL c p).toArray 30) = w1 at H0 ⊢
  clear hW hh
  have x9 := H0.out.1.1.at 9 rfl
  go_wp2_with fail
  refine (under_any p.so ao p.sc ca c.seen v w1 (rowAt_of H0.out.1.2.1.2.2) (rowAt_of H0.out.2) (undB_iff _ _)).mono ?_
  rintro e w2 ⟨rfl, b2, _⟩
  have H2 : Hid (Below h w w2) := (H0.out.1.later b2).2.2.1
  clear b2 H0 x9
  go_wp2_with fail
  go_ret
  exact ⟨rfl, H2.out⟩
set_option maxHeartbeats 2000000 in
set_option maxRecDepth 100000 in
theorem rstable_any (c : Ce) (p : Pl) (ao : Option Addr) (ca : Nat) (v : List Int) (w : World) (hr : CRow w c p) (hv : FRow w ao (flatI v)) (hls : c.seen.length ≤ maxLen) (hlv : v.length ≤ maxLen) : Calls Tryz.prog 23 #[ceV c p, .slice ao v.length ca] w fun e w' => e = .returned (.bool (undB c.seen v)) ∧ Below w.heap.size w w' := by
  obtain ⟨h, hh⟩ : ∃ h, w.heap.size = h := ⟨_, rfl⟩
  have H0 : Hid (CBox w h c p (w.alloc (.cells (ceL c p).toArray 30)) ∧ FRow (w.alloc (.cells (ceL c p).toArray 30)) ao (flatI v) ∧ c.seen.length ≤ maxLen ∧ v.length ≤ maxLen) := ⟨cbox_new hh hr _, hv.later ((Below.refl _ _).alloc (Nat.le_refl _) _), hls, hlv⟩
  rw [hh]
  clear hr hv hls hlv
  go_enter Tryz.func23, Tryz.ntmps23
  go_upto_region 1 with fail
  generalize hW : w.alloc (.cells (ceL c p).toArray 30) = w1 at H0 ⊢
  clear hW hh
  have x9 := H0.out.1.1.at 9 rfl
  go_wp2_with fail
  refine (refUnder_any p.so ao p.sc ca c.seen v w1 (rowAt_of H0.out.1.2.1.2.2) (rowAt_of H0.out.2.1) H0.out.2.2.1 H0.out.2.2.2 (undB_iff _ _)).mono ?_
  rintro e w2 ⟨rfl, b2, _⟩
  have H2 : Hid (Below h w w2) := (H0.out.1.later b2).2.2.1
  clear b2 H0 x9
  go_wp2_with fail
  go_ret
  exact ⟨rfl, H2.out⟩

end Go.Proofs.YtgkddimijmnpcaaGreatDoor

/-
  orset.Drop: the answer's Seen lies apart.
-/
namespace Go.Proofs.YtgkddimijmnpcaaGreatDoor
open Go.RowKit Go.Shelf
set_option linter.unusedVariables false
set_option linter.unusedSimpArgs false

set_option maxHeartbeats 1000000 in
set_option maxRecDepth 100000 in
/-- Drop takes it. -/
theorem drop_yesA (c : Ce) (p : Pl) (ao : Option Addr) (ca : Nat) (ds : List D2) (w : World) (hr : CRow w c p) (hf : Fit c) (hds : FRow w ao (flatD ds)) (hl : ds.length * 16 ≤ 140737488355328) (hk : (c.kind != 2) = false) :
    Calls Tryz.prog 61 #[ceV c p, .slice ao ds.length ca] w fun e w' => ∃ q, e = .returned (.tuple #[ceV (cE c (dropL c.ents ds)) q, .int .i64 0]) ∧ COwnE w.heap.size w' (cE c (dropL c.ents ds)) q ∧ Below w.heap.size w w' := by
  have H0 : Hid (Copy0 w w.heap.size c p (((w.alloc (.cells (ceL c p).toArray 30)).alloc (.cells (ceL ce0 pl0).toArray 30)))) := copy0_new w c p 30
  obtain ⟨h, hh⟩ : ∃ h, w.heap.size = h := ⟨_, rfl⟩
  rw [hh] at H0 ⊢
  have HR : Hid (CRow w c p ∧ Fit c ∧ FRow w ao (flatD ds) ∧ w.heap.size = h) := ⟨hr, hf, hds, hh⟩
  obtain ⟨L, hL⟩ : ∃ L, dropL c.ents ds = L := ⟨_, rfl⟩
  rw [hL]
  have HL : Hid (dropL c.ents ds = L) := hL
  clear hr hf hds hL
  go_enter Tryz.func61, Tryz.ntmps61
  go_wp2_with (first
    | (at_builtin
       refine wpList_onto rfl _ _ 33 rfl Tryz.underlying33 Tryz.infoDot rfl (by decide) (by decide) (B := h + 2) rfl rfl (own_nil _ (h + 2) _ _) (HR.out.2.2.1.later (HR.out.2.2.2.symm ▸ H0.out.1)) (flatD_len _) (fun u hu => oneD hu) (by omega) H0.out.size ?_
       intro so cs w1 o1 n1 b1
       clear n1
       simp only [Nat.zero_add, List.nil_append] at o1 ⊢
       have H1 : Hid (Copy0 w h c p w1 ∧ w1.ownsRow (h + 2) 32 2 (.slice so ds.length cs) ds.length (flatD ds)) := ⟨⟨H0.out.1.trans (b1.mono (by omega)), H0.out.2.1.under (by omega) b1, H0.out.2.2.under (by omega) b1⟩, o1⟩
       clear o1 b1 H0
       obtain ⟨k6, hk6⟩ : ∃ k, w1.heap.size = k := ⟨_, rfl⟩))
  have hal : Below w1.heap.size w1 (w1.alloc (.cells #[.slice so ds.length cs] 33)) := (Below.refl _ _).alloc (Nat.le_refl _) _
  have H2 : Hid (Copy0 w h c p (w1.alloc (.cells #[.slice so ds.length cs] 33)) ∧ (w1.alloc (.cells #[.slice so ds.length cs] 33)).ownsRow (h + 2) 32 2 (.slice so ds.length cs) ds.length (flatD ds) ∧ Has (w1.alloc (.cells #[.slice so ds.length cs] 33)) k6 [.slice so ds.length cs] ∧ h + 2 ≤ k6 ∧ (∀ g, (Value.slice so ds.length cs).ownBlock = some g → g < k6 ∧ h + 2 ≤ g)) :=
    ⟨H1.out.1.later hal, own_later H1.out.2 hal, hk6 ▸ has_new w1 [.slice so ds.length cs] _, by have := H1.out.1.size; omega, fun g hg => ⟨hk6 ▸ (H1.out.2.lt g hg).2, (H1.out.2.lt g hg).1⟩⟩
  clear H1 hal
  refine (sort_any (h + 2) so cs ds _ H2.out.2.1 hl H2.out.1.size).mono ?_
  rintro e w2 ⟨rfl, m, hml, hmem, hup, o2, g2⟩
  have H3 : Hid (Below h w w2 ∧ Has w2 h (ceL c p) ∧ Has w2 (h + 1) (ceL ce0 pl0) ∧ Has w2 k6 [.slice so ds.length cs] ∧ FRow w2 so (flatD m) ∧ Up m ∧ (∀ t, t ∈ m ↔ t ∈ ds) ∧ m.length = ds.length) := by
    have hn : ∀ g, g < h + 2 ∨ g = k6 → some g ≠ (Value.slice so ds.length cs).ownBlock := fun g hg e => by
      have := H2.out.2.2.2.2 g e.symm
      omega
    exact ⟨H2.out.1.1.trans (gb_to g2 (by have := H2.out.1.size; omega) fun k hk => by have := (H2.out.2.2.2.2 k hk).2; omega), gb_has g2 H2.out.1.2.1 (hn _ (Or.inl (by omega))), gb_has g2 H2.out.1.2.2 (hn _ (Or.inl (by omega))), gb_has g2 H2.out.2.2.1 (hn _ (Or.inr rfl)), o2.row, hup, hmem, hml⟩
  clear H2 hmem hup o2 g2 hml hk6
  obtain ⟨B, hB⟩ : ∃ B, w2.heap.size = B := ⟨_, rfl⟩
  have hB1 : h + 2 ≤ B := by have := H3.out.2.2.1.1; omega
  have hB6 : k6 < B := by have := H3.out.2.2.2.1.1; omega
  obtain ⟨t0, t1, t2, t3, t4, t5, t6, t7, t8, t9⟩ := H3.out.2.1.ten
  go_wp2_with fail
  refine (fcellO_any c p _ (HR.out.1.later (HR.out.2.2.2.symm ▸ H3.out.1)) HR.out.2.1).mono ?_
  rintro e w3 ⟨q, mid, rfl, P3, b3⟩
  rw [hB] at P3 b3
  obtain ⟨k7, hk7⟩ : ∃ k, w3.heap.size = k := ⟨_, rfl⟩
  have hal : Below w3.heap.size w3 (w3.alloc (.cells (ceL c q).toArray 30)) := (Below.refl _ _).alloc (Nat.le_refl _) _
  have H4 : Hid (Below B w2 (w3.alloc (.cells (ceL c q).toArray 30)) ∧ Has (w3.alloc (.cells (ceL c q).toArray 30)) k7 (ceL c q) ∧ Parts B mid (w3.alloc (.cells (ceL c q).toArray 30)) c q ∧ (∀ g, (Value.slice q.eo c.ents.length q.ec).ownBlock = some g → g < k7) ∧ B ≤ k7) :=
    ⟨b3.trans (hal.mono (by have := b3.size; omega)), hk7 ▸ has_new w3 (ceL c q) _, P3.later hal, fun g hg => hk7 ▸ (P3.1.lt g hg).2, by have := b3.size; omega⟩
  have hsz : (w3.alloc (.cells (ceL c q).toArray 30)).heap.size = k7 + 1 := by simp [hk7]
  have HP : Hid (Pred B (w3.alloc (.cells (ceL c q).toArray 30)) 110 #[.pointer (some ⟨k6, 0, none⟩)] (fun x => decide (dotE x ∈ m))) := fun W x hW hs => by
    have hb : Below B w2 W := H4.out.1.trans hW
    have hb2 : Below w2.heap.size w2 W := hB.symm ▸ hb
    have h6 := H3.out.2.2.2.1.under hB6 hb
    have e := H3.out.2.2.2.2.2.2.2
    exact dropIs_any m so cs k6 W x (by rw [e]; exact h6.at 0 rfl) (by omega) (H3.out.2.2.2.2.1.later hb2) (by rw [e]; exact hl) H3.out.2.2.2.2.2.1
  have HP3 : Hid (Parts B mid w3 c q ∧ w3.heap.size = k7) := ⟨P3, hk7⟩
  clear P3 b3 hal t0 t1 t2 t3 t4 t5 t6 t7 t8 t9
  go_wp2_with fail
  refine (delete_any (fun x => decide (dotE x ∈ m)) 110 #[.pointer (some ⟨k6, 0, none⟩)] enters_drop B B q.eo q.ec c.ents _ H4.out.2.2.1.1 (Nat.le_refl _) (by have := H4.out.2.2.2.2; omega) HP.out).mono ?_
  rintro e w5 ⟨rfl, o5, g5⟩
  rw [drop_same H3.out.2.2.2.2.2.2.1, HL.out] at o5 ⊢
  have hn7 : ∀ b, q.eo = some ⟨b, 0, none⟩ → b ≠ k7 := fun b hb e => by
    have := H4.out.2.2.2.1 b (by rw [hb]; rfl)
    omega
  have H5 : Hid (Has w5 k7 (ceL c q) ∧ Below h w w5 ∧ Has w5 (h + 1) (ceL ce0 pl0) ∧ FOwn B w5 q.eo (flatE L) ∧ FOwn B w5 q.lo (flatL c.elems) ∧ FOwn B w5 q.so (flatI c.seen)) := by
    have hn : some k7 ≠ (Value.slice q.eo c.ents.length q.ec).ownBlock := fun e => by
      have := H4.out.2.2.2.1 k7 e.symm
      omega
    have hb5 : Below B w2 w5 := H4.out.1.trans (gb_to g5 (by have := H4.out.2.2.2.2; omega) fun k hk => (H4.out.2.2.1.1.lt k hk).1)
    exact ⟨gb_has g5 H4.out.2.1 hn, H3.out.1.trans (hb5.mono (by omega)), H3.out.2.2.1.under (by omega) hb5, o5, (gb_fown g5 H4.out.2.2.1.2.1 H4.out.2.2.1.2.2.2.1).mono H4.out.2.2.1.2.2.1, (gb_fown g5 H4.out.2.2.1.2.1 H4.out.2.2.1.2.2.2.2).mono H4.out.2.2.1.2.2.1⟩
  have hk7B : B ≤ k7 := H4.out.2.2.2.2
  have E5 : Hid (Below h w (w5.setCell ⟨k7, 7, none⟩ (.slice q.eo L.length q.ec)) ∧ Has (w5.setCell ⟨k7, 7, none⟩ (.slice q.eo L.length q.ec)) (h + 1) (ceL ce0 pl0) ∧ COwnE (h + 2) (w5.setCell ⟨k7, 7, none⟩ (.slice q.eo L.length q.ec)) (cE c L) q) :=
    ⟨H5.out.2.1.setCell (p := ⟨k7, 7, none⟩) (by show h ≤ k7; omega) _, H5.out.2.2.1.other (by omega) _ _, ⟨(fown_apart H5.out.2.2.2.1 hn7 _).mono hB1, (fown_young HP3.out.1.2.2.2.1 (by rw [HP3.out.2]; exact Nat.le_refl _) H5.out.2.2.2.2.1 _).mono hB1, (fown_young HP3.out.1.2.2.2.2 (by rw [HP3.out.2]; exact Nat.le_refl _) H5.out.2.2.2.2.2 _).mono hB1⟩, fun g hg _ hs hl => by
      have hs' : 0 < (flatI c.seen).length := by rw [flatI_len]; have : 0 < c.seen.length := hs; omega
      have h1 := fown_lt HP3.out.1.2.2.2.2 hs' hg
      have h2 := HP3.out.1.2.1 g (by rw [show q.eo = some ⟨g, 0, none⟩ from hl]; rfl)
      omega⟩
  clear H3 H4 HP HP3 o5 g5 hsz hB hk7 hn7
  obtain ⟨t0, t1, t2, t3, t4, t5, t6, t7, t8, t9⟩ := H5.out.1.ten
  have y7 := H5.out.1.free 7 rfl
  obtain ⟨s0, s1, s2, s3, s4, s5, s6, s7, s8, s9⟩ := H5.out.2.2.1.ten
  obtain ⟨z0, z1, z2, z3, z4, z5, z6, z7, z8, z9⟩ := H5.out.2.2.1.tenf
  have hne : h + 1 ≠ k7 := by omega
  go_wp2_with fail
  exact drop_endA (d := cE c L) (q := q) (r4 := 4) E5.out.1 E5.out.2.1 E5.out.2.2 rfl rfl rfl rfl

end Go.Proofs.YtgkddimijmnpcaaGreatDoor

/-
  rga.Erase: the answer's Seen lies apart.
-/
namespace Go.Proofs.YtgkddimijmnpcaaGreatDoor
open Go.RowKit Go.Shelf
set_option linter.unusedVariables false
set_option linter.unusedSimpArgs false

/-- What the stores leave. -/
def AftEA (w : World) (h k7 : Nat) (c : Ce) (q : Pl) (L : List L5) (W : World) : Prop := Below h w W ∧ Has W (h + 2) (ceL ce0 pl0) ∧ Has W k7 (ceL (cL c L) q) ∧ COwnL (h + 3) W (cL c L) q

theorem aftE_ofA {w w3 w5 : World} {h k7 g B : Nat} {c : Ce} {p q : Pl} {d : D2} (F : FixE w w3 w5 h k7 g B c p q d) {k : Nat} (hk : k < c.elems.length) :
    AftEA w h k7 c q (c.elems.modify k markX) ((w5.drew.setCell ⟨g, k * 5 + 3, none⟩ (.string ByteArray.empty)).setCell ⟨g, k * 5 + 4, none⟩ (.bool true)) ∧
    AftEA w h k7 c q (c.elems.modify k markX) ((w5.drew.setCell ⟨g, k * 5 + 4, none⟩ (.bool true)).setCell ⟨g, k * 5 + 3, none⟩ (.string ByteArray.empty)) := by
  have hgB := F.gB
  have h3 := F.h3
  have hd : Below w5.heap.size w5 w5.drew := (Below.refl _ _).drew
  have S := F.s3.later hd
  have H7 := F.h7.later hd
  have P := F.pt.later hd
  have hlo := P.1
  rw [F.bk] at hlo
  have hrow : (Value.slice q.lo c.elems.length q.lc).ownBlock = some g := by rw [F.bk]; rfl
  have own := own_mark hlo hk
  have hgb : ∀ (o1 o2 : Nat) (v1 v2 : Value), w5.drew.grownBy ((w5.drew.setCell ⟨g, o1, none⟩ v1).setCell ⟨g, o2, none⟩ v2) (some g) := fun o1 o2 v1 v2 => gb_set (gb_set (gb_refl _ _) _ _) _ _
  have key : ∀ (o1 o2 : Nat) (v1 v2 : Value), ((w5.drew.setCell ⟨g, o1, none⟩ v1).setCell ⟨g, o2, none⟩ v2).ownsRow B 59 5 (.slice (some ⟨g, 0, none⟩) c.elems.length q.lc) c.elems.length (flatL (c.elems.modify k markX)) → AftEA w h k7 c q (c.elems.modify k markX) ((w5.drew.setCell ⟨g, o1, none⟩ v1).setCell ⟨g, o2, none⟩ v2) := fun o1 o2 v1 v2 ho => by
    have G := hgb o1 o2 v1 v2
    refine ⟨(S.1.setCell (p := ⟨g, o1, none⟩) (by show h ≤ g; omega) v1).setCell (p := ⟨g, o2, none⟩) (by show h ≤ g; omega) v2, (S.2.2.2.other (by omega) _ _).other (by omega) _ _, ?_, ⟨?_, ?_, ?_⟩, ?_⟩
    · have := (H7.other (k := g) (by omega) o1 v1).other (k := g) (by omega) o2 v2
      show Has _ k7 [_, _, _, _, _, _, _, _, .slice q.lo (c.elems.modify k markX).length q.lc, _]
      rw [List.length_modify]
      exact this
    · exact (gb_apart G (hrow ▸ P.2.2.2.1) P.2.1).mono (by omega)
    · have := own_row ho
      rw [← F.bk] at this
      exact this.mono (by omega)
    · exact (gb_apart G (hrow ▸ P.2.2.2.2) P.2.2.1).mono (by omega)
    · intro g' hg' _ hs hl
      have hs' : 0 < (flatI c.seen).length := by rw [flatI_len]; have : 0 < c.seen.length := hs; omega
      have hq : q.lo = some ⟨g', 0, none⟩ := hl
      exact P.2.2.2.2 hs' g' hg' (by rw [hq]; rfl)
  exact ⟨key _ _ _ _ own.1, key _ _ _ _ own.2⟩

set_option maxHeartbeats 2000000 in
set_option maxRecDepth 100000 in
/-- Erase takes it. -/
theorem era_yesA (c : Ce) (p : Pl) (d : D2) (k : Nat) (w : World) (hr : CRow w c p) (hf : Fit c) (hk : (c.kind != 3) = false) (ha : atD c.elems d = some k) :
    Calls Tryz.prog 65 #[ceV c p, dv d] w fun e w' => ∃ q, e = .returned (.tuple #[ceV (cL c (c.elems.modify k markX)) q, .int .i64 0]) ∧ COwnL w.heap.size w' (cL c (c.elems.modify k markX)) q ∧ Below w.heap.size w w' := by
  have H0 : Hid (Set3 w w.heap.size c p d.1 d.2 (((w.alloc (.cells (ceL c p).toArray 30)).alloc (.cells #[.int .i64 d.1, .int .i64 d.2] 32)).alloc (.cells (ceL ce0 pl0).toArray 30))) := set3_new _ _ _ _ _ _ _ _
  have hlen : c.elems.length ≤ maxLen := by have := hf.2.1; unfold maxLen; omega
  have hkl := atD_lt ha
  obtain ⟨h, hh⟩ : ∃ h, w.heap.size = h := ⟨_, rfl⟩
  rw [hh] at H0 ⊢
  have C := indexOf_any d p.lo p.lc c.elems _ (hr.later (hh.symm ▸ H0.out.1)).2.1 hlen
  rw [numD_some ha] at C
  have HR : Hid (CRow w c p ∧ Fit c ∧ w.heap.size = h) := ⟨hr, hf, hh⟩
  unfold maxLen at hlen
  obtain ⟨L, hL⟩ : ∃ L, c.elems.modify k markX = L := ⟨_, rfl⟩
  rw [hL]
  have HL : Hid (c.elems.modify k markX = L ∧ L.length = c.elems.length) := ⟨hL, hL ▸ List.length_modify ..⟩
  clear hr hf ha hL
  go_enter Tryz.func65, Tryz.ntmps65
  go_wp2_with fail
  refine C.mono ?_
  rintro e w2 ⟨rfl, b1⟩
  have H2 : Hid (Set3 w h c p d.1 d.2 w2) := H0.out.later b1
  clear b1 H0 C
  obtain ⟨B, hB⟩ : ∃ B, w2.heap.size = B := ⟨_, rfl⟩
  have hB3 : h + 3 ≤ B := by have := H2.out.size; omega
  obtain ⟨t0, t1, t2, t3, t4, t5, t6, t7, t8, t9⟩ := H2.out.2.1.ten
  have hkn : decide ((k : Int) < 0) = false := by simp
  go_wp2_with fail
  refine (fcellL_any c p _ (HR.out.1.later (HR.out.2.2.symm ▸ H2.out.1)) HR.out.2.1).mono ?_
  rintro e w3 ⟨q, rfl, P3, b3⟩
  rw [hB] at P3 b3
  obtain ⟨k7, hk7⟩ : ∃ k, w3.heap.size = k := ⟨_, rfl⟩
  have hal : Below w3.heap.size w3 (w3.alloc (.cells (ceL c q).toArray 30)) := (Below.refl _ _).alloc (Nat.le_refl _) _
  have hk7B : B ≤ k7 := by have := b3.size; omega
  obtain ⟨g, hg⟩ : ∃ g, q.lo = some ⟨g, 0, none⟩ := by
    obtain ⟨b, e, _⟩ := own_row P3.1 (by rw [flatL_len]; omega)
    exact ⟨b, e⟩
  have hgb : B ≤ g ∧ g < k7 := by
    have := P3.1.lt g (by rw [hg]; rfl)
    omega
  have HF : Hid (FixE w w3 (w3.alloc (.cells (ceL c q).toArray 30)) h k7 g B c p q d) := ⟨(H2.out.later (hB.symm ▸ b3)).later hal, hk7 ▸ has_new w3 (ceL c q) _, P3.later hal, P3, hk7, hg, hgb, hB3⟩
  clear P3 b3 hal t0 t1 t2 t3 t4 t5 t6 t7 t8 t9 H2 hg
  go_upto_region 7 with fail
  generalize hW : w3.alloc (.cells (ceL c q).toArray 30) = w5 at HF ⊢
  clear hW hB hk7
  have t8 := HF.out.h7.at 8 rfl
  rw [HF.out.bk] at t8
  have ow := HF.out.pt.1
  rw [HF.out.bk] at ow
  obtain ⟨x, hx⟩ : ∃ x, c.elems[k]? = some x := ⟨_, List.getElem?_eq_getElem hkl⟩
  obtain ⟨_, _, _, g3, g4⟩ := flatL_at c.elems k hx
  have c3 := (ow.cellAt (k * 5 + 3) (by omega)).trans g3
  have c4 := (ow.cellAt (k * 5 + 4) (by omega)).trans g4
  have f3 := ow.frozenAt (k * 5 + 3)
  have f4 := ow.frozenAt (k * 5 + 4)
  have hkl2 : (k : Int) < (c.elems.length : Int) := by omega
  have hgk : g ≠ k7 := by omega
  clear ow hx g3 g4
  go_cut [7] from 8 to 31 (fun r wx => r = .pointer (some ⟨k7, 0, none⟩) ∧ Hid (AftEA w h k7 c q L wx))
  case first =>
    go_region
    all_goals
      (go_wp2
       go_meet
       case rel => exact ⟨rfl, HL.out.1 ▸ (by first | exact (aftE_ofA HF.out hkl).1 | exact (aftE_ofA HF.out hkl).2)⟩)
  case rest =>
    obtain ⟨w8, rfl⟩ : ∃ z, z = wc := ⟨_, rfl⟩
    obtain ⟨rfl, HQ⟩ := hcut
    clear HF t8 c3 c4 f3 f4
    obtain ⟨t0, t1, t2, t3, t4, t5, t6, t7, t8, t9⟩ := HQ.out.2.2.1.ten
    obtain ⟨s0, s1, s2, s3, s4, s5, s6, s7, s8, s9⟩ := HQ.out.2.1.ten
    obtain ⟨z0, z1, z2, z3, z4, z5, z6, z7, z8, z9⟩ := HQ.out.2.1.tenf
    go_wp2_with fail
    exact rendA (d := cL c L) (a := h + 2) (B := h + 3) (r := 4) HQ.out.1 HQ.out.2.1 HQ.out.2.2.2 (by omega) (by omega) rfl rfl rfl rfl


end Go.Proofs.YtgkddimijmnpcaaGreatDoor

/-
  An operation is read out of its block in one step.
-/
namespace Go.Proofs.YtgkddimijmnpcaaGreatDoor
open Go.RowKit
set_option linter.unusedVariables false
set_option linter.unusedSimpArgs false

theorem Tryz.infoOp : (Tryz.prog.info? 35).map (·.size) = some 14 := by kernel_rfl
/-- Read in one step. -/
abbrev Ld (W : World) (g : Nat) (v : Value) : Prop := (Instr.loadAt 35 (.pointer (some ⟨g, 0, none⟩))).run Tryz.prog W = .ok v W
theorem ld_op {W : World} {g : Nat} {o : O14} {q : Pq} (h : Has W g (oL o q)) : Ld W g (oV o q) :=
  run_loadAt_mid W g 0 35 (oL o q) _ (fun j v hv => by rw [Nat.zero_add]; exact h.at j hv) Tryz.underlying35 rfl Tryz.infoOp
theorem ld_any {B : Nat} {W : World} {g : Nat} {o : O14} {q : Pq} (h : Has W g (oL o q)) (hg : g < B) (r : MW B W) : Ld r.w g (oV o q) := ld_op (h.under hg r.h.1)

theorem exec_ld {op : Oper} {a : Act} {W : World} {x : Operand} {g : Nat} {v : Value} (hl : Ld W g v) (ho : op.op = .load 35 x) (hx : a.eval x = .pointer (some ⟨g, 0, none⟩)) : (execOp a.eval op).run Tryz.prog W = .ok (.value v) W := by
  unfold execOp
  simp only [ho, hx, Sem.run_bind, Sem.run_pure, Result.andThen_ok, hl]
/-- At a list of operations. -/
theorem wpList_ld {ops : Array Oper} {rest : List Oper} {op : Oper} {a : Act} {W : World} {Q : Exit → Act → World → Prop} {x : Operand} {g : Nat} {v : Value} (hl : Ld W g v) (hw : Region.wanted op (yielded ops a.tmps) = true) (ho : op.op = .load 35 x) (hx : a.eval x = .pointer (some ⟨g, 0, none⟩))
    (h : wpList Tryz.prog ops Q rest (a.put op.dst v) W) : wpList Tryz.prog ops Q (op :: rest) a W :=
  BigFrame.wpList_want hw fun K hK => by
    unfold Oper.wp
    rw [exec_ld hl ho hx]
    exact hK _ _ h
/-- In a region that draws its order. -/
theorem wpQuiet_ld {ops : Array Oper} {rest : List Oper} {op : Oper} {a : Act} {C : World → Prop} {Q : Act → Prop} {x : Operand} {g : Nat} {v : Value} (hl : ∀ w, C w → Ld w g v) (hw : Region.wanted op (yielded ops a.tmps) = true) (ho : op.op = .load 35 x) (hx : a.eval x = .pointer (some ⟨g, 0, none⟩))
    (h : wpQuiet Tryz.prog ops C Q rest (a.put op.dst v)) : wpQuiet Tryz.prog ops C Q (op :: rest) a :=
  BigFrame.wpQuiet_want hw fun K hK => ⟨v, fun w hC => by
    unfold Oper.quietAt
    rw [exec_ld (hl w hC) ho hx]
    exact ⟨rfl, rfl⟩, hK _ h⟩
/-- .. of the worlds that stand above one. -/
theorem ld_mild {B : Nat} {W : World} {g : Nat} {o : O14} {q : Pq} (h : Has W g (oL o q)) (hg : g < B) : ∀ w, (∃ r : MW B W, w = r.w) → Ld w g (oV o q) := fun w ⟨r, e⟩ => e ▸ ld_any h hg r

end Go.Proofs.YtgkddimijmnpcaaGreatDoor

