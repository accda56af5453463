/-
  slices.SortFunc at a row of dots of the call's own: the same dots, standing by order.Dots. The closure of Drop: is a dot among them?
-/
import Derived.Test.YtedgobdeoheaoaaBin9
import Derived.Test.YtedgobdeoheaoaaShelf9
namespace Go.Proofs.Ytedgobdeoheaoaa
open Go.RowKit Go.Shelf
set_option linter.unusedVariables false
set_option linter.unusedSimpArgs false

theorem gb_row {α : Type} [Inhabited α] (enc : α → Value) (w : World) (n blk off : Nat) (d : Array α) (os : Array Obj) : w.grownBy (Sort.grow (Sort.putRow enc (Sort.ahead w n) blk off d) os) (some blk) := by
  refine ⟨rfl, rfl, rfl, ?_, fun k hk hne => ?_⟩
  · show w.heap.size ≤ (((Sort.ahead w n).heap.modify blk _) ++ os).size
    simp [Sort.ahead]
  · show (((Sort.ahead w n).heap.modify blk _) ++ os)[k]? = w.heap[k]?
    have e : (Sort.ahead w n).heap = w.heap := rfl
    rw [e, Array.getElem?_append_left (by simp; omega), Array.getElem?_modify, if_neg (fun e => hne (by rw [e]))]

theorem ltOf_cmp (x y : D2) : ltOf cmpD x y = ltD x y := by
  unfold ltOf
  rw [Bool.eq_iff_iff, decide_eq_true_eq]
  exact cmpD_neg x y

theorem swo_cmp : Sort.SWO (ltOf cmpD) where
  irrefl x := by rw [ltOf_cmp]; simp [ltD]
  trans x y z h1 h2 := by
    rw [ltOf_cmp] at *
    simp only [ltD, decide_eq_true_eq] at *
    omega
  ntrans x y z h1 h2 := by
    rw [ltOf_cmp] at *
    simp only [ltD, decide_eq_false_iff_not] at *
    omega

theorem enters_cmp : ∀ args w, (callFunc 39 args).run Try.prog w = .ok (.enter 39 args) w := enters_of Try.func39 (by kernel_rfl) rfl

theorem cmp_lays (blk off size : Nat) (w : World) : CmpLays Try.prog 39 #[] d2 2 cmpD blk off size w := fun m os dk hs x y => by
  refine Calls.mono (odots_any x y _) ?_
  rintro e w' ⟨rfl, rfl⟩
  refine ⟨rfl, 0, #[.cells #[.int .i64 x.1, .int .i64 x.2] 32, .cells #[.int .i64 y.1, .int .i64 y.2] 32], ?_⟩
  rw [Sort.alloc_eq_grow, Sort.alloc_eq_grow, Sort.grow_grow]
  rfl

theorem flatD_K (l : List D2) (j : Nat) (hj : j < l.length * 2) : (flatD l)[j]? = some (Sort.flatK d2 2 l.toArray)[j]! := by
  rw [Sort.get_flatK _ _ _ _ (by simpa using hj)]
  have hi : j / 2 < l.length := by omega
  have h := flat_get d2 2 (fun _ => rfl) l (j / 2) (j % 2) (Nat.mod_lt _ (by decide)) (List.getElem?_eq_getElem hi)
  have e : j / 2 * 2 + j % 2 = j := by omega
  rw [e] at h
  have e2 : l.toArray[j / 2]! = l[j / 2] := by simp [hi]
  rw [e2]
  show (l.flatMap d2)[j]? = _
  rw [h]
  have hm : j % 2 < 2 := Nat.mod_lt _ (by decide)
  match j % 2, hm with
  | 0, _ => rfl
  | 1, _ => rfl

theorem holdsK_of {C g n c : Nat} {e : TypeId} {w : World} {l : List D2} (hn : n = l.length) (h : w.ownsRow C e 2 (.slice (some ⟨g, 0, none⟩) n c) n (flatD l)) : Sort.HoldsK d2 2 w g 0 l.toArray := fun j hj => by
  subst hn
  have hj2 : j < l.length * 2 := by simpa using hj
  rw [Nat.zero_add]
  exact ⟨(h.cellAt j hj2).trans (flatD_K l j hj2), h.frozenAt j⟩

theorem fown_of_holds {C g : Nat} {w : World} {l : List D2} (hC : C ≤ g) (hg : g < w.heap.size) (h : Sort.HoldsK d2 2 w g 0 l.toArray) : FOwn C w (some ⟨g, 0, none⟩) (flatD l) := fun _ => by
  refine ⟨g, rfl, hC, hg, fun j u hu => ?_⟩
  have hj := (List.getElem?_eq_some_iff.1 hu).1
  rw [flatD_len] at hj
  have := h j (by simpa using hj)
  rw [Nat.zero_add] at this
  refine ⟨this.1.trans ?_, this.2⟩
  rw [← hu, flatD_K l j hj]
  rfl

theorem sort_any (C : Nat) (ao : Option Addr) (ca : Nat) (l : List D2) (w : World) (hs : w.ownsRow C 32 2 (.slice ao l.length ca) l.length (flatD l)) (hl : l.length * 16 ≤ 140737488355328) (hC : C ≤ w.heap.size) :
    Calls Try.prog 38 #[.slice ao l.length ca, .func (.func 39) #[] #[]] w fun e w' => e = .returned (.tuple #[]) ∧ ∃ m, m.length = l.length ∧ (∀ t, t ∈ m ↔ t ∈ l) ∧ Up m ∧ FOwn C w' ao (flatD m) ∧ w.grownBy w' (Value.slice ao l.length ca).ownBlock := by
  by_cases h0 : l.length = 0
  · obtain rfl : l = [] := List.eq_nil_of_length_eq_zero h0
    refine Calls.mono (AnyF.slices_SortFunc_none laySort ao ca _ w) ?_
    rintro e w' ⟨rfl, rfl⟩
    exact ⟨rfl, [], rfl, fun t => Iff.rfl, fun i j x y _ hx => by simp at hx, FOwn.nil _ _ _, gb_refl _ _⟩
  · rcases hs.2 with ⟨_, h2⟩ | ⟨g, cap, cur, h2, _⟩
    · omega
    · simp only [Value.slice.injEq] at h2
      obtain ⟨rfl, _, rfl⟩ := h2
      have hCg := (hs.lt g rfl).1
      have hgw := (hs.lt g rfl).2
      have hH := holdsK_of rfl hs
      have hcon := AnyQ.slices_SortFunc laySort 2 Try.isAgg32 Try.sizeOf32 d2 (fun _ => rfl) (fun x v hv => by
        simp only [d2, List.mem_cons, List.not_mem_nil, or_false] at hv
        rcases hv with rfl | rfl <;> rfl) cmpD swo_cmp 39 #[] g 0 ca l.toArray w enters_cmp (cmp_lays g 0 _ w) hH hgw (by simp; omega)
      refine Calls.mono hcon ?_
      rintro e w' ⟨rfl, d', n, os, hp, hsd, rfl⟩
      obtain ⟨hsz, _, hperm⟩ := hp
      have hsz' : d'.size = l.length := by simpa using hsz
      have hpm : d'.toList.Perm l := by
        have e1 : d'.extract 0 l.toArray.size = d' := by rw [← hsz]; simp
        have e2 : l.toArray.extract 0 l.toArray.size = l.toArray := by simp
        rw [e1, e2] at hperm
        simpa using hperm
      refine ⟨rfl, d'.toList, by simpa using hsz', fun t => hpm.mem_iff, fun i j x y hij hx hy => ?_, ?_, ?_⟩
      · have hi := (List.getElem?_eq_some_iff.1 hx).1
        have hj := (List.getElem?_eq_some_iff.1 hy).1
        have := hsd i j (Nat.zero_le _) hij (by simp at hj; simp; omega)
        rw [ltOf_cmp] at this
        have ex : d'[i]! = x := by
          have h1 : i < d'.size := by simpa using hi
          rw [getElem!_pos d' i h1]
          simpa [h1] using hx
        have ey : d'[j]! = y := by
          have h1 : j < d'.size := by simpa using hj
          rw [getElem!_pos d' j h1]
          simpa [h1] using hy
        rwa [ex, ey] at this
      · refine fown_of_holds hCg (Nat.lt_of_lt_of_le hgw (size_sortWorldK_c d2 2 w g 0 n d' os)) ?_
        have := holdsK_sortWorldK_c d2 2 w g 0 l.toArray d' n os hH hgw hsz
        simpa using this
      · exact gb_row id w n g 0 _ os

end Go.Proofs.Ytedgobdeoheaoaa
