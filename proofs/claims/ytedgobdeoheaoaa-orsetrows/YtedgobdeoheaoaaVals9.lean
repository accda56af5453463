/-
  Package orset's Values by contract: slices.Sort and slices.Compact at a row of texts of the call's own.
-/
import Derived.Test.YtedgobdeoheaoaaSetV
import Derived.Test.YtedgobdeoheaoaaShelf9
import Derived.Test.YtedgobdeoheaoaaClone
namespace Go.Proofs.Ytedgobdeoheaoaa
open Go.RowKit Go.Shelf
set_option linter.unusedVariables false
set_option linter.unusedSimpArgs false

/-- The texts of a row of entries. -/
def valsL (l : List E3) : List S8 := l.map fun x => x.val.data.toList
/-- A row of texts, as it lies. -/
def flatS (l : List S8) : List Value := l.map encStr
theorem flatS_len (l : List S8) : (flatS l).length = l.length := by simp [flatS]
theorem flatS_append (l m : List S8) : flatS (l ++ m) = flatS l ++ flatS m := by simp [flatS]
theorem flatS_at {l : List S8} {i : Nat} {x : S8} (h : l[i]? = some x) : (flatS l)[i]? = some (.string ⟨x.toArray⟩) := by
  simp [flatS, h]
theorem oneS {l : List S8} {u : Value} (h : u ∈ flatS l) : u.oneCell' = true := by
  obtain ⟨x, _, rfl⟩ := List.mem_map.1 h
  rfl
theorem valsL_len (l : List E3) : (valsL l).length = l.length := by simp [valsL]
theorem valsL_step {l : List E3} {i : Nat} {x : E3} (hx : l[i]? = some x) : valsL (l.take (i + 1)) = valsL (l.take i) ++ [x.val.data.toList] := by
  unfold valsL
  rw [List.take_add_one, hx, List.map_append]
  rfl
theorem Try.infoString : (Try.prog.info? 9).map (fun i => (i.zero, i.size, i.bytes)) = some (some (.string ByteArray.empty), 1, 16) := by kernel_rfl

theorem holdsS_of {C g : Nat} {w : World} {l : List S8} (h : FOwn C w (some ⟨g, 0, none⟩) (flatS l)) : Sort.Holds encStr w g 0 l.toArray := fun j hj => by
  have hj2 : j < l.length := by simpa using hj
  obtain ⟨b, e, _, _, hc⟩ := h (by rw [flatS_len]; omega)
  obtain rfl : g = b := by simpa using e
  rw [Nat.zero_add]
  have := hc j _ (flatS_at (List.getElem?_eq_getElem hj2))
  refine ⟨this.1.trans ?_, this.2⟩
  have e2 : l.toArray[j]! = l[j] := by simp [hj2]
  rw [e2]

theorem fown_of_holdsS {C g : Nat} {w : World} {l : List S8} (hC : C ≤ g) (hg : g < w.heap.size) (h : ∀ j, j < l.length → w.cell? ⟨g, 0 + j, none⟩ = some (encStr l.toArray[j]!) ∧ w.frozen? ⟨g, 0 + j, none⟩ = false) : FOwn C w (some ⟨g, 0, none⟩) (flatS l) := fun _ => by
  refine ⟨g, rfl, hC, hg, fun j u hu => ?_⟩
  have hj := (List.getElem?_eq_some_iff.1 hu).1
  rw [flatS_len] at hj
  have := h j hj
  rw [Nat.zero_add] at this
  refine ⟨this.1.trans ?_, this.2⟩
  have e2 : l.toArray[j]! = l[j] := by simp [hj]
  rw [e2, ← hu, flatS_at (List.getElem?_eq_getElem hj)]

theorem fown_same {C g j : Nat} {w : World} {xs : List Value} {u : Value} (h : FOwn C w (some ⟨g, 0, none⟩) xs) (hu : xs[j]? = some u) : FOwn C (w.setCell ⟨g, j, none⟩ u) (some ⟨g, 0, none⟩) xs := fun h0 => by
  obtain ⟨b, e, h1, h2, h3⟩ := h h0
  obtain rfl : g = b := by simpa using e
  refine ⟨g, rfl, h1, by simpa using h2, fun i v hv => ?_⟩
  by_cases hij : i = j
  · subst hij
    obtain rfl : u = v := by rw [hu] at hv; exact Option.some.inj hv
    exact ⟨World.cell?_setCell_same' _ _ _ (by rw [(h3 i u hu).1]; rfl), by rw [World.frozen?_setCell]; exact (h3 i u hu).2⟩
  · have hne : (⟨g, i, none⟩ : Addr) ≠ ⟨g, j, none⟩ := fun e => hij (by injection e)
    exact ⟨(World.cell?_setCell_other _ _ _ _ hne.symm).trans (h3 i v hv).1, by rw [World.frozen?_setCell]; exact (h3 i v hv).2⟩

theorem compact_le (zs : List S8) : (Lib.compact zs).length ≤ zs.length := by
  unfold Lib.compact Lib.compactUpTo
  rw [List.length_map]
  exact Nat.le_trans (List.length_filter_le _ _) (by simp)

/-- The row sorted. -/
def sortS (l : List S8) : List S8 := l.mergeSort fun x y => decide (x ≤ y)
theorem sortS_len (l : List S8) : (sortS l).length = l.length := by simp [sortS]

theorem sortS_any (C : Nat) (ao : Option Addr) (ca : Nat) (l : List S8) (w : World) (hs : FOwn C w ao (flatS l)) (hl : l.length * 16 ≤ 140737488355328) :
    Calls Try.prog 44 #[.slice ao l.length ca] w fun e w' => e = .returned (.tuple #[]) ∧ FOwn C w' ao (flatS (sortS l)) ∧ w.grownBy w' (ao.map (·.block)) := by
  by_cases h0 : l.length = 0
  · obtain rfl : l = [] := List.eq_nil_of_length_eq_zero h0
    refine Calls.mono (AnyM.slices_Sort_string_none laySorts ao ca w) ?_
    rintro e w' ⟨rfl, rfl⟩
    exact ⟨rfl, fun h => absurd h (by simp [flatS, sortS]), gb_refl _ _⟩
  · obtain ⟨g, rfl, hg, hgw, _⟩ := hs (by rw [flatS_len]; omega)
    have hH := holdsS_of hs
    refine Calls.mono (AnyM.slices_Sort_string laySorts g 0 ca l w hH hgw (by omega)) ?_
    rintro e w' ⟨rfl, n, os, rfl⟩
    refine ⟨rfl, ?_, gb_row _ w n g 0 _ os⟩
    have hsz : w.heap.size ≤ (Sort.grow (Sort.putRow encStr (Sort.ahead w n) g 0 (sortS l).toArray) os).heap.size := (gb_row _ w n g 0 _ os).size
    refine fown_of_holdsS hg (Nat.lt_of_lt_of_le hgw hsz) fun j hj => ?_
    have := holds_sortWorld encStr w g 0 n l.toArray (sortS l).toArray os hgw hH (by simp [sortS_len]) j (by simpa using hj)
    exact this

theorem compactS_any (C : Nat) (ao : Option Addr) (ca : Nat) (l : List S8) (w : World) (hs : FOwn C w ao (flatS l)) (hl : l.length * 16 ≤ 140737488355328) (hc : l.length ≤ ca) :
    Calls Try.prog 45 #[.slice ao l.length ca] w fun e w' => e = .returned (.slice ao (Lib.compact l).length ca) ∧ FOwn C w' ao (flatS (Lib.compact l)) ∧ w.grownBy w' (ao.map (·.block)) := by
  by_cases h0 : l.length = 0
  · obtain rfl : l = [] := List.eq_nil_of_length_eq_zero h0
    refine Calls.mono (AnyG.slices_Compact_string_empty layCompact ao ca w) ?_
    rintro e w' ⟨rfl, rfl⟩
    exact ⟨rfl, fun h => absurd h (by decide), gb_refl _ _⟩
  · obtain ⟨g, rfl, hg, hgw, _⟩ := hs (by rw [flatS_len]; omega)
    have hH := holdsS_of hs
    refine Calls.mono (AnyG.slices_Compact_string layCompact g 0 ca l w hH (by omega) hc) ?_
    rintro e w' ⟨rfl, n, rfl⟩
    have hle := compact_le l
    have hG : w.grownBy (Sort.putRow encStr (Sort.ahead w n) g 0 (Lib.compact l ++ List.replicate (l.length - (Lib.compact l).length) []).toArray) (some g) := by
      have := gb_row encStr w n g 0 (Lib.compact l ++ List.replicate (l.length - (Lib.compact l).length) []).toArray #[]
      have e : ∀ W : World, Sort.grow W #[] = W := fun W => by cases W; simp [Sort.grow]
      rw [e] at this
      exact this
    refine ⟨rfl, ?_, hG⟩
    refine fown_of_holdsS hg (Nat.lt_of_lt_of_le hgw hG.size) fun j hj => ?_
    have := Sort.holds_putRow encStr (Sort.ahead w n) g 0 l.toArray (Lib.compact l ++ List.replicate (l.length - (Lib.compact l).length) []).toArray hH (by simp; omega) j (by simp; omega)
    have e : (Lib.compact l ++ List.replicate (l.length - (Lib.compact l).length) []).toArray[j]! = (Lib.compact l).toArray[j]! := by
      have h1 : j < (Lib.compact l ++ List.replicate (l.length - (Lib.compact l).length) []).length := by simp; omega
      simp only [List.getElem!_toArray, getElem!_pos, h1, hj]
      exact List.getElem_append_left hj
    rwa [e] at this

set_option maxHeartbeats 400000 in
set_option maxRecDepth 100000 in
/-- Values refuses. -/
theorem vals_no (c : Ce) (p : Pl) (w : World) (hk : (c.kind != 2) = true) :
    Calls Try.prog 14 #[ceV c p] w fun e w' => e = .returned (.tuple #[.slice none 0 0, .int .i64 900]) ∧ Below w.heap.size w w' := by
  go_enter Try.func14, Try.ntmps14
  go_wp2
  go_ret2
  exact ⟨rfl, (Below.refl _ _).alloc (Nat.le_refl _) _⟩

theorem own_blk {B : Nat} {e : TypeId} {s n c : Nat} {ao : Option Addr} {xs : List Value} {w : World} (h : w.ownsRow B e s (.slice ao n c) n xs) : ∀ k, ao.map (·.block) = some k → B ≤ k := fun k hk => by
  rcases h.2 with ⟨h1, h2⟩ | ⟨g, cap, cur, h1, _⟩
  · simp only [Value.slice.injEq] at h1
    obtain ⟨rfl, _⟩ := h1
    simp at hk
  · simp only [Value.slice.injEq] at h1
    obtain ⟨rfl, _⟩ := h1
    obtain rfl : g = k := by simpa using hk
    exact (h.lt g rfl).1

/-- What the loop keeps. -/
def Vl (w : World) (h : Nat) (c : Ce) (p : Pl) (l : List S8) (ao : Option Addr) (ca : Nat) (wr : World) : Prop :=
  Below h w wr ∧ Has wr h (ceL c p) ∧ wr.ownsRow (h + 1) 9 1 (.slice ao l.length ca) l.length (flatS l)

theorem vl_later {w wr w2 : World} {h : Nat} {c : Ce} {p : Pl} {l : List S8} {ao : Option Addr} {ca : Nat} (H : Vl w h c p l ao ca wr) (hb : Below wr.heap.size wr w2) : Vl w h c p l ao ca w2 :=
  ⟨H.1.trans (hb.mono (by have := H.2.1.1; omega)), H.2.1.later hb, own_later H.2.2 hb⟩

theorem vl_grown {w wr w2 : World} {h : Nat} {c : Ce} {p : Pl} {l : List S8} {x : ByteArray} {ao bo : Option Addr} {ca cb : Nat} {o : Obj} (H : Vl w h c p l ao ca wr) (o2 : w2.ownsRow (h + 1) 9 1 (.slice bo (l.length + 1) cb) (l.length + 1) (flatS l ++ [.string x])) (b2 : Below (h + 1) (wr.alloc o) w2) : Vl w h c p (l ++ [x.data.toList]) bo cb w2 := by
  have hs := H.2.1.1
  have hal : Below (h + 1) wr (wr.alloc o) := (Below.refl _ _).alloc (by omega) _
  refine ⟨H.1.trans ((hal.trans b2).mono (by omega)), H.2.1.under (by omega) (hal.trans b2), ?_⟩
  rw [flatS_append, List.length_append]
  exact o2

set_option maxHeartbeats 2000000 in
set_option maxRecDepth 100000 in
/-- Values takes it. -/
theorem vals_yes (c : Ce) (p : Pl) (w : World) (hr : CRow w c p) (hf : Fit c) (hk : (c.kind != 2) = false) :
    Calls Try.prog 14 #[ceV c p] w fun e w' => ∃ ao ca, e = .returned (.tuple #[.slice ao (setV (valsL c.ents)).length ca, .int .i64 0]) ∧ FOwn w.heap.size w' ao (flatS (setV (valsL c.ents))) ∧ Below w.heap.size w w' := by
  obtain ⟨h, hh⟩ : ∃ h, w.heap.size = h := ⟨_, rfl⟩
  obtain ⟨eo, ec, lo, lc, so, sc⟩ := p
  have H0 : Hid (Vl w h c ⟨eo, ec, lo, lc, so, sc⟩ [] none 0 (w.alloc (.cells (ceL c ⟨eo, ec, lo, lc, so, sc⟩).toArray 30))) := ⟨hh ▸ (Below.refl _ _).alloc (Nat.le_refl _) _, hh ▸ has_new w (ceL c ⟨eo, ec, lo, lc, so, sc⟩) _, own_nil _ _ _ _⟩
  have HR : Hid (FRow w eo (flatE c.ents) ∧ w.heap.size = h) := ⟨hr.1, hh⟩
  have hl := hf.1
  have HS : Hid (∀ x, x ∈ valsL c.ents → x.length ≤ 140737488351232) := fun x hx => by
    obtain ⟨y, hy, rfl⟩ := List.mem_map.1 hx
    obtain ⟨i, hi⟩ := List.getElem?_of_mem hy
    have := hf.2.2.2.2.1 i y hi
    simpa using this
  obtain ⟨m, hm⟩ : ∃ m, setV (valsL c.ents) = m := ⟨_, rfl⟩
  rw [hh, hm]
  have HMV : Hid (setV (valsL c.ents) = m) := hm
  clear hr hf hm
  go_enter Try.func14, Try.ntmps14
  go_wp2
  clear hh
  go_loopg [4, 6, 14] c.ents.length (fun n s4 _ iv wr => ∃ (i : Nat) (ao : Option Addr) (ca : Nat), i + n = c.ents.length ∧ iv = .int .i64 i ∧ s4 = .slice ao i ca ∧ Hid (Vl w h c ⟨eo, ec, lo, lc, so, sc⟩ (valsL (c.ents.take i)) ao ca wr))
  case atStart => exact ⟨0, none, 0, by omega, rfl, rfl, H0.out⟩
  case round =>
    clear H0
    obtain ⟨i, ao, ca, hin, rfl, rfl, HD⟩ := hrel
    by_cases hi : i < c.ents.length
    · obtain ⟨bk, off, rfl, hb, hc⟩ := HR.out.1 (by rw [flatE_len]; omega)
      obtain ⟨x, hx⟩ : ∃ x, c.ents[i]? = some x := ⟨_, List.getElem?_eq_getElem hi⟩
      obtain ⟨g0, g1, g2⟩ := flatE_at c.ents i hx
      have hb1 : bk < h := HR.out.2 ▸ hb
      have k0 := (HD.out.1.cell (p := ⟨bk, off + i * 3, none⟩) (by exact hb1)).trans (hc _ _ g0)
      have k1 := (HD.out.1.cell (p := ⟨bk, off + i * 3 + 1, none⟩) (by exact hb1)).trans (hc _ _ g1)
      have k2 := (HD.out.1.cell (p := ⟨bk, off + i * 3 + 2, none⟩) (by exact hb1)).trans (hc _ _ g2)
      obtain ⟨n1, hn1⟩ : ∃ n, wr.heap.size = n := ⟨_, rfl⟩
      have hbn : bk < n1 := by have := HD.out.2.1.1; omega
      have hal : Below wr.heap.size wr (wr.alloc (.cells #[.int .i64 x.node, .int .i64 x.seq, .string x.val] 65)) := (Below.refl _ _).alloc (Nat.le_refl _) _
      have HE : Hid (Vl w h c ⟨some ⟨bk, off, none⟩, ec, lo, lc, so, sc⟩ (valsL (c.ents.take i)) ao ca (wr.alloc (.cells #[.int .i64 x.node, .int .i64 x.seq, .string x.val] 65))) := vl_later HD.out hal
      have HV : Hid (valsL (c.ents.take (i + 1)) = valsL (c.ents.take i) ++ [x.val.data.toList] ∧ (valsL (c.ents.take i)).length = i) := ⟨valsL_step hx, by rw [valsL_len, List.length_take]; omega⟩
      clear hc hx g0 g1 g2 hal hb
      generalize valsL (c.ents.take i) = l at *
      have R2 : FRow ((wr.alloc (.cells #[.int .i64 x.node, .int .i64 x.seq, .string x.val] 65)).alloc (.cells #[.string x.val] 9)) (some ⟨n1 + 1, 0, none⟩) [.string x.val] := frow_newAt (by simp [hn1]) [.string x.val] _
      have HO : Hid ((wr.alloc (.cells #[.int .i64 x.node, .int .i64 x.seq, .string x.val] 65)).ownsRow (h + 1) 9 1 (.slice ao i ca) i (flatS l)) := by
        have := HE.out.2.2
        rw [HV.out.2] at this
        exact this
      go_wp2_with (first
        | (at_builtin
           refine wpList_onto rfl _ _ 43 rfl Try.underlying43 Try.infoString rfl (by decide) (by decide) (B := h + 1) rfl rfl (own_later HO.out ((Below.refl _ _).alloc (Nat.le_refl _) _)) R2 rfl (fun u hu => by obtain rfl := List.mem_singleton.1 hu; rfl) (by omega) (by have := HE.out.2.1.1; simp at this ⊢; omega) ?_
           intro bo cb w2 o2 n2 b2
           have H2 : Hid (Vl w h c ⟨some ⟨bk, off, none⟩, ec, lo, lc, so, sc⟩ (l ++ [x.val.data.toList]) bo cb w2) := vl_grown HE.out (by rw [HV.out.2]; exact o2) b2
           clear o2 n2 b2))
      go_roundg (gk - 1)
      case measure => omega
      case rel => exact ⟨i + 1, bo, cb, by omega, by go_num, rfl, by rw [HV.out.1]; exact H2.out⟩
    · have hd : decide ((i : Int) < (c.ents.length : Int)) = false := by simp; omega
      have e : i = c.ents.length := by omega
      subst e
      rw [List.take_length] at HD
      have HN : Hid ((valsL c.ents).length = c.ents.length) := valsL_len _
      have C1 := sortS_any (h + 1) ao ca (valsL c.ents) wr (own_row HD.out.2.2) (by rw [HN.out]; omega)
      rw [HN.out] at C1
      have HB : Hid ((∀ k, ao.map (·.block) = some k → h + 1 ≤ k) ∧ c.ents.length ≤ ca ∧ Below h w wr ∧ h < wr.heap.size) := ⟨own_blk HD.out.2.2, HN.out ▸ (own_cap HD.out.2.2).1, HD.out.1, HD.out.2.1.1⟩
      clear hin hi HD
      go_wp2_with fail
      refine C1.mono ?_
      rintro e w1 ⟨rfl, F1, G1⟩
      have H1 : Hid (FOwn (h + 1) w1 ao (flatS (sortS (valsL c.ents))) ∧ Below h w w1 ∧ h < w1.heap.size) := ⟨F1, HB.out.2.2.1.trans ((gb_to G1 (by have := HB.out.2.2.2; omega) HB.out.1).mono (by omega)), Nat.lt_of_lt_of_le HB.out.2.2.2 G1.size⟩
      have C2 := compactS_any (h + 1) ao ca (sortS (valsL c.ents)) w1 H1.out.1 (by rw [sortS_len, HN.out]; omega) (by rw [sortS_len, HN.out]; exact HB.out.2.1)
      rw [sortS_len, HN.out] at C2
      have e2 : Lib.compact (sortS (valsL c.ents)) = m := HMV.out ▸ compact_sort _
      rw [e2] at C2
      clear C1 F1 G1 e2
      go_wp2_with fail
      refine C2.mono ?_
      rintro e w2 ⟨rfl, F2, G2⟩
      have HM : Hid ((∀ x, x ∈ m → x.length ≤ 140737488351232) ∧ (m).length ≤ c.ents.length) := ⟨fun x hx => HS.out x ((setV_mem _ _).1 (HMV.out.symm ▸ hx)), HMV.out ▸ HN.out ▸ setV_le (valsL c.ents)⟩
      have H2 : Hid (FOwn (h + 1) w2 ao (flatS (m)) ∧ Below h w w2) := ⟨F2, H1.out.2.1.trans ((gb_to G2 (by have := H1.out.2.2; omega) HB.out.1).mono (by omega))⟩
      clear C2 F2 G2 H1 HB HS HN HR HMV
      have hml : m.length ≤ c.ents.length := HM.out.2
      go_wp2
      by_cases h0 : 0 < m.length
      · obtain ⟨g, rfl, hg, hg1, _⟩ := H2.out.1 (by rw [flatS_len]; omega)
        go_loopg [7, 30] m.length (fun n _ iv wq => ∃ j : Nat, j + n = m.length ∧ iv = .int .i64 j ∧ Hid (FOwn (h + 1) wq (some ⟨g, 0, none⟩) (flatS m) ∧ Below h w wq))
        case atStart => exact ⟨0, by omega, rfl, H2.out⟩
        case round =>
          clear H2
          obtain ⟨j, hjn, rfl, HW⟩ := hrel
          by_cases hj : j < m.length
          · obtain ⟨x, hx⟩ : ∃ x, m[j]? = some x := ⟨_, List.getElem?_eq_getElem hj⟩
            have G2 : Hid ((flatS m)[j]? = some (.string ⟨x.toArray⟩)) := flatS_at hx
            obtain ⟨b, eb, hb1, hb2, hc⟩ := HW.out.1 (by rw [flatS_len]; omega)
            simp only [Option.some.injEq, Addr.mk.injEq, and_true] at eb
            subst eb
            have k2 := (hc _ _ G2.out).1
            have C := clone_any (⟨x.toArray⟩ : ByteArray) wr (by have := HM.out.1 x (List.mem_of_getElem? hx); simp [ByteArray.size]; omega)
            clear hc hx
            go_wp2_with fail
            refine C.mono ?_
            rintro e w2 ⟨rfl, b2⟩
            have O2 : Hid (FOwn (h + 1) w2 (some ⟨g, 0, none⟩) (flatS m) ∧ Below h w w2) := ⟨HW.out.1.later b2, HW.out.2.trans (b2.mono (by omega))⟩
            obtain ⟨b, eb, _, hb3, hc⟩ := O2.out.1 (by rw [flatS_len]; omega)
            simp only [Option.some.injEq, Addr.mk.injEq, and_true] at eb
            subst eb
            have q2 := (hc _ _ G2.out).1
            have q3 := (hc _ _ G2.out).2
            clear C b2 k2 hc
            go_wp2
            go_roundg (gk - 1)
            case measure => omega
            case rel => exact ⟨j + 1, by omega, by go_num, fown_same O2.out.1 G2.out, O2.out.2.setCell (p := ⟨g, j, none⟩) (by show h ≤ g; omega) _⟩
          · have hd : decide ((j : Int) < (m.length : Int)) = false := by simp; omega
            go_wp2
            go_ret2
            have hF : FOwn h wr (some ⟨g, 0, none⟩) (flatS m) := HW.out.1.mono (by omega)
            exact ⟨_, ca, rfl, hF, HW.out.2⟩
      · obtain rfl : m = [] := List.eq_nil_of_length_eq_zero (by omega)
        refine wp_loop_rounds 1 ?_
        rw [rounds_succ]
        go_wp2
        go_ret2
        exact ⟨ao, ca, rfl, FOwn.nil _ _ _, H2.out.2⟩

end Go.Proofs.Ytedgobdeoheaoaa
