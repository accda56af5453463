/-
  The document's own SetValues, by contract.
-/
import Derived.Test.YtedgobdeoheaoaaVals9
import Derived.Test.YtedgobdeoheaoaaRefPut9
namespace Go.Proofs.Ytedgobdeoheaoaa
open Go.RowKit Go.Shelf
set_option linter.unusedVariables false
set_option linter.unusedSimpArgs false

set_option maxHeartbeats 400000 in
set_option maxRecDepth 100000 in
/-- The document's Values refuses. -/
theorem rvals_no (c : Ce) (p : Pl) (w : World) (hk : (c.kind != 2) = true) :
    Calls Try.prog 15 #[ceV c p] w fun e w' => e = .returned (.tuple #[.slice none 0 0, .int .i64 900]) ∧ Below w.heap.size w w' := by
  go_enter Try.func15, Try.ntmps15
  go_wp2
  go_ret2
  exact ⟨rfl, (Below.refl _ _).alloc (Nat.le_refl _) _⟩

theorem frow_takeS {w : World} {ao : Option Addr} {l : List S8} (h : FRow w ao (flatS l)) (k : Nat) : FRow w ao (flatS (l.take k)) := fun h0 => by
  rw [flatS_len, List.length_take] at h0
  obtain ⟨b, off, e, hb, hc⟩ := h (by rw [flatS_len]; omega)
  refine ⟨b, off, e, hb, fun i u hu => hc i u ?_⟩
  unfold flatS at hu ⊢
  rw [List.map_take, List.getElem?_take] at hu
  split at hu
  · exact hu
  · simp at hu

theorem frow_dropS {w : World} {b off : Nat} {l : List S8} (h : FRow w (some ⟨b, off, none⟩) (flatS l)) (k : Nat) : FRow w (some ⟨b, off + k, none⟩) (flatS (l.drop k)) := fun h0 => by
  rw [flatS_len, List.length_drop] at h0
  obtain ⟨b', off', e, hb, hc⟩ := h (by rw [flatS_len]; omega)
  simp only [Option.some.injEq, Addr.mk.injEq, and_true] at e
  obtain ⟨rfl, rfl⟩ := e
  refine ⟨b, _, rfl, hb, fun i u hu => ?_⟩
  unfold flatS at hu hc
  rw [List.map_drop, List.getElem?_drop] at hu
  have := hc _ u hu
  rwa [← Nat.add_assoc] at this

/-- The row's end. -/
theorem vl_end {w wr w4 : World} {h n1 n4 : Nat} {c : Ce} {p : Pl} {l : List S8} {ao bo : Option Addr} {ca cb k : Nat} {v : S8} (H : Vl w h c p l ao ca wr) (hn1 : wr.heap.size = n1) (hk : k = placeS l v) (hno : l[k]? ≠ some v) (hn4 : n4 = l.length + 1) (o4 : w4.ownsRow n1 9 1 (.slice bo n4 cb) n4 (flatS (l.take k) ++ [.string ⟨v.toArray⟩] ++ flatS (l.drop k))) (b4 : Below n1 wr w4) : Vl w h c p (insS l v) bo cb w4 := by
  have hs := H.2.1.1
  subst hk hn4
  have e : insS l v = l.take (placeS l v) ++ v :: l.drop (placeS l v) := by unfold insS; rw [if_neg hno]
  have e2 : (insS l v).length = l.length + 1 := by have := placeS_le l v; rw [e]; simp; omega
  refine ⟨H.1.trans (b4.mono (by omega)), H.2.1.under (by omega) b4, ?_⟩
  rw [e2]
  have e3 : flatS (insS l v) = flatS (l.take (placeS l v)) ++ [.string ⟨v.toArray⟩] ++ flatS (l.drop (placeS l v)) := by
    rw [e, flatS_append, List.append_assoc]
    rfl
  rw [e3]
  exact own_mono o4 (by omega)

theorem vl_end2 {w wr w4 : World} {h n1 n4 : Nat} {c : Ce} {p : Pl} {l : List S8} {ao bo : Option Addr} {ca cb k : Nat} {b : ByteArray} (H : Vl w h c p l ao ca wr) (hn1 : wr.heap.size = n1) (hk : k = placeS l b.data.toList) (hno : l[k]? ≠ some b.data.toList) (hn4 : n4 = l.length + 1) (o4 : w4.ownsRow n1 9 1 (.slice bo n4 cb) n4 (flatS (l.take k) ++ [.string b] ++ flatS (l.drop k))) (b4 : Below n1 wr w4) : Vl w h c p (insS l b.data.toList) bo cb w4 ∧ (insS l b.data.toList).length = l.length + 1 :=
  ⟨vl_end H hn1 hk hno hn4 o4 b4, by
    subst hk
    unfold insS
    have := placeS_le l b.data.toList
    rw [if_neg hno]
    simp
    omega⟩

set_option maxHeartbeats 2000000 in
set_option maxRecDepth 100000 in
/-- The document's Values takes it. -/
theorem rvals_yes (c : Ce) (p : Pl) (w : World) (hr : CRow w c p) (hf : Fit c) (hk : (c.kind != 2) = false) :
    Calls Try.prog 15 #[ceV c p] w fun e w' => ∃ ao ca, e = .returned (.tuple #[.slice ao (setV (valsL c.ents)).length ca, .int .i64 0]) ∧ FOwn w.heap.size w' ao (flatS (setV (valsL c.ents))) ∧ Below w.heap.size w w' := by
  obtain ⟨h, hh⟩ : ∃ h, w.heap.size = h := ⟨_, rfl⟩
  have H0 : Hid (Vl w h c p [] none 0 (w.alloc (.cells (ceL c p).toArray 30))) := ⟨hh ▸ (Below.refl _ _).alloc (Nat.le_refl _) _, hh ▸ has_new w (ceL c p) _, own_nil _ _ _ _⟩
  have HR : Hid (FRow w p.eo (flatE c.ents) ∧ w.heap.size = h) := ⟨hr.1, hh⟩
  have hl := hf.1
  rw [hh]
  clear hr hf
  go_enter Try.func15, Try.ntmps15
  go_wp2
  clear hh
  go_loopg [4, 5] c.ents.length (fun n s4 iv wr => ∃ (i : Nat) (ao : Option Addr) (ca : Nat), i + n = c.ents.length ∧ iv = .int .i64 i ∧ s4 = .slice ao (setV (valsL (c.ents.take i))).length ca ∧ Hid (Vl w h c p (setV (valsL (c.ents.take i))) ao ca wr))
  case atStart => exact ⟨0, none, 0, by omega, rfl, rfl, H0.out⟩
  case round =>
    clear H0
    obtain ⟨i, ao, ca, hin, rfl, rfl, HD⟩ := hrel
    have t7 := HD.out.2.1.at 7 rfl
    by_cases hi : i < c.ents.length
    · obtain ⟨bk, off, ea, hb, hc⟩ := HR.out.1 (by rw [flatE_len]; omega)
      obtain ⟨x, hx⟩ : ∃ x, c.ents[i]? = some x := ⟨_, List.getElem?_eq_getElem hi⟩
      obtain ⟨g0, g1, g2⟩ := flatE_at c.ents i hx
      have hb1 : bk < h := HR.out.2 ▸ hb
      have k2 := (HD.out.1.cell (p := ⟨bk, off + i * 3 + 2, none⟩) (by exact hb1)).trans (hc _ _ g2)
      rw [ea] at t7
      have HX : Hid (setV (valsL (c.ents.take (i + 1))) = insS (setV (valsL (c.ents.take i))) x.val.data.toList ∧ (setV (valsL (c.ents.take i))).length ≤ i) := by
        refine ⟨?_, ?_⟩
        · rw [valsL_step hx]
          unfold setV
          rw [List.foldl_append]
          rfl
        · have := setV_le (valsL (c.ents.take i))
          rw [valsL_len, List.length_take] at this
          omega
      clear hc hx g0 g1 g2 hb ea
      generalize setV (valsL (c.ents.take i)) = l at *
      have hli : l.length ≤ i := HX.out.2
      obtain ⟨bx, hbx⟩ : ∃ b, x.val = b := ⟨_, rfl⟩
      rw [hbx] at k2 HX
      clear hbx
      have HN : Hid ((ao = none ∧ l.length = 0 ∧ ca = 0) ∨ ∃ g, ao = some ⟨g, 0, none⟩) := by
        rcases HD.out.2.2.2 with ⟨h1, h2⟩ | ⟨g, cap, cur, h1, _⟩
        · simp only [Value.slice.injEq] at h1
          exact Or.inl ⟨h1.1, h2, h1.2.2⟩
        · simp only [Value.slice.injEq] at h1
          exact Or.inr ⟨g, h1.1⟩
      obtain ⟨n0, hn0⟩ : ∃ n0, n0 = gk := ⟨_, rfl⟩
      go_wp2_with fail
      go_loopg [7] l.length (fun n kv wq => ∃ (k : Nat), k + n = l.length ∧ kv = .int .i64 k ∧ Hid (∀ j y, j < k → l[j]? = some y → y < bx.data.toList) ∧ Hid (Vl w h c p l ao ca wq))
      case atStart => exact ⟨0, by omega, rfl, fun j y hj => by omega, HD.out⟩
      case round =>
        clear HD
        obtain ⟨k, hkn, rfl, HK, HD⟩ := hrel
        obtain ⟨n1, hn1⟩ : ∃ n, wr.heap.size = n := ⟨_, rfl⟩
        have hca := (own_cap HD.out.2.2).1
        by_cases hkl : k < l.length
        · obtain ⟨y, hy⟩ : ∃ y, l[k]? = some y := ⟨_, List.getElem?_eq_getElem hkl⟩
          have HY : Hid (l[k]? = some y) := hy
          obtain ⟨g, rfl, hg, hgw, hc⟩ := own_row HD.out.2.2 (by rw [flatS_len]; omega)
          have k3 := (hc _ _ (flatS_at hy)).1
          clear hc hy HN
          cases hq : Op.bytesLess y bx.toList with
          | true =>
            have HK2 : Hid (∀ j z, j < k + 1 → l[j]? = some z → z < bx.data.toList) := fun j z hj hz => by
              by_cases e : j = k
              · subst e
                rw [HY.out] at hz
                obtain rfl := Option.some.inj hz
                rw [bytesLess_eq, ByteArray.toList_eq] at hq
                simpa using hq
              · exact HK.out j z (by omega) hz
            clear hn1
            go_wp2
            go_roundg (gk - 1)
            case measure => omega
            case rel => exact ⟨k + 1, by omega, by go_num, HK2.out, HD.out⟩
          | false =>
            have hpl : Hid (k = placeS l bx.data.toList) := (placeS_eq (by omega) HK.out fun z hz => by
              rw [HY.out] at hz
              obtain rfl := Option.some.inj hz
              rw [bytesLess_eq, ByteArray.toList_eq] at hq
              simpa using hq).symm
            cases he : (y == bx.toList) with
            | true =>
              have HI : Hid (insS l bx.data.toList = l) := by
                show insS l bx.data.toList = l
                unfold insS
                rw [← hpl.out, HY.out, if_pos]
                rw [ByteArray.toList_eq] at he
                rw [eq_of_beq he]
              clear hn1
              go_wp2
              go_roundg (n0 - 1)
              case measure => omega
              case rel => exact ⟨i + 1, some ⟨g, 0, none⟩, ca, by omega, by go_num, by rw [HX.out.1, HI.out], by rw [HX.out.1, HI.out]; exact HD.out⟩
            | false =>
              have HP : Hid (k = placeS l bx.data.toList ∧ l[k]? ≠ some bx.data.toList) := ⟨hpl.out, fun e => by
                rw [HY.out] at e
                rw [ByteArray.toList_eq] at he
                rw [Option.some.inj e] at he
                simp at he⟩
              have hck : ¬ (ca = k) := by omega
              have R0 : Hid (FRow wr (some ⟨g, k, none⟩) (flatS (l.drop k))) := by
                have := frow_dropS (own_row HD.out.2.2).row k
                rw [Nat.zero_add] at this
                exact this
              have HB : Hid (Below n1 wr (wr.alloc (.cells #[] 9))) := (Below.refl _ _).alloc (by omega) _
              have HO : Hid ((wr.alloc (.cells #[] 9)).ownsRow n1 9 1 (.slice (some ⟨n1, 0, none⟩) 0 0) 0 []) := own_empty hn1
              have R1 : Hid (FRow (wr.alloc (.cells #[] 9)) (some ⟨g, 0, none⟩) (flatS (l.take k))) := (frow_takeS (own_row HD.out.2.2).row k).later ((Below.refl _ _).alloc (Nat.le_refl _) _)
              have hlk : (flatS (l.take k)).length = k * 1 := by rw [flatS_len, List.length_take]; omega
              go_upto_region 13 with (first
                | (at_builtin
                   refine wpList_onto rfl _ _ 43 rfl Try.underlying43 Try.infoString rfl (by decide) (by decide) (B := n1) rfl rfl HO.out R1.out hlk (fun u hu => oneS hu) (by omega) (by simp; omega) ?_
                   intro a2 c2 w2 o2 m2 b2
                   simp only [Nat.zero_add, List.nil_append] at o2 ⊢
                   have H2 : Hid (w2.ownsRow n1 9 1 (.slice a2 k c2) k (flatS (l.take k)) ∧ Below n1 wr w2) := ⟨o2, HB.out.trans b2⟩
                   clear o2 m2 b2))
              clear HO R1 HB hlk
              obtain ⟨n2, hn2⟩ : ∃ n, w2.heap.size = n := ⟨_, rfl⟩
              have hn12 : n1 ≤ n2 := by have := H2.out.2.size; omega
              have R2 : Hid (FRow (w2.alloc (.cells #[.string bx] 9)) (some ⟨n2, 0, none⟩) [.string bx]) := frow_newAt hn2 [.string bx] _
              have HO : Hid ((w2.alloc (.cells #[.string bx] 9)).ownsRow n1 9 1 (.slice a2 k c2) k (flatS (l.take k)) ∧ Below n1 wr (w2.alloc (.cells #[.string bx] 9))) := ⟨own_later H2.out.1 ((Below.refl _ _).alloc (Nat.le_refl _) _), H2.out.2.trans ((Below.refl _ _).alloc (by omega) _)⟩
              clear H2
              go_upto_region 14 with (first
                | (at_builtin
                   refine wpList_onto rfl _ _ 43 rfl Try.underlying43 Try.infoString rfl (by decide) (by decide) (B := n1) rfl rfl HO.out.1 R2.out rfl (fun u hu => by obtain rfl := List.mem_singleton.1 hu; rfl) (by omega) (by simp; omega) ?_
                   intro a3 c3 w3 o3 m3 b3
                   have H3 : Hid (w3.ownsRow n1 9 1 (.slice a3 (k + 1) c3) (k + 1) (flatS (l.take k) ++ [.string bx]) ∧ Below n1 wr w3) := ⟨o3, HO.out.2.trans b3⟩
                   clear o3 m3 b3))
              clear HO R2 hn2 hn12
              have hld : (flatS (l.drop k)).length = (l.length - k) * 1 := (by rw [flatS_len, List.length_drop]; omega)
              have hw3 : n1 ≤ w3.heap.size := by have := H3.out.2.size; omega
              have R3 : Hid (FRow w3 (some ⟨g, k, none⟩) (flatS (l.drop k))) := R0.out.later (hn1 ▸ H3.out.2)
              go_wp2_with (first
                | (at_builtin
                   refine wpList_onto rfl _ _ 43 rfl Try.underlying43 Try.infoString rfl (by decide) (by decide) (B := n1) rfl rfl H3.out.1 R3.out hld (fun u hu => oneS hu) (by omega) hw3 ?_
                   intro a4 c4 w4 o4 m4 b4
                   have H4 : Hid (Vl w h c p (insS l bx.data.toList) a4 c4 w4 ∧ (insS l bx.data.toList).length = l.length + 1) := vl_end2 HD.out hn1 HP.out.1 HP.out.2 (by omega) o4 (H3.out.2.trans b4)
                   clear o4 m4 b4))
              go_roundg (n0 - 1)
              case measure => omega
              case rel => exact ⟨i + 1, a4, c4, by omega, by go_num, by rw [HX.out.1, H4.out.2]; congr 1; omega, by rw [HX.out.1]; exact H4.out.1⟩
        · obtain rfl : k = l.length := by omega
          have HP : Hid (l.length = placeS l bx.data.toList ∧ l[l.length]? ≠ some bx.data.toList) := ⟨(placeS_eq (Nat.le_refl _) HK.out fun z hz => by simp at hz).symm, by simp⟩
          clear HK
          rcases HN.out with ⟨rfl, hl0, rfl⟩ | ⟨g, rfl⟩
          · obtain rfl : l = [] := List.eq_nil_of_length_eq_zero hl0
            clear hl0 HN hca hkl hkn
            have HB : Hid (Below n1 wr (wr.alloc (.cells #[] 9))) := (Below.refl _ _).alloc (by omega) _
            have HO : Hid ((wr.alloc (.cells #[] 9)).ownsRow n1 9 1 (.slice (some ⟨n1, 0, none⟩) 0 0) 0 []) := own_empty hn1
            have R1 : Hid (FRow (wr.alloc (.cells #[] 9)) none (flatS (([] : List S8).take 0))) := (frow_takeS (own_row HD.out.2.2).row 0).later ((Below.refl _ _).alloc (Nat.le_refl _) _)
            have hlk : (flatS (([] : List S8).take 0)).length = 0 * 1 := by rw [flatS_len, List.length_take]; omega
            go_upto_region 13 with (first
              | (at_builtin
                 refine wpList_onto rfl _ _ 43 rfl Try.underlying43 Try.infoString rfl (by decide) (by decide) (B := n1) rfl rfl HO.out R1.out hlk (fun u hu => oneS hu) (by omega) (by simp; omega) ?_
                 intro a2 c2 w2 o2 m2 b2
                 simp only [Nat.zero_add, List.nil_append] at o2 ⊢
                 have H2 : Hid (w2.ownsRow n1 9 1 (.slice a2 0 c2) 0 (flatS (([] : List S8).take 0)) ∧ Below n1 wr w2) := ⟨o2, HB.out.trans b2⟩
                 clear o2 m2 b2))
            clear HO R1 HB hlk
            obtain ⟨n2, hn2⟩ : ∃ n, w2.heap.size = n := ⟨_, rfl⟩
            have hn12 : n1 ≤ n2 := by have := H2.out.2.size; omega
            have R2 : Hid (FRow (w2.alloc (.cells #[.string bx] 9)) (some ⟨n2, 0, none⟩) [.string bx]) := frow_newAt hn2 [.string bx] _
            have HO : Hid ((w2.alloc (.cells #[.string bx] 9)).ownsRow n1 9 1 (.slice a2 0 c2) 0 (flatS (([] : List S8).take 0)) ∧ Below n1 wr (w2.alloc (.cells #[.string bx] 9))) := ⟨own_later H2.out.1 ((Below.refl _ _).alloc (Nat.le_refl _) _), H2.out.2.trans ((Below.refl _ _).alloc (by omega) _)⟩
            clear H2
            go_upto_region 14 with (first
              | (at_builtin
                 refine wpList_onto rfl _ _ 43 rfl Try.underlying43 Try.infoString rfl (by decide) (by decide) (B := n1) rfl rfl HO.out.1 R2.out rfl (fun u hu => by obtain rfl := List.mem_singleton.1 hu; rfl) (by omega) (by simp; omega) ?_
                 intro a3 c3 w3 o3 m3 b3
                 have H3 : Hid (w3.ownsRow n1 9 1 (.slice a3 (0 + 1) c3) (0 + 1) (flatS (([] : List S8).take 0) ++ [.string bx]) ∧ Below n1 wr w3) := ⟨o3, HO.out.2.trans b3⟩
                 clear o3 m3 b3))
            clear HO R2 hn2 hn12
            have hld : (flatS (([] : List S8).drop 0)).length = (0) * 1 := rfl
            have hw3 : n1 ≤ w3.heap.size := by have := H3.out.2.size; omega
            have R3 : Hid (FRow w3 none (flatS (([] : List S8).drop 0))) := frow_nil rfl
            go_wp2_with (first
              | (at_builtin
                 refine wpList_onto rfl _ _ 43 rfl Try.underlying43 Try.infoString rfl (by decide) (by decide) (B := n1) rfl rfl H3.out.1 R3.out hld (fun u hu => oneS hu) (by omega) hw3 ?_
                 intro a4 c4 w4 o4 m4 b4
                 have H4 : Hid (Vl w h c p (insS ([] : List S8) bx.data.toList) a4 c4 w4 ∧ (insS ([] : List S8) bx.data.toList).length = ([] : List S8).length + 1) := vl_end2 HD.out hn1 HP.out.1 HP.out.2 rfl o4 (H3.out.2.trans b4)
                 clear o4 m4 b4))
            go_roundg (n0 - 1)
            case measure => omega
            case rel => exact ⟨i + 1, a4, c4, by omega, by go_num, by rw [HX.out.1, H4.out.2]; rfl, by rw [HX.out.1]; exact H4.out.1⟩
          · have hnil : Hid (flatS (l.drop l.length) = []) := by
              show flatS (l.drop l.length) = []
              rw [List.drop_length]; rfl
            have hlg : g < n1 := by have := (HD.out.2.2.lt g rfl).2; omega
            by_cases hck : ca = l.length
            · clear HN
              have HB : Hid (Below n1 wr (wr.alloc (.cells #[] 9))) := (Below.refl _ _).alloc (by omega) _
              have HO : Hid ((wr.alloc (.cells #[] 9)).ownsRow n1 9 1 (.slice (some ⟨n1, 0, none⟩) 0 0) 0 []) := own_empty hn1
              have R1 : Hid (FRow (wr.alloc (.cells #[] 9)) (some ⟨g, 0, none⟩) (flatS (l.take l.length))) := (frow_takeS (own_row HD.out.2.2).row l.length).later ((Below.refl _ _).alloc (Nat.le_refl _) _)
              have hlk : (flatS (l.take l.length)).length = l.length * 1 := by rw [flatS_len, List.length_take]; omega
              go_upto_region 13 with (first
                | (at_builtin
                   refine wpList_onto rfl _ _ 43 rfl Try.underlying43 Try.infoString rfl (by decide) (by decide) (B := n1) rfl rfl HO.out R1.out hlk (fun u hu => oneS hu) (by omega) (by simp; omega) ?_
                   intro a2 c2 w2 o2 m2 b2
                   simp only [Nat.zero_add, List.nil_append] at o2 ⊢
                   have H2 : Hid (w2.ownsRow n1 9 1 (.slice a2 l.length c2) l.length (flatS (l.take l.length)) ∧ Below n1 wr w2) := ⟨o2, HB.out.trans b2⟩
                   clear o2 m2 b2))
              clear HO R1 HB hlk
              obtain ⟨n2, hn2⟩ : ∃ n, w2.heap.size = n := ⟨_, rfl⟩
              have hn12 : n1 ≤ n2 := by have := H2.out.2.size; omega
              have R2 : Hid (FRow (w2.alloc (.cells #[.string bx] 9)) (some ⟨n2, 0, none⟩) [.string bx]) := frow_newAt hn2 [.string bx] _
              have HO : Hid ((w2.alloc (.cells #[.string bx] 9)).ownsRow n1 9 1 (.slice a2 l.length c2) l.length (flatS (l.take l.length)) ∧ Below n1 wr (w2.alloc (.cells #[.string bx] 9))) := ⟨own_later H2.out.1 ((Below.refl _ _).alloc (Nat.le_refl _) _), H2.out.2.trans ((Below.refl _ _).alloc (by omega) _)⟩
              clear H2
              go_upto_region 14 with (first
                | (at_builtin
                   refine wpList_onto rfl _ _ 43 rfl Try.underlying43 Try.infoString rfl (by decide) (by decide) (B := n1) rfl rfl HO.out.1 R2.out rfl (fun u hu => by obtain rfl := List.mem_singleton.1 hu; rfl) (by omega) (by simp; omega) ?_
                   intro a3 c3 w3 o3 m3 b3
                   have H3 : Hid (w3.ownsRow n1 9 1 (.slice a3 (l.length + 1) c3) (l.length + 1) (flatS (l.take l.length) ++ [.string bx]) ∧ Below n1 wr w3) := ⟨o3, HO.out.2.trans b3⟩
                   clear o3 m3 b3))
              clear HO R2 hn2 hn12
              have hld : (flatS (l.drop l.length)).length = (0) * 1 := (by rw [hnil.out]; rfl)
              have hw3 : n1 ≤ w3.heap.size := by have := H3.out.2.size; omega
              have R3 : Hid (FRow w3 (some ⟨g, 0, none⟩) (flatS (l.drop l.length))) := frow_nil hnil.out
              go_wp2_with (first
                | (at_builtin
                   refine wpList_onto rfl _ _ 43 rfl Try.underlying43 Try.infoString rfl (by decide) (by decide) (B := n1) rfl rfl H3.out.1 R3.out hld (fun u hu => oneS hu) (by omega) hw3 ?_
                   intro a4 c4 w4 o4 m4 b4
                   have H4 : Hid (Vl w h c p (insS l bx.data.toList) a4 c4 w4 ∧ (insS l bx.data.toList).length = l.length + 1) := vl_end2 HD.out hn1 HP.out.1 HP.out.2 (by omega) o4 (H3.out.2.trans b4)
                   clear o4 m4 b4))
              go_roundg (n0 - 1)
              case measure => omega
              case rel => exact ⟨i + 1, a4, c4, by omega, by go_num, by rw [HX.out.1, H4.out.2], by rw [HX.out.1]; exact H4.out.1⟩
            · clear HN
              have HB : Hid (Below n1 wr (wr.alloc (.cells #[] 9))) := (Below.refl _ _).alloc (by omega) _
              have HO : Hid ((wr.alloc (.cells #[] 9)).ownsRow n1 9 1 (.slice (some ⟨n1, 0, none⟩) 0 0) 0 []) := own_empty hn1
              have R1 : Hid (FRow (wr.alloc (.cells #[] 9)) (some ⟨g, 0, none⟩) (flatS (l.take l.length))) := (frow_takeS (own_row HD.out.2.2).row l.length).later ((Below.refl _ _).alloc (Nat.le_refl _) _)
              have hlk : (flatS (l.take l.length)).length = l.length * 1 := by rw [flatS_len, List.length_take]; omega
              go_upto_region 13 with (first
                | (at_builtin
                   refine wpList_onto rfl _ _ 43 rfl Try.underlying43 Try.infoString rfl (by decide) (by decide) (B := n1) rfl rfl HO.out R1.out hlk (fun u hu => oneS hu) (by omega) (by simp; omega) ?_
                   intro a2 c2 w2 o2 m2 b2
                   simp only [Nat.zero_add, List.nil_append] at o2 ⊢
                   have H2 : Hid (w2.ownsRow n1 9 1 (.slice a2 l.length c2) l.length (flatS (l.take l.length)) ∧ Below n1 wr w2) := ⟨o2, HB.out.trans b2⟩
                   clear o2 m2 b2))
              clear HO R1 HB hlk
              obtain ⟨n2, hn2⟩ : ∃ n, w2.heap.size = n := ⟨_, rfl⟩
              have hn12 : n1 ≤ n2 := by have := H2.out.2.size; omega
              have R2 : Hid (FRow (w2.alloc (.cells #[.string bx] 9)) (some ⟨n2, 0, none⟩) [.string bx]) := frow_newAt hn2 [.string bx] _
              have HO : Hid ((w2.alloc (.cells #[.string bx] 9)).ownsRow n1 9 1 (.slice a2 l.length c2) l.length (flatS (l.take l.length)) ∧ Below n1 wr (w2.alloc (.cells #[.string bx] 9))) := ⟨own_later H2.out.1 ((Below.refl _ _).alloc (Nat.le_refl _) _), H2.out.2.trans ((Below.refl _ _).alloc (by omega) _)⟩
              clear H2
              go_upto_region 14 with (first
                | (at_builtin
                   refine wpList_onto rfl _ _ 43 rfl Try.underlying43 Try.infoString rfl (by decide) (by decide) (B := n1) rfl rfl HO.out.1 R2.out rfl (fun u hu => by obtain rfl := List.mem_singleton.1 hu; rfl) (by omega) (by simp; omega) ?_
                   intro a3 c3 w3 o3 m3 b3
                   have H3 : Hid (w3.ownsRow n1 9 1 (.slice a3 (l.length + 1) c3) (l.length + 1) (flatS (l.take l.length) ++ [.string bx]) ∧ Below n1 wr w3) := ⟨o3, HO.out.2.trans b3⟩
                   clear o3 m3 b3))
              clear HO R2 hn2 hn12
              have hld : (flatS (l.drop l.length)).length = (0) * 1 := (by rw [hnil.out]; rfl)
              have hw3 : n1 ≤ w3.heap.size := by have := H3.out.2.size; omega
              have R3 : Hid (FRow w3 (some ⟨g, l.length, none⟩) (flatS (l.drop l.length))) := frow_nil hnil.out
              go_wp2_with (first
                | (at_builtin
                   refine wpList_onto rfl _ _ 43 rfl Try.underlying43 Try.infoString rfl (by decide) (by decide) (B := n1) rfl rfl H3.out.1 R3.out hld (fun u hu => oneS hu) (by omega) hw3 ?_
                   intro a4 c4 w4 o4 m4 b4
                   have H4 : Hid (Vl w h c p (insS l bx.data.toList) a4 c4 w4 ∧ (insS l bx.data.toList).length = l.length + 1) := vl_end2 HD.out hn1 HP.out.1 HP.out.2 (by omega) o4 (H3.out.2.trans b4)
                   clear o4 m4 b4))
              go_roundg (n0 - 1)
              case measure => omega
              case rel => exact ⟨i + 1, a4, c4, by omega, by go_num, by rw [HX.out.1, H4.out.2], by rw [HX.out.1]; exact H4.out.1⟩
    · have hd : decide ((i : Int) < (c.ents.length : Int)) = false := by simp; omega
      go_wp2
      go_ret2
      have e : i = c.ents.length := by omega
      rw [e, List.take_length] at HD ⊢
      exact ⟨ao, ca, rfl, (own_row HD.out.2.2).mono (by omega), HD.out.1⟩

end Go.Proofs.Ytedgobdeoheaoaa
