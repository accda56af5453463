/-
  The document's own matrix by contracts: Learn, Row, Least.
-/
import Derived.Test.YtdaakacjgkafcaaMat
import Derived.Test.YtdaakacjgkafcaaRefVec
namespace Go.Proofs.Ytdaakacjgkafcaa
open Go.RowKit
set_option linter.unusedVariables false

set_option maxHeartbeats 400000 in
set_option maxRecDepth 100000 in
theorem refRow_any (F : Nat → Prop) (P : Nat) (rows : List (List Int)) (node : Int) (w : World) (hm : MatAt w F P rows) {l : List Int} {n : Int} (h : Mx.Rowed rows node l n) :
    Calls Try.prog 21 #[.pointer (some ⟨P, 0, none⟩), .int .i64 node] w fun e w' => ∃ ro rc, e = .returned (.tuple #[.slice ro l.length rc, .int .i64 n]) ∧ RowAt w' ro l ∧ w' = w := by
  obtain ⟨R0, c0, hd1, hd2⟩ := hm.head
  rcases h with ⟨h, rfl, rfl⟩ | ⟨h, rfl, rfl⟩
  · obtain ⟨k, rfl⟩ : ∃ k : Nat, node = k := ⟨node.toNat, by have := h.1; omega⟩
    have hk : k < rows.length := by have := h.2; omega
    rw [Int.toNat_natCast]
    obtain ⟨R, c, b, off, ca, h1, h2, h3, h4, h5⟩ := hm.read hk
    have HR : Hid (RowAt w (some ⟨b, off, none⟩) (rows.getD k [])) := h4
    clear h hm h4 hd1 hd2
    obtain ⟨l, hl⟩ : ∃ l, l = rows.getD k [] := ⟨_, rfl⟩
    rw [← hl] at h3 HR ⊢
    clear hl
    have d1 : decide ((k : Int) < 0) = false := by simp
    have d2 : decide ((rows.length : Int) ≤ (k : Int)) = false := by simp; omega
    go_enter Try.func21, Try.ntmps21
    go_wp2
    go_ret2
    exact ⟨_, _, rfl, HR.out, rfl⟩
  · by_cases h0 : node < 0
    · have d1 : decide (node < 0) = true := by simpa using h0
      clear h hm
      go_enter Try.func21, Try.ntmps21
      go_wp2
      go_ret2
      first | exact ⟨none, 0, rfl, RowAt.nil _ _, rfl⟩ | exact ⟨none, ⟨0, rfl⟩, RowAt.nil _ _, rfl⟩
    · have d1 : decide (node < 0) = false := by simpa using h0
      have d2 : decide ((rows.length : Int) ≤ node) = true := by
        simp only [decide_eq_true_eq]
        by_cases hl : node < rows.length
        · exact absurd ⟨by omega, hl⟩ h
        · omega
      clear h hm
      go_enter Try.func21, Try.ntmps21
      go_wp2
      go_ret2
      first | exact ⟨none, 0, rfl, RowAt.nil _ _, rfl⟩ | exact ⟨none, ⟨0, rfl⟩, RowAt.nil _ _, rfl⟩

set_option maxHeartbeats 400000 in
set_option maxRecDepth 100000 in
theorem refLearn_any (F : Nat → Prop) (P : Nat) (rows : List (List Int)) (node : Int) (bo : Option Addr) (cb : Nat) (v : List Int) (w : World) (hm : MatAt w F P rows) (hg : Mx.Good rows) (hv : RowAt w bo v) (hlv : v.length ≤ maxLen) {rows' : List (List Int)} {n : Int} (h : Mx.Learnt rows node v rows' n) :
    Calls Try.prog 13 #[.pointer (some ⟨P, 0, none⟩), .int .i64 node, .slice bo v.length cb] w fun e w' => e = .returned (.int .i64 n) ∧ (∃ F', MatAt w' F' P rows' ∧ ∀ k, F' k → F k ∨ w.heap.size ≤ k) ∧ Kept F w w' := by
  obtain ⟨R0, c0, hd1, hd2⟩ := hm.head
  by_cases hnode : Mx.Node rows node
  · obtain ⟨k, rfl⟩ : ∃ k : Nat, node = k := ⟨node.toNat, by have := hnode.1; omega⟩
    have hk : k < rows.length := by have := hnode.2; omega
    have d1 : decide ((k : Int) < 0) = false := by simp
    have d2 : decide ((rows.length : Int) ≤ (k : Int)) = false := by simp; omega
    obtain ⟨R, c, b, off, ca, h1, h2, h3, h4, h5⟩ := hm.read hk
    clear hd1 hd2
    by_cases hmay : Ve.May v rows.length
    · have ha := hg.alike hk hmay
      have C := refMay_any bo cb v rows.length w hv hlv (b := true) (by simp [hmay])
      have M := refMax_any (some ⟨b, off, none⟩) bo ca cb (rows.getD k []) v w h4 hv (by rw [hg.row hk]; have := hg.2.1; unfold maxLen; omega) hlv (Or.inl ⟨ha, rfl, rfl⟩)
      rcases h with ⟨_, _, rfl, rfl⟩ | ⟨h, _⟩
      · have HM : Hid (MatAt w F P rows ∧ 0 < (Ve.mk max (rows.getD k []) v).length) := ⟨hm, by rw [Ve.mk_length, hg.row hk]; exact hg.1⟩
        have el : Mx.told rows (k : Int).toNat v = rows.set k (Ve.mk max (rows.getD k []) v) := by rw [Int.toNat_natCast]; rfl
        rw [el]
        clear hm hg hv ha hmay hnode h4 el hlv
        obtain ⟨l, hl⟩ : ∃ l, l = rows.getD k [] := ⟨_, rfl⟩
        rw [← hl] at M h3 HM ⊢
        obtain ⟨z, hz⟩ : ∃ z, z = Ve.mk max l v := ⟨_, rfl⟩
        rw [← hz] at M HM ⊢
        clear hl hz
        go_enter Try.func13, Try.ntmps13
        go_wp2_with fail
        refine C.mono ?_
        rintro e w1 ⟨rfl, rfl⟩
        clear C
        go_wp2_with fail
        refine M.mono ?_
        rintro e w2 ⟨ro, rc, rfl, ho, hb⟩
        clear M
        obtain ⟨R', c', e1, e2, e3, e4, e5, e6, ⟨u, e7⟩, e8, e9, e10⟩ := HM.out.1.put hb hk (rc := rc) HM.out.2 ho
        have er : R' = R ∧ c' = c := by rw [h1] at e1; simpa using e1.symm
        obtain ⟨rfl, rfl⟩ := er
        have q1 := (hb.cell (p := ⟨P, 0, none⟩) (by exact e5)).trans h1
        have q2 := (hb.cell (p := ⟨R', k, none⟩) (by exact e6)).trans h3
        have q3 := (hb.frozen (p := ⟨R', k, none⟩) (by exact e6)).trans e8
        have HE : Hid (MatAt (w2.setCell ⟨R', k, none⟩ (.slice ro z.length rc)) (fun x => F x ∨ (w1.heap.size ≤ x ∧ x < w2.heap.size)) P (rows.set k z) ∧ Kept F w1 (w2.setCell ⟨R', k, none⟩ (.slice ro z.length rc))) := ⟨e9, e10⟩
        clear e1 e2 e7 e9 e10 h1 h3 e8 ho
        go_wp2
        go_ret
        refine ⟨rfl, ⟨_, HE.out.1, ?_⟩, HE.out.2⟩
        rintro x (hx | ⟨hx, _⟩)
        · exact Or.inl hx
        · exact Or.inr hx
      · exact absurd ⟨hnode, hmay⟩ h
    · have C := refMay_any bo cb v rows.length w hv hlv (b := false) (by simp [hmay])
      rcases h with ⟨_, h, _⟩ | ⟨_, rfl, rfl⟩
      · exact absurd h hmay
      · have HM : Hid (MatAt w F P rows') := hm
        clear hm hg hv hmay hnode h4 h3
        go_enter Try.func13, Try.ntmps13
        go_wp2_with fail
        refine C.mono ?_
        rintro e w1 ⟨rfl, rfl⟩
        clear C
        go_wp2
        go_ret
        exact ⟨rfl, ⟨F, HM.out, fun k hk => Or.inl hk⟩, Kept.refl _ _⟩
  · rcases h with ⟨h, _⟩ | ⟨_, rfl, rfl⟩
    · exact absurd h hnode
    · have HM : Hid (MatAt w F P rows') := hm
      by_cases h0 : node < 0
      · have d1 : decide (node < 0) = true := by simpa using h0
        clear hm hg hv hnode
        go_enter Try.func13, Try.ntmps13
        go_wp2
        go_ret
        exact ⟨rfl, ⟨F, HM.out, fun k hk => Or.inl hk⟩, Kept.refl _ _⟩
      · have d1 : decide (node < 0) = false := by simpa using h0
        have d2 : decide ((rows'.length : Int) ≤ node) = true := by
          simp only [decide_eq_true_eq]
          by_cases hl : node < rows'.length
          · exact absurd ⟨by omega, hl⟩ hnode
          · omega
        clear hm hg hv hnode
        go_enter Try.func13, Try.ntmps13
        go_wp2
        go_ret
        exact ⟨rfl, ⟨F, HM.out, fun k hk => Or.inl hk⟩, Kept.refl _ _⟩

set_option maxHeartbeats 1000000 in
set_option maxRecDepth 100000 in
theorem refLeast_any (F : Nat → Prop) (P : Nat) (rows : List (List Int)) (w : World) (hm : MatAt w F P rows) (hg : Mx.Good rows) :
    Calls Try.prog 17 #[.pointer (some ⟨P, 0, none⟩)] w fun e w' => ∃ ro rc, e = .returned (.slice ro (Mx.least rows).length rc) ∧ RowAt w' ro (Mx.least rows) ∧ Below w.heap.size w w' := by
  obtain ⟨R, c, b, off, ca, h1, h2, h3, h4, h5⟩ := hm.read hg.1
  obtain ⟨k, hk⟩ : ∃ k, k = rows.length := ⟨_, rfl⟩
  have hk1 : 1 ≤ k := by have := hg.1; omega
  have hk2 : k ≤ 16 := by have := hg.2.1; omega
  have e0 : (rows.getD 0 []).length = k := by rw [hk]; exact hg.row hg.1
  rw [e0] at h3
  rw [← hk] at h1 h2
  have eL : (Mx.least rows).length = k := by rw [hk]; exact Mx.least_length hg
  rw [eL]
  have hP : P < w.heap.size := World.block_lt_of_cell? w _ h1
  have HM : Hid (MatAt w F P rows ∧ Mx.Good rows ∧ k = rows.length ∧ RowAt w (some ⟨b, off, none⟩) (rows.getD 0 []) ∧ (rows.getD 0 []).length = k) := ⟨hm, hg, hk, h4, e0⟩
  have HL : Hid (Mx.least rows = rows.tail.foldl (Ve.mk min) (rows.getD 0 [])) := rfl
  clear hm hg hk e0 h4 eL
  go_enter Try.func17, Try.ntmps17
  go_wp2
  clear h3
  go_loopg [4, 3] (k - 1) (fun n iv sv wr => ∃ i : Nat, i + n = k - 1 ∧ iv = .int .i64 ((i : Int) + 1) ∧ Below w.heap.size w wr ∧ ∃ ro rc, ∃ acc : List Int, sv = .slice ro k rc ∧ acc.length = k ∧ Ve.May acc k ∧ (rows.tail.drop i).foldl (Ve.mk min) acc = Mx.least rows ∧ RowAt wr ro acc)
  case atStart => exact ⟨0, by omega, rfl, Below.refl _ _, _, _, rows.getD 0 [], rfl, HM.out.2.2.2.2, by rw [HM.out.2.2.1]; exact HM.out.2.1.2.2 0 HM.out.2.1.1, by rw [HL.out]; rfl, HM.out.2.2.2.1⟩
  case round =>
    obtain ⟨i, hin, rfl, hbel, ro, rc, acc, rfl, hacc, hmay, hfold, hrow⟩ := hrel
    have q1 : wr.cell? ⟨P, 0, none⟩ = some (.slice (some ⟨R, 0, none⟩) k c) := (hbel.cell (by exact hP)).trans h1
    have HF : Hid ((rows.tail.drop i).foldl (Ve.mk min) acc = Mx.least rows ∧ RowAt wr ro acc ∧ acc.length = k ∧ Ve.May acc k) := ⟨hfold, hrow, hacc, hmay⟩
    by_cases hi : i < k - 1
    · obtain ⟨R', c', b2, off2, ca2, y1, y2, y3, y4, y5⟩ := HM.out.1.read (k := i + 1) (by have := HM.out.2.2.1; omega)
      have er : R' = R := by
        have z := h1
        rw [y1] at z
        simp only [Option.some.injEq, Value.slice.injEq, Addr.mk.injEq] at z
        exact z.1.1
      subst er
      obtain ⟨rw2, hrw⟩ : ∃ r2, r2 = rows.getD (i + 1) [] := ⟨_, rfl⟩
      have el : rw2.length = k := by rw [hrw, HM.out.2.1.row (by have := HM.out.2.2.1; omega)]; exact HM.out.2.2.1.symm
      have em : Ve.May rw2 k := by rw [hrw, HM.out.2.2.1]; exact HM.out.2.1.2.2 (i + 1) (by have := HM.out.2.2.1; omega)
      rw [← hrw] at y3 y4
      have hR2 : R' < w.heap.size := World.block_lt_of_cell? w _ y3
      rw [el] at y3
      have q3 : wr.cell? ⟨R', i + 1, none⟩ = some (.slice (some ⟨b2, off2, none⟩) k ca2) := (hbel.cell (by exact hR2)).trans y3
      have ha : Ve.Alike acc rw2 := ⟨by rw [hacc]; exact hmay, by rw [hacc]; exact em⟩
      have M := refMin_any ro (some ⟨b2, off2, none⟩) rc ca2 acc rw2 wr hrow (y4.later (hbel.mono (Nat.le_refl _))) (by rw [hacc]; unfold maxLen; omega) (by rw [el]; unfold maxLen; omega) (Or.inl ⟨ha, rfl, rfl⟩)
      rw [hacc, el] at M
      have em2 : Ve.May (Ve.mk min acc rw2) k := by have := Ve.alike_min ha; rwa [hacc] at this
      have el2 : (Ve.mk min acc rw2).length = k := by rw [Ve.mk_length]; exact hacc
      have ef : (rows.tail.drop (i + 1)).foldl (Ve.mk min) (Ve.mk min acc rw2) = Mx.least rows := by
        rw [hrw, ← Mx.tail_getD]
        exact Mx.fold_step (by have := HM.out.2.2.1; simp; omega) hfold
      rw [el2] at M
      have HG : Hid (Ve.May (Ve.mk min acc rw2) k ∧ (Ve.mk min acc rw2).length = k ∧ (rows.tail.drop (i + 1)).foldl (Ve.mk min) (Ve.mk min acc rw2) = Mx.least rows) := ⟨em2, el2, ef⟩
      have hdd : decide ((i : Int) + 1 < (k : Int)) = true := by simp; omega
      clear hfold hrow hacc hmay y1 y2 y3 y4 y5 hrw el em ha em2 el2 ef h1
      obtain ⟨z, hz⟩ : ∃ z, z = Ve.mk min acc rw2 := ⟨_, rfl⟩
      rw [← hz] at M HG
      clear hz
      go_wp2_with fail
      refine M.mono ?_
      rintro e w2 ⟨ro2, rc2, rfl, ho, hb⟩
      clear M
      go_wp2
      go_roundg (gk - 1)
      case measure => omega
      case rel => exact ⟨i + 1, by omega, by go_num, hbel.trans (hb.mono hbel.size), ro2, rc2, z, rfl, HG.out.2.1, HG.out.1, HG.out.2.2, ho.row⟩
    · have hdd : decide ((i : Int) + 1 < (k : Int)) = false := by simp; omega
      clear hfold hrow hacc hmay h1
      go_wp2
      go_ret
      have e : acc = Mx.least rows := by
        have := HF.out.1
        have hnil : rows.tail.drop i = [] := by apply List.eq_nil_of_length_eq_zero; have := HM.out.2.2.1; simp; omega
        rw [hnil] at this
        exact this
      exact ⟨ro, rc, rfl, by rw [← e]; exact HF.out.2.1, hbel⟩

end Go.Proofs.Ytdaakacjgkafcaa
