/-
  Package matrix by contracts: Row, Learn.
-/
import Derived.Test.YtdaakacjgkafcaaMat
namespace Go.Proofs.Ytdaakacjgkafcaa
open Go.RowKit
set_option linter.unusedVariables false

set_option maxHeartbeats 400000 in
set_option maxRecDepth 100000 in
theorem row_any (F : Nat → Prop) (P : Nat) (rows : List (List Int)) (node : Int) (w : World) (hm : MatAt w F P rows) (hg : Mx.Good rows) {l : List Int} {n : Int} (h : Mx.Rowed rows node l n) :
    Calls Try.prog 20 #[.pointer (some ⟨P, 0, none⟩), .int .i64 node] w fun e w' => ∃ ro rc, e = .returned (.tuple #[.slice ro l.length rc, .int .i64 n]) ∧ OwnAt w.heap.size w' ro l ∧ Below w.heap.size w w' := by
  rcases h with ⟨h, rfl, rfl⟩ | ⟨h, rfl, rfl⟩
  · have C := hasNode_any F P rows node w hm (b := true) (by simp [h])
    obtain ⟨k, rfl⟩ : ∃ k : Nat, node = k := ⟨node.toNat, by have := h.1; omega⟩
    have hk : k < rows.length := by have := h.2; omega
    rw [Int.toNat_natCast]
    obtain ⟨R, c, b, off, ca, h1, h2, h3, h4, h5⟩ := hm.read hk
    have hlen : (rows.getD k []).length * 8 ≤ 140737488351232 := by rw [hg.row hk]; have := hg.2.1; omega
    have D := fun cc => cloneInts_any b off cc (rows.getD k []) w h4 hlen
    have HG : Hid (Mx.Good rows) := hg
    clear hg h hm h4 hlen
    obtain ⟨l, hl⟩ : ∃ l, l = rows.getD k [] := ⟨_, rfl⟩
    rw [← hl] at D h3 ⊢
    clear hl
    go_enter Try.func20, Try.ntmps20
    go_wp2_with fail
    refine C.mono ?_
    rintro e w1 ⟨rfl, rfl⟩
    clear C
    go_wp2_with fail
    refine (D ca).mono ?_
    rintro e w2 ⟨g, gc, rfl, ho, hb⟩
    clear D
    go_wp2
    go_ret2
    exact ⟨_, _, rfl, ho, hb⟩
  · have C := hasNode_any F P rows node w hm (b := false) (by simp [h])
    clear h hm
    go_enter Try.func20, Try.ntmps20
    go_wp2_with fail
    refine C.mono ?_
    rintro e w1 ⟨rfl, rfl⟩
    clear C
    go_wp2
    go_ret2
    exact ⟨none, 0, rfl, OwnAt.nil _ _ _, Below.refl _ _⟩

set_option maxHeartbeats 400000 in
set_option maxRecDepth 100000 in
theorem learn_any (F : Nat → Prop) (P : Nat) (rows : List (List Int)) (node : Int) (bo : Option Addr) (cb : Nat) (v : List Int) (w : World) (hm : MatAt w F P rows) (hg : Mx.Good rows) (hv : RowAt w bo v) {rows' : List (List Int)} {n : Int} (h : Mx.Learnt rows node v rows' n) :
    Calls Try.prog 12 #[.pointer (some ⟨P, 0, none⟩), .int .i64 node, .slice bo v.length cb] w fun e w' => e = .returned (.int .i64 n) ∧ (∃ F', MatAt w' F' P rows' ∧ ∀ k, F' k → F k ∨ w.heap.size ≤ k) ∧ Kept F w w' := by
  by_cases hnode : Mx.Node rows node
  · have C := hasNode_any F P rows node w hm (b := true) (by simp [hnode])
    obtain ⟨k, rfl⟩ : ∃ k : Nat, node = k := ⟨node.toNat, by have := hnode.1; omega⟩
    have hk : k < rows.length := by have := hnode.2; omega
    obtain ⟨R, c, b, off, ca, h1, h2, h3, h4, h5⟩ := hm.read hk
    by_cases hmay : Ve.May v rows.length
    · have ha := hg.alike hk hmay
      have M := max_any (some ⟨b, off, none⟩) bo ca cb (rows.getD k []) v w h4 hv (Or.inl ⟨ha, rfl, rfl⟩)
      rcases h with ⟨_, _, rfl, rfl⟩ | ⟨h, _⟩
      · have HM : Hid (MatAt w F P rows ∧ 0 < (Ve.mk max (rows.getD k []) v).length) := ⟨hm, by rw [Ve.mk_length, hg.row hk]; exact hg.1⟩
        have el : Mx.told rows (k : Int).toNat v = rows.set k (Ve.mk max (rows.getD k []) v) := by rw [Int.toNat_natCast]; rfl
        rw [el]
        clear hm hg hv ha hmay hnode h4 el
        obtain ⟨l, hl⟩ : ∃ l, l = rows.getD k [] := ⟨_, rfl⟩
        rw [← hl] at M h3 HM ⊢
        obtain ⟨z, hz⟩ : ∃ z, z = Ve.mk max l v := ⟨_, rfl⟩
        rw [← hz] at M HM ⊢
        clear hl hz
        go_enter Try.func12, Try.ntmps12
        go_wp2_with fail
        refine C.mono ?_
        rintro e w1 ⟨rfl, rfl⟩
        clear C
        go_wp2_with fail
        refine M.mono ?_
        rintro e w2 ⟨ro, rc, rfl, ho, hb⟩
        clear M
        obtain ⟨R', c', e1, e2, e3, e4, e5, e6, ⟨u, e7⟩, e8, e9, e10⟩ := HM.out.1.put hb hk (rc := rc) HM.out.2 ho
        have er : R' = R ∧ c' = c := by rw [h1] at e1; simpa using e1.symm
        obtain ⟨rfl, rfl⟩ := er
        have q1 := (hb.cell (p := ⟨P, 0, none⟩) (by exact e5)).trans h1
        have q2 := (hb.cell (p := ⟨R', k, none⟩) (by exact e6)).trans h3
        have q3 := (hb.frozen (p := ⟨R', k, none⟩) (by exact e6)).trans e8
        have HE : Hid (MatAt (w2.setCell ⟨R', k, none⟩ (.slice ro z.length rc)) (fun x => F x ∨ (w1.heap.size ≤ x ∧ x < w2.heap.size)) P (rows.set k z) ∧ Kept F w1 (w2.setCell ⟨R', k, none⟩ (.slice ro z.length rc))) := ⟨e9, e10⟩
        clear e1 e2 e7 e9 e10 h1 h3 e8 ho
        go_wp2
        go_ret
        refine ⟨rfl, ⟨_, HE.out.1, ?_⟩, HE.out.2⟩
        rintro x (hx | ⟨hx, _⟩)
        · exact Or.inl hx
        · exact Or.inr hx
      · exact absurd ⟨hnode, hmay⟩ h
    · have ha : ¬ Ve.Alike (rows.getD k []) v := fun h => hmay (by have := h.2; rwa [hg.row hk] at this)
      have M := max_any (some ⟨b, off, none⟩) bo ca cb (rows.getD k []) v w h4 hv (Or.inr ⟨ha, rfl, rfl⟩)
      rcases h with ⟨_, h, _⟩ | ⟨_, rfl, rfl⟩
      · exact absurd h hmay
      · have HM : Hid (MatAt w F P rows') := hm
        clear hm hg hv ha hmay hnode h4
        obtain ⟨l, hl⟩ : ∃ l, l = rows'.getD k [] := ⟨_, rfl⟩
        rw [← hl] at M h3
        clear hl
        go_enter Try.func12, Try.ntmps12
        go_wp2_with fail
        refine C.mono ?_
        rintro e w1 ⟨rfl, rfl⟩
        clear C
        go_wp2_with fail
        refine M.mono ?_
        rintro e w2 ⟨ro, rc, rfl, ho, hb⟩
        clear M h1 h3 ho
        go_wp2
        go_ret
        exact ⟨rfl, ⟨F, HM.out.later hb, fun k hk => Or.inl hk⟩, Kept.of hb⟩
  · have C := hasNode_any F P rows node w hm (b := false) (by simp [hnode])
    rcases h with ⟨h, _⟩ | ⟨_, rfl, rfl⟩
    · exact absurd h hnode
    · have HM : Hid (MatAt w F P rows') := hm
      clear hm hg hv hnode
      go_enter Try.func12, Try.ntmps12
      go_wp2_with fail
      refine C.mono ?_
      rintro e w1 ⟨rfl, rfl⟩
      clear C
      go_wp2
      go_ret
      exact ⟨rfl, ⟨F, HM.out, fun k hk => Or.inl hk⟩, Kept.refl _ _⟩

end Go.Proofs.Ytdaakacjgkafcaa
