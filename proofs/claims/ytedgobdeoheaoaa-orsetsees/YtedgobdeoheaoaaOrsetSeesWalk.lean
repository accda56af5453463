/-
  The walk of the law OrsetSees: a drop takes what it saw, nothing else.
-/
import Derived.Test.YtedgobdeoheaoaaStep9
import Derived.Test.YtedgobdeoheaoaaAwake9
import Derived.Test.YtedgobdeoheaoaaMasks
import Derived.OwnWalk
namespace Go.Proofs.Ytedgobdeoheaoaa.OrsetSees
open Go.RowKit Go.Shelf
set_option linter.unusedVariables false
set_option linter.unusedSimpArgs false

abbrev aL (v : ByteArray) (i : Nat) : List E3 := accL (fun _ => v) (fun j => j) i

/-- What the loop keeps. -/
def Lp (h : Nat) (w : World) (g : Nat) (v : ByteArray) (i : Nat) (q : Pl) (W : World) : Prop := Regs h w W [(g, slL i q)] ∧ FOwn (g + 1) W q.eo (flatE (aL v i))

theorem small_a {v : ByteArray} (hv : v.size ≤ 256) {i : Nat} (hi : i ≤ 64) : Small (aL v i) := accL_small _ _ _ hi fun _ _ => hv
theorem ok_a {v : ByteArray} (hv : v.size ≤ 256) {i : Nat} (hi : i < 64) {d1 d2 : Int} (hd : dotN i = (d1, d2)) : putB (sc (aL v i)) (d1, d2) v = true := by
  rw [← hd]
  exact put_ok (f := fun _ => v) (g := fun j => j) (fun j h1 h2 => by omega) hi hv

/-- What the last test keeps: the answer's block, its one entry. -/
abbrev HeldZ (w1 : World) (k bk off ec : Nat) (d1 d2 : Int) (W : World) : Prop :=
  Hid (Below w1.heap.size w1 W) ∧ W.cell? ⟨k, 7, none⟩ = some (.slice (some ⟨bk, off, none⟩) 1 ec) ∧ W.cell? ⟨bk, off, none⟩ = some (.int .i64 d1) ∧ W.cell? ⟨bk, off + 1, none⟩ = some (.int .i64 d2)

/-- Where it begins. -/
structure SrcZ (w1 : World) (k bk off ec : Nat) (d1 d2 : Int) (v : ByteArray) (vo : Option Addr) : Prop where
  hk : k < w1.heap.size
  h7 : w1.cell? ⟨k, 7, none⟩ = some (.slice (some ⟨bk, off, none⟩) 1 ec)
  hb : bk < w1.heap.size
  h0 : w1.cell? ⟨bk, off, none⟩ = some (.int .i64 d1)
  h1 : w1.cell? ⟨bk, off + 1, none⟩ = some (.int .i64 d2)
  hv : FRow w1 vo (flatS [v.data.toList])

section
variable {w1 W : World} {k bk off ec : Nat} {d1 d2 : Int} {v : ByteArray} {vo : Option Addr}
theorem heldZ_of (hs : SrcZ w1 k bk off ec d1 d2 v vo) (hb : Below w1.heap.size w1 W) : HeldZ w1 k bk off ec d1 d2 W :=
  ⟨hb, (hb.cell (p := ⟨k, 7, none⟩) (by exact hs.hk)).trans hs.h7, (hb.cell (p := ⟨bk, off, none⟩) (by exact hs.hb)).trans hs.h0, (hb.cell (p := ⟨bk, off + 1, none⟩) (by exact hs.hb)).trans hs.h1⟩
theorem heldZ_later {W' : World} (hs : SrcZ w1 k bk off ec d1 d2 v vo) (hb : Below W.heap.size W W') (h : HeldZ w1 k bk off ec d1 d2 W) : HeldZ w1 k bk off ec d1 d2 W' :=
  heldZ_of hs (h.1.out.trans (hb.mono h.1.out.size))
theorem heldZ_drew (hs : SrcZ w1 k bk off ec d1 d2 v vo) : HeldZ w1 k bk off ec d1 d2 w1.drew := heldZ_of hs (Below.refl _ _).drew
theorem heldZ_first (hs : SrcZ w1 k bk off ec d1 d2 v vo) (x : Obj) : HeldZ w1 k bk off ec d1 d2 (w1.alloc x).drew := heldZ_of hs ((Below.refl _ _).alloc (Nat.le_refl _) x).drew
theorem heldZ_alloc (hs : SrcZ w1 k bk off ec d1 d2 v vo) (x : Obj) (h : HeldZ w1 k bk off ec d1 d2 W) : HeldZ w1 k bk off ec d1 d2 (W.alloc x) := heldZ_later hs ((Below.refl _ _).alloc (Nat.le_refl _) _) h

/-- The set's one text is that text. -/
theorem tsame_one {nb cv : Nat} (hs : SrcZ w1 k bk off ec d1 d2 v vo) (h : HeldZ w1 k bk off ec d1 d2 W) (hn : FRow W (some ⟨nb, 0, none⟩) [.string v]) :
    Calls Try.prog 20 #[.slice vo 1 cv, .slice (some ⟨nb, 0, none⟩) 1 1] W fun e w' => e = .returned (.bool true) ∧ Below W.heap.size W w' :=
  tsame_any vo (some ⟨nb, 0, none⟩) cv 1 [v.data.toList] W (hs.hv.later h.1.out) (by simpa [flatS] using hn) (by simp [maxLen])
theorem frow_litd (w : World) (v : ByteArray) (t : TypeId) : FRow (w.alloc (.cells #[.string v] t)).drew (some ⟨w.heap.size, 0, none⟩) [.string v] := (frow_new w [.string v] t).later (Below.refl _ _).drew
theorem frow_lit (w : World) (v : ByteArray) (t : TypeId) : FRow (w.alloc (.cells #[.string v] t)) (some ⟨w.heap.size, 0, none⟩) [.string v] := frow_new w [.string v] t
end

set_option maxHeartbeats 4000000 in
set_option maxRecDepth 100000 in
theorem walk (v : ByteArray) (many : Int) (again : Bool) (w : World) (hv : v.size ≤ maxLen) (_ : (Lit.int .i64 many).wf = true) :
    Calls Try.prog 5 #[.string v, .int .i64 many, .bool again] w fun e w' => e = .returned (.bool true) ∧ Below w.heap.size w w' := by
  obtain ⟨z, hz8, ez⟩ : ∃ z : Nat, z < 8 ∧ bits .and .i64 many 7 = (z : Int) := and_mask many 3 (by omega)
  obtain ⟨h, hh⟩ : ∃ h, w.heap.size = h := ⟨_, rfl⟩
  rw [hh]
  go_enter Try.func5, Try.ntmps5
  go_wp2_with fail
  refine (awake9_any _).mono ?_
  rintro e w1 ⟨rfl, b1⟩
  have H1 : Hid (Regs h w w1 []) := ⟨hh ▸ b1, by have := b1.size; omega⟩
  clear b1 hh
  by_cases hb : v.size ≤ 256
  · have hd : ¬ 256 < v.size := by omega
    obtain ⟨K, hK⟩ : ∃ K : Nat, 1 + z = K := ⟨_, rfl⟩
    have eK : (1 : Int) + (z : Int) = (K : Int) := by omega
    have hK8 : K ≤ 8 := by omega
    have HV : Hid (v.size ≤ 256 ∧ 1 ≤ K) := ⟨hb, by omega⟩
    obtain ⟨g, hg⟩ : ∃ g, w1.heap.size = g := ⟨_, rfl⟩
    have HG : Hid (h ≤ g) := by have := H1.out.2; show h ≤ g; omega
    have L0 : Hid (Lp h w g v 0 pl0 (w1.alloc (.cells (slL 0 pl0).toArray 30))) := ⟨Regs.push H1.out hg _ _, FOwn.nil _ _ _⟩
    clear H1 hK
    go_wp2_with fail
    clear hg
    go_loopg [9] K (fun m iv wr => ∃ (i : Nat) (q : Pl), i + m = K ∧ iv = .int .i64 i ∧ Hid (Lp h w g v i q wr))
    case atStart => exact ⟨0, pl0, by omega, rfl, L0.out⟩
    case round =>
      clear L0
      obtain ⟨i, q, hiK, rfl, HL⟩ := hrel
      by_cases hi : i < K
      · have hi16 : i < 16 := by omega
        obtain ⟨B, hB⟩ : ∃ B, wr.heap.size = B := ⟨_, rfl⟩
        obtain ⟨d1, d2, hd12⟩ : ∃ d1 d2, dotN i = (d1, d2) := ⟨_, _, rfl⟩
        have HS : Hid (Src9 wr B g i q (aL v i) g 0 (.int .i64 2)) := ⟨hB, HL.out.1.1, HL.out.2.row, by rw [← hB]; exact HL.out.1.1.1, HL.out.1.1.at 0 rfl⟩
        have HD : Hid (dotN i = (d1, d2) ∧ i < 64 ∧ Small (aL v i) ∧ putB (sc (aL v i)) (d1, d2) v = true) := ⟨hd12, by omega, small_a HV.out.1 (by omega), ok_a HV.out.1 (by omega) hd12⟩
        have hz0 : B ≤ wr.heap.size := by omega
        have hzd : B ≤ wr.drew.heap.size := hz0
        have HB : Hid (wr.heap.size = B ∧ g < B) := ⟨hB, by rw [← hB]; exact HL.out.1.1.1⟩
        clear hB hd12
        go_wp2_with fail
        go_cut [10, 11] from 30 to 46 (fun p e wx => ∃ (kc : Nat) (q' : Pl), p = .pointer (some ⟨kc, 0, none⟩) ∧ e = .int .i64 0 ∧ Hid (End9 wr B (i + 1) (aL v (i + 1)) kc q' wx))
        case first =>
          go_region_held3 (Held9 wr B g i q g 0 (.int .i64 2)) (first | (with_reducible apply held9_later HS.out hb2; assumption) | with_reducible apply held9_put HS.out T6 (by assumption) | (with_reducible apply held9_swap HS.out (by omega) (by assumption)) | (with_reducible exact held9_drew HS.out) | (with_reducible exact held9_first HS.out _) | (with_reducible apply held9_alloc HS.out _ (by assumption)))
            (first
              | (go_at_call 26; with_reducible refine (dot_as i HD.out.1 HD.out.2.1 _).mono ?_; rintro e w3 ⟨rfl, hb2⟩; have hz := hb2.size; first | (with_reducible have T6 := nine9_newd (B := B) (by omega) hb2; obtain ⟨y0, y1, y2, y3, y4, y5, y6, y7, y8, y9⟩ := nine9_ten T6; obtain ⟨z0, z1, z2, z3, z4, z5, z6, z7, z8, z9⟩ := nine9_tenf T6) | (with_reducible have T6 := nine9_new (B := B) (by omega) hb2; obtain ⟨y0, y1, y2, y3, y4, y5, y6, y7, y8, y9⟩ := nine9_ten T6; obtain ⟨z0, z1, z2, z3, z4, z5, z6, z7, z8, z9⟩ := nine9_tenf T6) | (with_reducible replace T6 := nine9_later T6 hb2; obtain ⟨y0, y1, y2, y3, y4, y5, y6, y7, y8, y9⟩ := nine9_ten T6; obtain ⟨z0, z1, z2, z3, z4, z5, z6, z7, z8, z9⟩ := nine9_tenf T6) | skip)
              | (go_at_call 10; with_reducible refine (put_at9 (f := fun _ => v) (g := fun j => j) HS.out (by assumption) HD.out.1 rfl HD.out.2.2.1 HD.out.2.2.2).mono ?_; rintro e w3 ⟨q', rfl, O3, hC3, hb2⟩; have hz := hb2.size; first | (with_reducible have T6 := nine9_newd (B := B) (by omega) hb2; obtain ⟨y0, y1, y2, y3, y4, y5, y6, y7, y8, y9⟩ := nine9_ten T6; obtain ⟨z0, z1, z2, z3, z4, z5, z6, z7, z8, z9⟩ := nine9_tenf T6) | (with_reducible have T6 := nine9_new (B := B) (by omega) hb2; obtain ⟨y0, y1, y2, y3, y4, y5, y6, y7, y8, y9⟩ := nine9_ten T6; obtain ⟨z0, z1, z2, z3, z4, z5, z6, z7, z8, z9⟩ := nine9_tenf T6) | (with_reducible replace T6 := nine9_later T6 hb2; obtain ⟨y0, y1, y2, y3, y4, y5, y6, y7, y8, y9⟩ := nine9_ten T6; obtain ⟨z0, z1, z2, z3, z4, z5, z6, z7, z8, z9⟩ := nine9_tenf T6) | skip))
          all_goals
            (go_wp2_with fail
             go_meet
             case rel =>
               (first
                 | (have E7 := end9_put (w1 := wr) (l' := aL v (i + 1)) T6 O3 (by assumption); exact ⟨_, q', rfl, rfl, E7⟩)
                 | (have E7 := end9_new (w1 := wr) (W := w3) (B := B) (l' := aL v (i + 1)) 30 hC3 (by omega) O3 (by assumption); exact ⟨_, q', rfl, rfl, E7⟩)))
        case rest =>
          obtain ⟨w3, rfl⟩ : ∃ z, z = wc := ⟨_, rfl⟩
          obtain ⟨kc, q', rfl, rfl, HE⟩ := hcut
          have H3 : Hid (g < kc ∧ Has w3 kc (slL (i + 1) q') ∧ Has w3 g (slL i q) ∧ Regs h w w3 [] ∧ FOwn B w3 q'.eo (flatE (aL v (i + 1)))) := by
            have K := HL.out.1.under9 (B := B) (fun e he => by simp at he; subst he; exact HB.out.2) (by have := HG.out; have := HB.out.2; omega) HE.out.2.2.2
            exact ⟨Nat.lt_of_lt_of_le HB.out.2 HE.out.1, HE.out.2.1, K.1, K.2, HE.out.2.2.1⟩
          have HB2 : Hid (g < B) := HB.out.2
          clear HL HS HD HE HB hz0 hzd
          obtain ⟨t0, t1, t2, t3, t4, t5, t6, t7, t8, t9⟩ := H3.out.2.1.ten
          obtain ⟨y0, y1, y2, y3, y4, y5, y6, y7, y8, y9⟩ := H3.out.2.2.1.ten
          obtain ⟨z0, z1, z2, z3, z4, z5, z6, z7, z8, z9⟩ := H3.out.2.2.1.tenf
          go_wp2_with (go_at_call 19; refine (num_any _ _).mono ?_; rintro e w0 ⟨rfl, hw0⟩; have hw1 := hw0.symm; clear hw0; subst hw1)
          go_roundg (gk - 1)
          case measure => omega
          case rel =>
            exact ⟨i + 1, q', by omega, by go_num, round9 H3.out.2.2.1 H3.out.2.2.2.1 H3.out.2.2.2.2 HG.out HB2.out (fun e he => by simp at he)⟩
      · obtain rfl : i = K := by omega
        have HC : Hid ((dotsL (aL v i) v).length = i ∧ (aL v i).length = i) := ⟨sees_len v i, accL_len _ _ _⟩
        obtain ⟨t0, t1, t2, t3, t4, t5, t6, t7, t8, t9⟩ := HL.out.1.1.ten
        go_wp2_with fail
        refine (dotss_yes (l := aL v i) (q := q) (v := v) _ (dotsL (aL v i) v) i i HC.out.2.symm HL.out.2.row (small_a HV.out.1 (by omega)) rfl HC.out.1.symm).mono ?_
        rintro e w5 ⟨ao, ca, rfl, o5, b5⟩
        obtain ⟨k, hk⟩ : ∃ k, w5.heap.size = k := ⟨_, rfl⟩
        have H5 : Hid (w5.heap.size = k ∧ Regs h w w5 [(g, slL i q)] ∧ FRow w5 q.eo (flatE (aL v i)) ∧ FRow w5 ao (flatD (dotsL (aL v i) v)) ∧ h ≤ k) := by
          have K := HL.out.1.later b5
          exact ⟨hk, K, HL.out.2.row.later b5, o5.row, by have := K.2.2; show h ≤ k; omega⟩
        have hgk : g < k := by have := H5.out.2.1.1.1; omega
        have A5 : Hid (Below k w5 (w5.alloc (.cells (slL i q).toArray 30)) ∧ Has (w5.alloc (.cells (slL i q).toArray 30)) k (slL i q)) := ⟨(Below.refl _ _).alloc (Nat.le_of_eq hk.symm) _, hk ▸ has_new _ _ _⟩
        have HZ : Hid ((w5.alloc (.cells (slL i q).toArray 30)).heap.size = k + 1) := by show _ = _; simp [hk]
        clear HL b5 o5 t0 t1 t2 t3 t4 t5 t6 t7 t8 t9
        obtain ⟨t0, t1, t2, t3, t4, t5, t6, t7, t8, t9⟩ := H5.out.2.1.1.ten
        cases again
        · go_wp2_with fail
          refine (drops_yes (l := aL v i) (q := q) (ds := dotsL (aL v i) v) ao ca _ [] i i 0 HC.out.2.symm HC.out.1.symm (H5.out.2.2.1.later (H5.out.1.symm ▸ A5.out.1)) (small_a HV.out.1 (by omega)) (H5.out.2.2.2.1.later (H5.out.1.symm ▸ A5.out.1)) (by have := HC.out.1; omega) (sees_none v i) rfl).mono ?_
          rintro e w6 ⟨q6, rfl, o6, b6⟩
          obtain ⟨k6, hk6⟩ : ∃ k, w6.heap.size = k := ⟨_, rfl⟩
          have H6 : Hid (Regs h w (w6.alloc (.cells (slL 0 q6).toArray 30)) [(k6, slL 0 q6)]) := Regs.push (L := []) ((H5.out.2.1.2.under9 (L := []) (B := k) (fun e he => by simp at he) H5.out.2.2.2.2 A5.out.1).later b6) hk6 _ _
          clear H5 A5 HZ o6 b6 t0 t1 t2 t3 t4 t5 t6 t7 t8 t9 hk
          go_wp2_with fail
          refine (valss_yes (l := []) (q := q6) _ [] 0 0 rfl (FRow.nil _ _) Small.nil rfl rfl).mono ?_
          rintro e w7 ⟨vo, cv, rfl, o7, b7⟩
          have H7 : Hid (Regs h w w7 [(k6, slL 0 q6)]) := H6.out.later b7
          clear H6 o7 b7 hk6
          have t7 := H7.out.1.at 7 rfl
          go_wp2_with (go_at_call 19; refine (num_any _ _).mono ?_; rintro e w0 ⟨rfl, hw0⟩; have hw1 := hw0.symm; clear hw0; subst hw1)
          go_ret
          exact ⟨rfl, H7.out.2.1⟩
        · have hi16 : i < 16 := by omega
          have hir : (i : Int) < 64 := by omega
          obtain ⟨W, hW⟩ : ∃ W, W = w5.alloc (.cells (slL i q).toArray 30) := ⟨_, rfl⟩
          have hk2 : W.heap.size = k + 1 := by rw [hW]; exact HZ.out
          have A6 : Hid (Below k w5 W ∧ Has W k (slL i q)) := by rw [hW]; exact A5.out
          obtain ⟨B, hB⟩ : ∃ B, W.heap.size = B := ⟨_, rfl⟩
          obtain ⟨d1, d2, hd12⟩ : ∃ d1 d2, dotN i = (d1, d2) := ⟨_, _, rfl⟩
          have hgW : Has W g (slL i q) := H5.out.2.1.1.later (H5.out.1.symm ▸ A6.out.1)
          have HS : Hid (Src9 W B g i q (aL v i) g 0 (.int .i64 2)) := ⟨hB, hgW, H5.out.2.2.1.later (H5.out.1.symm ▸ A6.out.1), by omega, hgW.at 0 rfl⟩
          have HD : Hid (dotN i = (d1, d2) ∧ i < 64 ∧ Small (aL v i) ∧ putB (sc (aL v i)) (d1, d2) v = true) := ⟨hd12, by omega, small_a HV.out.1 (by omega), ok_a HV.out.1 (by omega) hd12⟩
          have hz0 : B ≤ W.heap.size := by omega
          have hzd : B ≤ W.drew.heap.size := hz0
          have HB : Hid (W.heap.size = B ∧ B = k + 1) := ⟨hB, by omega⟩
          go_upto_region 17 with fail
          rw [← hW]
          clear hB hd12 hk2 hW A5 HZ hk hgW
          go_cut [15, 16] from 54 to 65 (fun p e wx => ∃ (kc : Nat) (q' : Pl), p = .pointer (some ⟨kc, 0, none⟩) ∧ e = .int .i64 0 ∧ Hid (End9 W B (i + 1) (aL v (i + 1)) kc q' wx))
          case first =>
            go_region_held3 (Held9 W B g i q g 0 (.int .i64 2)) (first | (with_reducible apply held9_later HS.out hb2; assumption) | with_reducible apply held9_put HS.out T6 (by assumption) | (with_reducible apply held9_swap HS.out (by omega) (by assumption)) | (with_reducible exact held9_drew HS.out) | (with_reducible exact held9_first HS.out _) | (with_reducible apply held9_alloc HS.out _ (by assumption)))
              (first
                | (go_at_call 26; with_reducible refine (dot_as i HD.out.1 HD.out.2.1 _).mono ?_; rintro e w3 ⟨rfl, hb2⟩; have hz := hb2.size; first | (with_reducible have T6 := nine9_newd (B := B) (by omega) hb2; obtain ⟨y0, y1, y2, y3, y4, y5, y6, y7, y8, y9⟩ := nine9_ten T6; obtain ⟨z0, z1, z2, z3, z4, z5, z6, z7, z8, z9⟩ := nine9_tenf T6) | (with_reducible have T6 := nine9_new (B := B) (by omega) hb2; obtain ⟨y0, y1, y2, y3, y4, y5, y6, y7, y8, y9⟩ := nine9_ten T6; obtain ⟨z0, z1, z2, z3, z4, z5, z6, z7, z8, z9⟩ := nine9_tenf T6) | (with_reducible replace T6 := nine9_later T6 hb2; obtain ⟨y0, y1, y2, y3, y4, y5, y6, y7, y8, y9⟩ := nine9_ten T6; obtain ⟨z0, z1, z2, z3, z4, z5, z6, z7, z8, z9⟩ := nine9_tenf T6) | skip)
                | (go_at_call 10; with_reducible refine (put_at9 (f := fun _ => v) (g := fun j => j) HS.out (by assumption) HD.out.1 rfl HD.out.2.2.1 HD.out.2.2.2).mono ?_; rintro e w3 ⟨q', rfl, O3, hC3, hb2⟩; have hz := hb2.size; first | (with_reducible have T6 := nine9_newd (B := B) (by omega) hb2; obtain ⟨y0, y1, y2, y3, y4, y5, y6, y7, y8, y9⟩ := nine9_ten T6; obtain ⟨z0, z1, z2, z3, z4, z5, z6, z7, z8, z9⟩ := nine9_tenf T6) | (with_reducible have T6 := nine9_new (B := B) (by omega) hb2; obtain ⟨y0, y1, y2, y3, y4, y5, y6, y7, y8, y9⟩ := nine9_ten T6; obtain ⟨z0, z1, z2, z3, z4, z5, z6, z7, z8, z9⟩ := nine9_tenf T6) | (with_reducible replace T6 := nine9_later T6 hb2; obtain ⟨y0, y1, y2, y3, y4, y5, y6, y7, y8, y9⟩ := nine9_ten T6; obtain ⟨z0, z1, z2, z3, z4, z5, z6, z7, z8, z9⟩ := nine9_tenf T6) | skip))
            all_goals
              (go_wp2_with fail
               go_meet
               case rel =>
                 (first
                   | (have E7 := end9_put (w1 := W) (l' := aL v (i + 1)) T6 O3 (by assumption); exact ⟨_, q', rfl, rfl, E7⟩)
                   | (have E7 := end9_new (w1 := W) (W := w3) (B := B) (l' := aL v (i + 1)) 30 hC3 (by omega) O3 (by assumption); exact ⟨_, q', rfl, rfl, E7⟩)))
          case rest =>
            obtain ⟨w6, rfl⟩ : ∃ z, z = wc := ⟨_, rfl⟩
            obtain ⟨kc, q', rfl, rfl, HE⟩ := hcut
            have H6 : Hid (Below k w5 w6 ∧ Has w6 k (slL i q) ∧ Has w6 kc (slL (i + 1) q') ∧ FOwn (k + 1) w6 q'.eo (flatE (aL v (i + 1))) ∧ k < kc) := by
              have e := HB.out.2
              exact ⟨A6.out.1.trans (HE.out.2.2.2.mono (by omega)), A6.out.2.under (by omega) HE.out.2.2.2, HE.out.2.1, e ▸ HE.out.2.2.1, by have := HE.out.1; omega⟩
            have HD2 : Hid (dotN i = (d1, d2)) := HD.out.1
            clear A6 HS HD HE HB hz0 hzd
            obtain ⟨x0, x1, x2, x3, x4, x5, x6, x7, x8, x9⟩ := H6.out.2.2.1.ten
            obtain ⟨y0, y1, y2, y3, y4, y5, y6, y7, y8, y9⟩ := H6.out.2.1.ten
            obtain ⟨z0, z1, z2, z3, z4, z5, z6, z7, z8, z9⟩ := H6.out.2.1.tenf
            have A7 : Hid (Below k w5 (put10 w6 k (.int .i64 2) (.bool false) (.int .i64 0) (.int .i64 0) (.string ⟨#[]⟩) (.int .i64 0) (.int .i64 0) (.slice q'.eo (i + 1) q'.ec) (.slice q'.lo 0 q'.lc) (.slice q'.so 0 q'.sc)) ∧ FOwn (k + 1) (put10 w6 k (.int .i64 2) (.bool false) (.int .i64 0) (.int .i64 0) (.string ⟨#[]⟩) (.int .i64 0) (.int .i64 0) (.slice q'.eo (i + 1) q'.ec) (.slice q'.lo 0 q'.lc) (.slice q'.so 0 q'.sc)) q'.eo (flatE (aL v (i + 1)))) := ⟨below_put10 H6.out.1 (Nat.le_refl _) _ _ _ _ _ _ _ _ _ _, H6.out.2.2.2.1.put10 (by omega) _ _ _ _ _ _ _ _ _ _⟩
            go_wp2_with (go_at_call 19; refine (num_any _ _).mono ?_; rintro e w0 ⟨rfl, hw0⟩; have hw1 := hw0.symm; clear hw0; subst hw1)
            refine (drops_yes (l := aL v (i + 1)) (q := q') (ds := dotsL (aL v i) v) ao ca _ [entN (fun _ => v) i] (i + 1) i 1 (accL_len _ _ _).symm HC.out.1.symm A7.out.2.row (small_a HV.out.1 (by omega)) (H5.out.2.2.2.1.later (H5.out.1.symm ▸ A7.out.1)) (by have := HC.out.1; omega) (sees_one v i) rfl).mono ?_
            rintro e w7 ⟨q7, rfl, o7, b7⟩
            obtain ⟨kz, hkz⟩ : ∃ k, w7.heap.size = k := ⟨_, rfl⟩
            have H7 : Hid (Regs h w (w7.alloc (.cells (slL 1 q7).toArray 30)) [(kz, slL 1 q7)] ∧ FRow (w7.alloc (.cells (slL 1 q7).toArray 30)) q7.eo (flatE [entN (fun _ => v) i])) := ⟨Regs.push (L := []) ((H5.out.2.1.2.under9 (L := []) (B := k) (fun e he => by simp at he) H5.out.2.2.2.2 A7.out.1).later b7) hkz _ _, o7.row.later ((Below.refl _ _).alloc (Nat.le_refl _) _)⟩
            clear H5 H6 A7 o7 b7 t0 t1 t2 t3 t4 t5 t6 t7 t8 t9 x0 x1 x2 x3 x4 x5 x6 x7 x8 x9 y0 y1 y2 y3 y4 y5 y6 y7 y8 y9 z0 z1 z2 z3 z4 z5 z6 z7 z8 z9
            go_wp2_with fail
            refine (valss_yes (l := [entN (fun _ => v) i]) (q := q7) _ [v.data.toList] 1 1 rfl H7.out.2 ⟨by simp, fun x hx => by simp at hx; subst hx; exact HV.out.1⟩ (sees_vals v i) rfl).mono ?_
            rintro e w8 ⟨vo, cv, rfl, o8, b8⟩
            have H8 : Hid (Regs h w w8 [(kz, slL 1 q7)]) := H7.out.1.later b8
            obtain ⟨bk, off, eq, hbk, hc⟩ := (H7.out.2.later b8) (by simp [flatE])
            have c0 := hc 0 _ rfl
            have c1 := hc 1 _ rfl
            rw [show (entN (fun _ => v) i).node = d1 by show (dotN i).1 = d1; rw [HD2.out]] at c0
            rw [show (entN (fun _ => v) i).seq = d2 by show (dotN i).2 = d2; rw [HD2.out]] at c1
            have t7 := H8.out.1.at 7 rfl
            rw [eq] at t7
            have HS : Hid (SrcZ w8 kz bk off q7.ec d1 d2 v vo) := ⟨H8.out.1.1, t7, hbk, c0, c1, o8.row⟩
            clear H7 o8 b8 hc c0 c1 eq hkz hbk t7
            go_wp2_with (go_at_call 19; refine (num_any _ _).mono ?_; rintro e w0 ⟨rfl, hw0⟩; have hw1 := hw0.symm; clear hw0; subst hw1)
            go_region_held3 (HeldZ w8 kz bk off q7.ec d1 d2) (first | (with_reducible apply heldZ_later HS.out hb2; assumption) | (with_reducible exact heldZ_drew HS.out) | (with_reducible exact heldZ_first HS.out _) | (with_reducible apply heldZ_alloc HS.out _ (by assumption)))
              (first
                | (go_at_call 20; with_reducible refine (tsame_one HS.out (by assumption) (by first | exact frow_litd _ _ _ | exact frow_lit _ _ _)).mono ?_; rintro e w9 ⟨rfl, hb2⟩)
                | (go_at_call 26; with_reducible refine (dot_as i HD2.out (by omega) _).mono ?_; rintro e w9 ⟨rfl, hb2⟩))
            all_goals
              (go_wp2
               go_ret
               refine ⟨rfl, H8.out.base.1.trans (Below.mono (B := w8.heap.size) ?_ H8.out.base.2)⟩
               exact (show HeldZ w8 kz bk off q7.ec d1 d2 _ by assumption).1.out)
  · have hd : 256 < v.size := by omega
    go_wp2
    go_ret
    exact ⟨rfl, H1.out.1⟩

end Go.Proofs.Ytedgobdeoheaoaa.OrsetSees
