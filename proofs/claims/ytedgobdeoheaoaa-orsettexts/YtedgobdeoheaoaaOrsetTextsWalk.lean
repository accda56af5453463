/-
  The walk of the law OrsetTexts: a set's values by their bytes, each once, whatever was put.
-/
import Derived.Test.YtedgobdeoheaoaaStep9
import Derived.Test.YtedgobdeoheaoaaAwake9
import Derived.Test.YtedgobdeoheaoaaBytes
import Derived.OwnWalk
namespace Go.Proofs.Ytedgobdeoheaoaa.OrsetTexts
open Go.RowKit Go.Shelf
set_option linter.unusedVariables false
set_option linter.unusedSimpArgs false

/-- The j-th text. -/
def tf (l : List S8) (j : Nat) : ByteArray := ⟨(l.getD j []).toArray⟩
abbrev tL (l : List S8) (i : Nat) : List E3 := accL (tf l) (fun j => j) i

/-- What the first loop keeps. -/
def Lp (h : Nat) (w : World) (g : Nat) (l : List S8) (i : Nat) (q : Pl) (W : World) : Prop := (∀ j, j < i → (tf l j).size ≤ 256) ∧ Regs h w W [(g, slL i q)] ∧ FOwn (g + 1) W q.eo (flatE (tL l i))

theorem small_t {l : List S8} {i : Nat} (h : ∀ j, j < i → (tf l j).size ≤ 256) (hi : i ≤ 64) : Small (tL l i) := accL_small _ _ _ hi h
theorem ok_t {l : List S8} {i : Nat} {v : ByteArray} (hv : tf l i = v) (h : v.size ≤ 256) (hi : i < 64) {d1 d2 : Int} (hd : dotN i = (d1, d2)) : putB (sc (tL l i)) (d1, d2) v = true := by
  subst hv
  rw [← hd]
  exact put_ok (f := tf l) (g := fun j => j) (fun j h1 h2 => by omega) hi h

/-- The world behind 'make([]byte, n)'. -/
def madeB (n : Nat) (w : World) : World := w.alloc (.cells (madeCells (Value.int .u8 0).cells (n * 1)) 5)
theorem run_madeb (n : Nat) (w : World) (hn : n ≤ 100000) : (Instr.makeSlice 68 (.int .i64 (n : Int)) (.int .i64 (n : Int))).run Try.prog w = .ok (.slice (some ⟨w.heap.size, 0, none⟩) n n) (madeB n w) := by
  obtain ⟨i0, hi0, hz0, hz1, hz2⟩ := info_parts Try.infoByte
  have hr := run_make (P := Try.prog) w 68 5 i0 (.int .u8 0) Try.underlying68 hi0 hz0 .i64 .i64 n n (by omega) (Int.le_refl _) (by rw [hz2]; omega) (by omega)
  simp only [Int.toNat_natCast, hz1] at hr
  exact hr
theorem below_madeb (n : Nat) (w : World) : Below w.heap.size w (madeB n w) := (Below.refl _ _).alloc (Nat.le_refl _) _
theorem size_madeb (n : Nat) (w : World) : (madeB n w).heap.size = w.heap.size + 1 := by unfold madeB; simp
theorem conv_madeb (n : Nat) (w : World) : (convert 68 9 (.slice (some ⟨w.heap.size, 0, none⟩) n n)).run Try.prog (madeB n w) = .ok (.string ⟨(List.replicate n (0 : UInt8)).toArray⟩) (madeB n w) := by
  have e : (madeCells (Value.int .u8 0).cells (n * 1)).toList = Vi.cells (List.replicate n 0) := by
    rw [Nat.mul_one, show (Value.int .u8 0).cells = #[.int .u8 0] from rfl, toList_madeCells_one]
    simp [Vi.cells]
  have hr := run_convert_bytes_back (P := Try.prog) (madeB n w) 68 9 5 ⟨w.heap.size, 0, none⟩ n (List.replicate n 0) Try.underlying68 Try.underlying5 Try.underlying9 (by
    intro j hj
    simp only [List.length_replicate] at hj
    unfold madeB
    rw [add_off, World.cell?_alloc_at _ _ _ _ rfl, ← Array.getElem?_toList, e]
    simp [Vi.cells, hj])
  rw [List.length_replicate] at hr
  exact hr
theorem conv_madebd (n : Nat) (w : World) : (convert 68 9 (.slice (some ⟨w.heap.size, 0, none⟩) n n)).run Try.prog (madeB n w.drew) = .ok (.string ⟨(List.replicate n (0 : UInt8)).toArray⟩) (madeB n w.drew) := conv_madeb n w.drew

/-- Dots, from within the region. -/
theorem dots_at9 {w1 W : World} {B g n bk o : Nat} {q : Pl} {l : List E3} {u : Value} {v : ByteArray} {n' : Nat} (hs : Src9 w1 B g n q l bk o u) (h : Held9 w1 B g n q bk o u W) (hn : n = l.length) (hsm : Small l) (hn' : n' = (dotsL l v).length) :
    Calls Try.prog 16 #[slV n q, .string v] W fun e w' => ∃ ao ca, e = .returned (.tuple #[.slice ao n' ca, .int .i64 0]) ∧ Below W.heap.size W w' := by
  refine (dotss_yes (l := l) (q := q) (v := v) W _ n n' hn (hs.hr.later (hs.hB.symm ▸ h.1.out.1)) hsm rfl hn').mono ?_
  rintro e w' ⟨ao, ca, h1, _, h3⟩
  exact ⟨ao, ca, h1, h3⟩

theorem below_drewN {B : Nat} {a w : World} (h : Below B a w) : ∀ n, Below B a (w.drewN n)
  | 0 => h
  | n + 1 => (below_drewN h n).drew

set_option maxHeartbeats 4000000 in
set_option maxRecDepth 100000 in
theorem core (ao : Option Addr) (ca : Nat) (l : List S8) (w : World) (hr : FRow w ao (flatS l)) (hl : l.length * 16 ≤ 140737488351232) :
    Calls Try.prog 7 #[.slice ao l.length ca] w fun e w' => e = .returned (.bool true) ∧ Below w.heap.size w w' := by
  have HP : Hid (FRow w ao (flatS l)) := hr
  obtain ⟨h, hh⟩ : ∃ h, w.heap.size = h := ⟨_, rfl⟩
  have HH : Hid (w.heap.size = h) := hh
  rw [hh]
  go_enter Try.func7, Try.ntmps7
  go_wp2_with fail
  refine (awake9_any _).mono ?_
  rintro e w1 ⟨rfl, b1⟩
  have H1 : Hid (Regs h w w1 []) := ⟨hh ▸ b1, by have := b1.size; omega⟩
  clear b1 hr hh
  obtain ⟨N, hN1, hN2, hN3⟩ : ∃ N : Nat, N ≤ l.length ∧ N ≤ 20 ∧ (N = l.length ∨ N = 20) := by
    by_cases h : l.length ≤ 20
    · exact ⟨l.length, by omega, h, Or.inl rfl⟩
    · exact ⟨20, by omega, by omega, Or.inr rfl⟩
  obtain ⟨g, hg⟩ : ∃ g, w1.heap.size = g := ⟨_, rfl⟩
  have HG : Hid (h ≤ g) := by have := H1.out.2; show h ≤ g; omega
  have L0 : Hid (Lp h w g l 0 pl0 (w1.alloc (.cells (slL 0 pl0).toArray 30))) := ⟨fun j hj => by omega, Regs.push H1.out hg _ _, FOwn.nil _ _ _⟩
  clear H1
  go_upto_block 0 with fail
  clear hg
  go_cut [4] from 18 to 50 (fun kv wx => ∃ (n : Nat) (q : Pl), n ≤ 20 ∧ kv = .int .i64 n ∧ Hid (Lp h w g l n q wx))
  case first =>
    go_wp2_with fail
    go_loopg [4, 5] N (fun m kv iv wr => ∃ (i : Nat) (q : Pl), i + m = N ∧ kv = .int .i64 i ∧ iv = .int .i64 i ∧ Hid (Lp h w g l i q wr))
    case atStart => exact ⟨0, pl0, by omega, rfl, rfl, L0.out⟩
    case round =>
      clear L0
      obtain ⟨i, q, hiN, rfl, rfl, HL⟩ := hrel
      by_cases hi : i < N
      · have hi1 : i < l.length := by omega
        have hi2 : i < 20 := by omega
        obtain ⟨B, hB⟩ : ∃ B, wr.heap.size = B := ⟨_, rfl⟩
        obtain ⟨bk, off, rfl, hbk, hc⟩ := HP.out (by rw [flatS_len]; omega)
        obtain ⟨v, hv⟩ : ∃ v, tf l i = v := ⟨_, rfl⟩
        have hcv : w.cell? ⟨bk, off + i, none⟩ = some (.string v) := hc i _ (by
          rw [← hv]
          have hx : l[i]? = some l[i] := List.getElem?_eq_getElem hi1
          rw [flatS_at hx]
          simp [tf, List.getD, hx])
        have c0 : wr.cell? ⟨bk, off + i, none⟩ = some (.string v) := (HL.out.2.1.base.1.cell (p := ⟨bk, off + i, none⟩) (by rw [← HH.out]; exact hbk)).trans hcv
        have hbB : bk < B := by have := HL.out.2.1.base.2; have := HH.out; omega
        clear hc hcv hbk
        by_cases hb : v.size ≤ 256
        · have hd : ¬ 256 < v.size := by omega
          obtain ⟨d1, d2, hd12⟩ : ∃ d1 d2, dotN i = (d1, d2) := ⟨_, _, rfl⟩
          have HS : Hid (Src9 wr B g i q (tL l i) bk (off + i) (.string v)) := ⟨hB, HL.out.2.1.1, HL.out.2.2.row, hbB, c0⟩
          have HD : Hid (dotN i = (d1, d2) ∧ i < 64 ∧ Small (tL l i) ∧ putB (sc (tL l i)) (d1, d2) v = true ∧ tf l i = v ∧ v.size ≤ 256) := ⟨hd12, by omega, small_t HL.out.1 (by omega), ok_t hv hb (by omega) hd12, hv, hb⟩
          have hz0 : B ≤ wr.heap.size := by omega
          have hzd : B ≤ wr.drew.heap.size := hz0
          have HB : Hid (wr.heap.size = B ∧ g < B) := ⟨hB, by rw [← hB]; exact HL.out.2.1.1.1⟩
          clear hB hd12 hv
          go_wp2_with fail
          clear c0 hbB
          go_cut [6, 7] from 18 to 50 (fun p e wx => ∃ (kc : Nat) (q' : Pl), p = .pointer (some ⟨kc, 0, none⟩) ∧ e = .int .i64 0 ∧ Hid (End9 wr B (i + 1) (tL l (i + 1)) kc q' wx))
          case first =>
            go_region_held3 (Held9 wr B g i q bk (off + i) (.string v)) (first | (with_reducible apply held9_later HS.out hb2; assumption) | with_reducible apply held9_put HS.out T6 (by assumption) | (with_reducible apply held9_swap HS.out (by omega) (by assumption)) | (with_reducible exact held9_drew HS.out) | (with_reducible exact held9_first HS.out _) | (with_reducible apply held9_alloc HS.out _ (by assumption)))
              (first
                | (go_at_call 26; with_reducible refine (dot_as i HD.out.1 HD.out.2.1 _).mono ?_; rintro e w3 ⟨rfl, hb2⟩; have hz := hb2.size; first | (with_reducible have T6 := nine9_newd (B := B) (by omega) hb2; obtain ⟨y0, y1, y2, y3, y4, y5, y6, y7, y8, y9⟩ := nine9_ten T6; obtain ⟨z0, z1, z2, z3, z4, z5, z6, z7, z8, z9⟩ := nine9_tenf T6) | (with_reducible have T6 := nine9_new (B := B) (by omega) hb2; obtain ⟨y0, y1, y2, y3, y4, y5, y6, y7, y8, y9⟩ := nine9_ten T6; obtain ⟨z0, z1, z2, z3, z4, z5, z6, z7, z8, z9⟩ := nine9_tenf T6) | (with_reducible replace T6 := nine9_later T6 hb2; obtain ⟨y0, y1, y2, y3, y4, y5, y6, y7, y8, y9⟩ := nine9_ten T6; obtain ⟨z0, z1, z2, z3, z4, z5, z6, z7, z8, z9⟩ := nine9_tenf T6) | skip)
                | (go_at_call 10; with_reducible refine (put_at9 (f := tf l) (g := fun j => j) HS.out (by assumption) HD.out.1 HD.out.2.2.2.2.1 HD.out.2.2.1 HD.out.2.2.2.1).mono ?_; rintro e w3 ⟨q', rfl, O3, hC3, hb2⟩; have hz := hb2.size; first | (with_reducible have T6 := nine9_newd (B := B) (by omega) hb2; obtain ⟨y0, y1, y2, y3, y4, y5, y6, y7, y8, y9⟩ := nine9_ten T6; obtain ⟨z0, z1, z2, z3, z4, z5, z6, z7, z8, z9⟩ := nine9_tenf T6) | (with_reducible have T6 := nine9_new (B := B) (by omega) hb2; obtain ⟨y0, y1, y2, y3, y4, y5, y6, y7, y8, y9⟩ := nine9_ten T6; obtain ⟨z0, z1, z2, z3, z4, z5, z6, z7, z8, z9⟩ := nine9_tenf T6) | (with_reducible replace T6 := nine9_later T6 hb2; obtain ⟨y0, y1, y2, y3, y4, y5, y6, y7, y8, y9⟩ := nine9_ten T6; obtain ⟨z0, z1, z2, z3, z4, z5, z6, z7, z8, z9⟩ := nine9_tenf T6) | skip))
            all_goals
              (go_wp2_with fail
               go_meet
               case rel =>
                 (first
                   | (have E7 := end9_put (w1 := wr) (l' := tL l (i + 1)) T6 O3 (by assumption); exact ⟨_, q', rfl, rfl, E7⟩)
                   | (have E7 := end9_new (w1 := wr) (W := w3) (B := B) (l' := tL l (i + 1)) 30 hC3 (by omega) O3 (by assumption); exact ⟨_, q', rfl, rfl, E7⟩)))
          case rest =>
            obtain ⟨w3, rfl⟩ : ∃ z, z = wc := ⟨_, rfl⟩
            obtain ⟨kc, q', rfl, rfl, HE⟩ := hcut
            have H3 : Hid (g < kc ∧ Has w3 kc (slL (i + 1) q') ∧ Has w3 g (slL i q) ∧ Regs h w w3 [] ∧ FOwn B w3 q'.eo (flatE (tL l (i + 1))) ∧ ∀ j, j < i + 1 → (tf l j).size ≤ 256) := by
              have K := HL.out.2.1.under9 (B := B) (fun e he => by simp at he; subst he; exact HB.out.2) (by have := HG.out; have := HB.out.2; omega) HE.out.2.2.2
              exact ⟨Nat.lt_of_lt_of_le HB.out.2 HE.out.1, HE.out.2.1, K.1, K.2, HE.out.2.2.1, fun j hj => by
                by_cases e : j = i
                · rw [e, HD.out.2.2.2.2.1]; exact HD.out.2.2.2.2.2
                · exact HL.out.1 j (by omega)⟩
            have HB2 : Hid (g < B) := HB.out.2
            clear HL HS HD HE HB hz0 hzd
            obtain ⟨t0, t1, t2, t3, t4, t5, t6, t7, t8, t9⟩ := H3.out.2.1.ten
            obtain ⟨y0, y1, y2, y3, y4, y5, y6, y7, y8, y9⟩ := H3.out.2.2.1.ten
            obtain ⟨z0, z1, z2, z3, z4, z5, z6, z7, z8, z9⟩ := H3.out.2.2.1.tenf
            go_wp2_with (go_at_call 19; refine (num_any _ _).mono ?_; rintro e w0 ⟨rfl, hw0⟩; have hw1 := hw0.symm; clear hw0; subst hw1)
            go_roundg (gk - 1)
            case measure => omega
            case rel => exact ⟨i + 1, q', by omega, by go_num, by go_num, H3.out.2.2.2.2.2, round9 H3.out.2.2.1 H3.out.2.2.2.1 H3.out.2.2.2.2.1 HG.out HB2.out (fun e he => by simp at he)⟩
        · have hd : 256 < v.size := by omega
          go_wp2_with fail
          go_ret
          exact ⟨rfl, HL.out.2.1.base.1⟩
      · by_cases hlen : i < l.length
        · have hd2 : ¬ i < 20 := by omega
          go_wp2_with fail
          go_meet
          case rel => exact ⟨i, q, by omega, rfl, HL.out⟩
        · go_wp2_with fail
          go_meet
          case rel => exact ⟨i, q, by omega, rfl, HL.out⟩
  case rest =>
    obtain ⟨n, q, hn20, rfl, HL⟩ := hcut
    obtain ⟨w4, rfl⟩ : ∃ z, z = wc := ⟨_, rfl⟩
    clear L0 hN1 hN2 hN3 HP hl HH
    obtain ⟨ws, hws⟩ : ∃ ws, setV (valsL (tL l n)) = ws := ⟨_, rfl⟩
    have HC : Hid (setV (valsL (tL l n)) = ws ∧ (tL l n).length = n ∧ Small (tL l n)) := ⟨hws, accL_len _ _ _, small_t HL.out.1 (by omega)⟩
    have hwl : ws.length ≤ 20 := by have := setV_le (valsL (tL l n)); rw [hws, valsL_len, accL_len] at this; omega
    clear hws
    obtain ⟨t0, t1, t2, t3, t4, t5, t6, t7, t8, t9⟩ := HL.out.2.1.1.ten
    go_wp2_with fail
    refine (valss_yes (l := tL l n) (q := q) _ ws n ws.length HC.out.2.1.symm HL.out.2.2.row HC.out.2.2 HC.out.1 rfl).mono ?_
    rintro e w5 ⟨vo, cv, rfl, o5, b5⟩
    have H5 : Hid (Regs h w w5 [(g, slL n q)] ∧ FRow w5 q.eo (flatE (tL l n)) ∧ FRow w5 vo (flatS ws)) := ⟨HL.out.2.1.later b5, HL.out.2.2.row.later b5, o5.row⟩
    have S0 : Hid (Below w5.heap.size w5 w5) := Below.refl _ _
    clear HL o5 b5 t0 t1 t2 t3 t4 t5 t6 t7 t8 t9
    go_wp2_with (go_at_call 19; refine (num_any _ _).mono ?_; rintro e w0 ⟨rfl, hw0⟩; have hw1 := hw0.symm; clear hw0; subst hw1)
    go_loopg [4, 10] ws.length (fun m kv iv wr => ∃ (i r : Nat), i + m = ws.length ∧ kv = .int .i64 r ∧ iv = .int .i64 i ∧ Hid (r + sumD (tL l n) ws i = n ∧ Below w5.heap.size w5 wr))
    case atStart => exact ⟨0, n, by omega, rfl, rfl, by simp [sumD], S0.out⟩
    case round =>
      clear S0
      obtain ⟨i, r, hir, rfl, rfl, HR⟩ := hrel
      by_cases hi : i < ws.length
      · obtain ⟨B, hB⟩ : ∃ B, wr.heap.size = B := ⟨_, rfl⟩
        obtain ⟨vb, voff, rfl, hvb, hc⟩ := (H5.out.2.2.later HR.out.2) (by rw [flatS_len]; omega)
        obtain ⟨x, hx⟩ : ∃ x, ws[i]? = some x := ⟨_, List.getElem?_eq_getElem hi⟩
        obtain ⟨m, hm⟩ : ∃ m, m = (dotsL (tL l n) ⟨x.toArray⟩).length := ⟨_, rfl⟩
        have hpos : 0 < m := by rw [hm]; exact dots_some HC.out.1 hx
        have hstep : sumD (tL l n) ws (i + 1) = sumD (tL l n) ws i + m := by rw [hm]; exact sumD_step _ hx
        have hle := sumD_le HC.out.1 (i := i + 1) (by omega)
        rw [HC.out.2.1, hstep] at hle
        obtain ⟨r', hr'⟩ : ∃ r', r = r' + m := ⟨r - m, by have := HR.out.1; omega⟩
        have K := H5.out.1.later HR.out.2
        have HS : Hid (Src9 wr B g n q (tL l n) vb (voff + i) (.string ⟨x.toArray⟩)) := ⟨hB, K.1, H5.out.2.1.later HR.out.2, by rw [← hB]; exact hvb, hc i _ (flatS_at hx)⟩
        have HX : Hid (sumD (tL l n) ws (i + 1) = sumD (tL l n) ws i + m ∧ m = (dotsL (tL l n) ⟨x.toArray⟩).length ∧ ws[i]? = some x ∧ wr.heap.size = B ∧ vb < B ∧ ∀ j y, ws[j]? = some y → wr.cell? ⟨vb, voff + j, none⟩ = some (.string ⟨y.toArray⟩)) := ⟨hstep, hm, hx, hB, by rw [← hB]; exact hvb, fun j y hy => hc j _ (flatS_at hy)⟩
        have hz0 : B ≤ wr.heap.size := by omega
        have hzd : B ≤ wr.drew.heap.size := hz0
        have er : (r : Int) - (m : Int) = (r' : Int) := by omega
        have hm0 : ((m : Int) == 0) = false := by simp; omega
        have hr20 : r' ≤ 20 := by have := HR.out.1; omega
        have HN : Hid (r' + sumD (tL l n) ws (i + 1) = n) := by have := HR.out.1; show _ = _; omega
        clear hB hvb hc hx hm hpos hstep hle K hr'
        go_wp2_with fail
        go_region_held3 (Held9 wr B g n q vb (voff + i) (.string ⟨x.toArray⟩)) (first | (with_reducible apply held9_later HS.out hb2; assumption) | (with_reducible exact held9_drew HS.out) | assumption)
          (first
            | (go_at_call 16; with_reducible refine (dots_at9 HS.out (by assumption) HC.out.2.1.symm HC.out.2.2 HX.out.2.1).mono ?_; rintro e w6 ⟨do9, dc9, rfl, hb2⟩))
        have K6 := (show Held9 wr B g n q vb (voff + i) (.string ⟨x.toArray⟩) _ by assumption).1.out
        have KB : Hid (Below w5.heap.size w5 w6) := HR.out.2.trans (K6.1.mono (by have := HR.out.2.size; have := HX.out.2.2.2.1; omega))
        by_cases h0 : i = 0
        · subst h0
          go_wp2_with fail
          go_quiet ((go_at_call 19; refine Calls.quiet_of_same (num_any _ _)))
          go_wp2_with fail
          go_roundg (gk - 1)
          case measure => omega
          case rel => exact ⟨0 + 1, r', by omega, by go_num, by go_num, HN.out, by first | exact below_drewN KB.out _ | exact KB.out⟩
        · obtain ⟨j, hij⟩ : ∃ j, i = j + 1 := ⟨i - 1, by omega⟩
          obtain ⟨y, hy⟩ : ∃ y, ws[j]? = some y := ⟨_, List.getElem?_eq_getElem (by omega)⟩
          have cx := (show Held9 wr B g n q vb (voff + i) (.string ⟨x.toArray⟩) w6 by assumption).2.2.2.2.2.2.2.2.2.2.2
          have cy : w6.cell? ⟨vb, voff + j, none⟩ = some (.string ⟨y.toArray⟩) := (K6.1.cell (p := ⟨vb, voff + j, none⟩) (by exact HX.out.2.2.2.2.1)).trans (HX.out.2.2.2.2.2 j y hy)
          have hlt : y < x := by
            have ha : Asc ws := HC.out.1 ▸ setV_asc _
            obtain ⟨p1, p2⟩ := List.getElem?_eq_some_iff.1 hy
            obtain ⟨p3, p4⟩ := List.getElem?_eq_some_iff.1 HX.out.2.2.1
            rw [← p2, ← p4]
            exact List.pairwise_iff_getElem.1 ha j i p1 p3 (by omega)
          have hbl : Op.bytesLess y x = true := by rw [bytesLess_eq]; exact decide_eq_true hlt
          have ej : (i : Int) - 1 = (j : Int) := by omega
          have hj1 : (j : Int) < (ws.length : Int) := by omega
          have hi1 : (i : Int) < (ws.length : Int) := by omega
          have hi0 : (0 : Int) < (i : Int) := by omega
          have hi00 : 0 < i := by omega
          have hj2 : j < ws.length := by omega
          clear hij hy hlt h0
          go_wp2_with fail
          go_quiet ((go_at_call 19; refine Calls.quiet_of_same (num_any _ _)))
          go_wp2_with fail
          go_roundg (gk - 1)
          case measure => omega
          case rel => exact ⟨i + 1, r', by omega, by go_num, by go_num, HN.out, by first | exact below_drewN KB.out _ | exact KB.out⟩
      · obtain rfl : i = ws.length := by omega
        have hsum := sumD_all HC.out.1
        rw [HC.out.2.1] at hsum
        obtain rfl : r = 0 := by have := HR.out.1; omega
        obtain ⟨k, hk⟩ : ∃ k, wr.heap.size = k := ⟨_, rfl⟩
        have K := H5.out.1.later HR.out.2
        obtain ⟨Z, hZ⟩ : ∃ Z : ByteArray, Z = ⟨(List.replicate 257 (0 : UInt8)).toArray⟩ := ⟨_, rfl⟩
        have m1 : ∀ W : World, (Instr.makeSlice 68 (.int .i64 257) (.int .i64 257)).run Try.prog W = .ok (.slice (some ⟨W.heap.size, 0, none⟩) 257 257) (madeB 257 W) := fun W => run_madeb 257 W (by omega)
        have c1 : ∀ W : World, (convert 68 9 (.slice (some ⟨W.heap.size, 0, none⟩) 257 257)).run Try.prog (madeB 257 W) = .ok (.string Z) (madeB 257 W) := fun W => hZ ▸ conv_madeb 257 W
        have c2 : ∀ W : World, (convert 68 9 (.slice (some ⟨W.heap.size, 0, none⟩) 257 257)).run Try.prog (madeB 257 W.drew) = .ok (.string Z) (madeB 257 W.drew) := fun W => hZ ▸ conv_madebd 257 W
        have hzs : Z.size = 257 := by
          have e : Z.data.toList = List.replicate 257 (0 : UInt8) := by rw [hZ]
          have e2 := congrArg List.length e
          simpa using e2
        have B1 : Below k wr (madeB 257 wr.drew) := hk ▸ (Below.refl _ _).drew.trans (below_madeb 257 wr.drew)
        have B2 : Below k wr wr.drew := (Below.refl _ _).drew
        have HE : Hid (Regs h w wr [(g, slL n q)] ∧ (∀ W, Below k wr W → FRow W q.eo (flatE (tL l n))) ∧ dotsL (tL l n) Z = [] ∧ Below k wr (madeB 257 wr.drew) ∧ h ≤ k ∧ Below k wr wr.drew ∧ wr.heap.size = k) := ⟨K, fun W hW => (H5.out.2.1.later HR.out.2).later (hk.symm ▸ hW), dots_none fun x hx => by have := HC.out.2.2.2 x hx; omega, B1, by have := K.2.2; show h ≤ k; omega, B2, hk⟩
        have KM := K.1.under (B := k) (by rw [← hk]; exact K.1.1) B1
        obtain ⟨t0, t1, t2, t3, t4, t5, t6, t7, t8, t9⟩ := K.1.ten
        obtain ⟨y0, y1, y2, y3, y4, y5, y6, y7, y8, y9⟩ := KM.ten
        clear hZ hsum K KM B1 B2 hk hzs
        go_wp2_with fail
        go_region_with ((go_at_call 16; refine (dotss_yes (l := tL l n) (q := q) (v := Z) _ [] n 0 HC.out.2.1.symm (HE.out.2.1 _ (by first | exact HE.out.2.2.2.1 | exact HE.out.2.2.2.2.2.1)) HC.out.2.2 HE.out.2.2.1 rfl).mono ?_; rintro e w6 ⟨no9, nc9, rfl, _, hb2⟩))
        all_goals
          (go_wp2_with (go_at_call 19; refine (num_any _ _).mono ?_; rintro e w0 ⟨rfl, hw0⟩; have hw1 := hw0.symm; clear hw0; subst hw1)
           go_ret
           exact ⟨rfl, HE.out.1.base.1.trans ((HE.out.2.2.2.1.trans (hb2.mono (Nat.le_trans (Nat.le_of_eq HE.out.2.2.2.2.2.2.symm) HE.out.2.2.2.1.size))).mono HE.out.2.2.2.2.1)⟩)

set_option maxRecDepth 100000 in
theorem walk {H : Type} {enc : TypeId × Value → H} {base : Nat} {d0 : DataW H} {p0 : List MemPlace} (v0 : Value) (w : World)
    (o0 : Value.okWide Try.prog w .any base 43 v0) (h0 : DataW.Trod enc Try.prog w 0 (fun _ => true) true 43 v0 d0 p0) (z0 : ∀ n, n ∈ DataW.weights Try.prog 43 d0 → n ≤ reachBytes) :
    Calls Try.prog 7 #[v0] w fun e w' => e = .returned (.bool true) ∧ Below w.heap.size w w' := by
  obtain ⟨l, ao, ca, rfl, hr, hl, _⟩ := open_texts o0 h0 z0
  exact core ao ca l w hr hl

end Go.Proofs.Ytedgobdeoheaoaa.OrsetTexts
