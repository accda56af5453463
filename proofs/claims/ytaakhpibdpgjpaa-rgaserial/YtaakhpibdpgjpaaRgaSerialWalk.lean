/-
  The walk of the law RgaSerial: one alone writes, held against a plain row.
-/
import Derived.Test.YtaakhpibdpgjpaaWr10
import Derived.Test.YtaakhpibdpgjpaaMasks
import Derived.Test.YtaakhpibdpgjpaaOpenI
import Derived.Test.YtaakhpibdpgjpaaOnTo
import Derived.Test.YtaakhpibdpgjpaaTextsL
namespace Go.Proofs.Ytaakhpibdpgjpaa.RgaSerial
open Go.RowKit Go.Shelf
set_option linter.unusedVariables false
set_option linter.unusedSimpArgs false

theorem eraL_len {l m : List L5} {d : D2} (h : eraL l d = some m) : m.length = l.length := by
  unfold eraL at h
  obtain ⟨k, _, rfl⟩ := Option.map_eq_some_iff.1 h
  rw [List.length_modify]
theorem dec_len : ∀ i : Nat, i < 40 → (Lib.decDigits i).length ≤ 21 := by
  have h : ∀ a : Fin 40, (Lib.decDigits a.val).length ≤ 21 := by decide +kernel
  exact fun i hi => h ⟨i, hi⟩
theorem val_size {i : Nat} (h : i < 40) : ((⟨#[119]⟩ : ByteArray) ++ (⟨(Lib.decDigits i).toArray⟩ : ByteArray)).size ≤ 256 := by
  have := dec_len i h
  rw [ByteArray.size_append]
  show 1 + (Lib.decDigits i).toArray.size ≤ 256
  rw [List.size_toArray]
  omega
theorem rem_nat (M n : Nat) (hn : 0 < n) : ∃ k : Nat, k < n ∧ Int.tmod (M : Int) (n : Int) = (k : Int) :=
  ⟨M % n, Nat.mod_lt _ hn, by rw [Int.tmod_eq_emod_of_nonneg (by omega)]; omega⟩
theorem at_num {l : List L5} {k : Nat} {d : D2} (h : atX l k = some d) : atNum l (k : Int) = (d, 0) := by
  apply atNum_some
  unfold atI
  simp [h]
theorem serial_ins {i k : Nat} {l : List L5} {row : List ByteArray} (H : Serial i l row) (v : ByteArray) (hk : k ≤ row.length) : ∃ d1 d2 m, (0 < k → atX l (k - 1) = some (d1, d2)) ∧ (¬ 0 < k → d1 = 0 ∧ d2 = 0) ∧ insL l ⟨0, (i : Int) + 1, (i : Int) + 1, v, false⟩ (d1, d2) = some m ∧ Serial (i + 1) m (row.take k ++ [v] ++ row.drop k) := by
  have ec : ((i + 1 : Nat) : Int) = (i : Int) + 1 := by omega
  cases k with
  | zero =>
    obtain ⟨m, h1, h2⟩ := serial_first H v
    rw [ec] at h1
    exact ⟨0, 0, m, fun h => absurd h (by omega), fun _ => ⟨rfl, rfl⟩, h1, by simpa using h2⟩
  | succ k =>
    obtain ⟨⟨d1, d2⟩, m, h1, h2, h3⟩ := serial_behind H v (k := k) (by omega)
    rw [ec] at h2
    exact ⟨d1, d2, m, fun _ => h1, fun h => absurd (Nat.succ_pos k) h, h2, by simpa using h3⟩
theorem ok_s {i : Nat} {l : List L5} {row : List ByteArray} (H : Serial i l row) (hi : i < 40) {v : ByteArray} (hv : v.size ≤ 256) : okX l ⟨0, (i : Int) + 1, (i : Int) + 1, v, false⟩ = true := by
  have h2 := serial_new H
  have ec : ((i + 1 : Nat) : Int) = (i : Int) + 1 := by omega
  rw [ec] at h2
  unfold okX mayB
  show (_ && (_ && (_ && (_ && !hasX l (0, (i : Int) + 1))))) = true
  rw [h2]
  simp [hv]
  omega
theorem tsT {n : Nat} (ao bo : Option Addr) (ca cb : Nat) (a : List ByteArray) (w : World) (hn : n = a.length) (ha : FRow w ao (flatT a)) (hb : FRow w bo (flatT a)) (hla : n ≤ maxLen) :
    Calls Try.prog 22 #[.slice ao n ca, .slice bo n cb] w fun e w' => e = .returned (.bool true) ∧ Below w.heap.size w w' := by
  subst hn
  exact tsameT_any ao bo ca cb a w ha hb hla

/-- A row that lies not in block g. -/
def RowB (g : Nat) (w : World) (ao : Option Addr) (xs : List Value) : Prop := 0 < xs.length → ∃ b off, ao = some ⟨b, off, none⟩ ∧ b ≠ g ∧ b < w.heap.size ∧ ∀ i u, xs[i]? = some u → w.cell? ⟨b, off + i, none⟩ = some u
theorem RowB.nil (g : Nat) (w : World) (ao : Option Addr) : RowB g w ao [] := fun h => by simp at h
theorem RowB.row {g : Nat} {w : World} {ao : Option Addr} {xs : List Value} (h : RowB g w ao xs) : FRow w ao xs := fun h0 => by
  obtain ⟨b, off, h1, _, h2, h3⟩ := h h0
  exact ⟨b, off, h1, h2, h3⟩
theorem RowB.later {g : Nat} {w w' : World} {ao : Option Addr} {xs : List Value} (h : RowB g w ao xs) (hb : Below w.heap.size w w') : RowB g w' ao xs := fun h0 => by
  obtain ⟨b, off, h1, h4, h2, h3⟩ := h h0
  exact ⟨b, off, h1, h4, Nat.lt_of_lt_of_le h2 hb.size, fun i u hu => (hb.cell (by exact h2)).trans (h3 i u hu)⟩
theorem RowB.put10 {g : Nat} {w : World} {ao : Option Addr} {xs : List Value} (h : RowB g w ao xs) (u0 u1 u2 u3 u4 u5 u6 u7 u8 u9 : Value) : RowB g (put10 w g u0 u1 u2 u3 u4 u5 u6 u7 u8 u9) ao xs := fun h0 => by
  obtain ⟨b, off, h1, h4, h2, h3⟩ := h h0
  have hne : ∀ o i, (⟨b, i, none⟩ : Addr) ≠ ⟨g, o, none⟩ := fun o i e => by injection e; omega
  refine ⟨b, off, h1, h4, by simpa using h2, fun i u hu => ?_⟩
  repeat rw [World.cell?_setCell_other _ _ _ _ (by first | exact hne _ _ | exact (hne _ _).symm)]
  exact h3 i u hu
theorem RowB.of_own {g B : Nat} {w : World} {ao : Option Addr} {xs : List Value} (h : FOwn B w ao xs) (hg : g < B) : RowB g w ao xs := fun h0 => by
  obtain ⟨b, h1, h4, h2, h3⟩ := h h0
  exact ⟨b, 0, h1, by omega, h2, fun i u hu => by rw [Nat.zero_add]; exact (h3 i u hu).1⟩
theorem frow_takeT {w : World} {ao : Option Addr} {l : List ByteArray} (h : FRow w ao (flatT l)) (k : Nat) : FRow w ao (flatT (l.take k)) := fun h0 => by
  have e : flatT (l.take k) = (flatT l).take k := by simp [flatT, List.map_take]
  rw [e] at h0 ⊢
  obtain ⟨b', off', e, hb, hc⟩ := h (by simp at h0; omega)
  refine ⟨b', off', e, hb, fun i u hu => hc i u ?_⟩
  rw [List.getElem?_take] at hu
  split at hu
  · exact hu
  · simp at hu
theorem frow_dropT {w : World} {b off : Nat} {asp : _} {l : List ByteArray} (h : FRow w (some ⟨b, off, asp⟩) (flatT l)) (k : Nat) : FRow w (some ⟨b, off + k, asp⟩) (flatT (l.drop k)) := fun h0 => by
  have e : flatT (l.drop k) = (flatT l).drop k := by simp [flatT, List.map_drop]
  rw [e] at h0 ⊢
  obtain ⟨b', off', e, hb, hc⟩ := h (by simp at h0; omega)
  simp only [Option.some.injEq, Addr.mk.injEq] at e
  obtain ⟨rfl, rfl, rfl⟩ := e
  refine ⟨b, _, rfl, hb, fun i u hu => ?_⟩
  rw [List.getElem?_drop] at hu
  have := hc _ u hu
  rwa [← Nat.add_assoc] at this
theorem frow_nilT {w : World} {ao : Option Addr} {l : List ByteArray} {k : Nat} (h : l.length ≤ k) : FRow w ao (flatT (l.drop k)) := by
  rw [List.drop_eq_nil_of_le h]
  exact FRow.nil _ _

/-- What the loop keeps. -/
def Sr (w : World) (h g i n : Nat) (q : Pl) (ro : Option Addr) (row : List ByteArray) (l : List L5) (wr : World) : Prop :=
  Regs h w wr [(g, llL n q)] ∧ FOwn (g + 1) wr q.lo (flatL l) ∧ RowB g wr ro (flatT row) ∧ Serial i l row ∧ SmallX l ∧ n = l.length

set_option maxHeartbeats 8000000 in
set_option maxRecDepth 100000 in
theorem core (ao : Option Addr) (ca : Nat) (ps : List Int) (w : World) (hr : FRow w ao (flatI ps)) (hl : ps.length * 8 ≤ 140737488351232) :
    Calls Try.prog 5 #[.slice ao ps.length ca] w fun e w' => e = .returned (.bool true) ∧ Below w.heap.size w w' := by
  have HP : Hid (FRow w ao (flatI ps)) := hr
  obtain ⟨h, hh⟩ : ∃ h, w.heap.size = h := ⟨_, rfl⟩
  have HH : Hid (w.heap.size = h) := hh
  rw [hh]
  obtain ⟨P, hP1, hP2, hP3⟩ : ∃ P : Nat, P ≤ ps.length ∧ P ≤ 40 ∧ Hid (P = ps.length ∨ P = 40) := by
    by_cases h : ps.length ≤ 40
    · exact ⟨ps.length, by omega, h, Or.inl rfl⟩
    · exact ⟨40, by omega, by omega, Or.inr rfl⟩
  clear hr
  go_enter Try.func5, Try.ntmps5
  go_wp2_with fail
  refine (awake10_any _).mono ?_
  rintro e w1 ⟨rfl, b1⟩
  obtain ⟨g, hg⟩ : ∃ g, w1.heap.size = g := ⟨_, rfl⟩
  have HG : Hid (h ≤ g) := by have := b1.size; show h ≤ g; omega
  have L0 : Hid (Sr w h g 0 0 pl0 none [] [] (w1.alloc (.cells (zl 3).toArray 30))) := by
    have R : Regs h w w1 [] := ⟨hh ▸ b1, by have := b1.size; omega⟩
    exact ⟨Regs.push R hg _ _, FOwn.nil _ _ _, RowB.nil _ _ _, serial_nil, smallX_nil, rfl⟩
  clear b1 hh
  go_wp2_with fail
  generalize hW : w1.alloc (.cells (zl 3).toArray 30) = w2 at L0 ⊢
  clear hW hg
  go_loopg [4, 5, 6, 7, 8, 9, 10, 11, 12, 13, 14, 15, 16, 17, 18, 19] P (fun m s4 s5 _ _ _ _ _ _ _ _ _ _ _ _ _ _ wr => ∃ (i n : Nat) (q : Pl) (ro : Option Addr) (nr cr : Nat) (row : List ByteArray) (l : List L5), i + m = P ∧ s5 = .int .i64 (i : Nat) ∧ s4 = .slice ro nr cr ∧ nr ≤ i ∧ nr ≤ cr ∧ Hid (Sr w h g i n q ro row l wr ∧ row.length = nr))
  case atStart => exact ⟨0, 0, pl0, none, 0, 0, [], [], by omega, rfl, rfl, Nat.le_refl _, Nat.le_refl _, L0.out, rfl⟩
  case round =>
    clear L0
    obtain ⟨i, n, q, ro, nr, cr, row, l, him, rfl, rfl, hnr, hcr, HS0⟩ := hrel
    by_cases hi : i < P
    · have hi40 : i < 40 := by omega
      have hip : i < ps.length := by omega
      obtain ⟨pb, po, rfl, hpb, hpc⟩ := HP.out (by rw [flatI_len]; omega)
      obtain ⟨pk, hpk⟩ : ∃ p, ps.getD i 0 = p := ⟨_, rfl⟩
      have c0 : wr.cell? ⟨pb, po + i, none⟩ = some (.int .i64 pk) := (HS0.out.1.1.base.1.cell (p := ⟨pb, po + i, none⟩) (by rw [← HH.out]; exact hpb)).trans (hpc _ _ (by
        have h5 : ps[i]? = some ps[i] := List.getElem?_eq_getElem hip
        rw [flatI_at ps i h5, ← hpk]
        simp [List.getD, h5]))
      obtain ⟨z, hz, ez⟩ : ∃ z : Nat, z < 4 ∧ bits .and .i64 pk 3 = (z : Int) := and_mask pk 2 (by omega)
      obtain ⟨M, hM, eM⟩ : ∃ z : Nat, z < 1024 ∧ bits .and .i64 (pk / 4) 1023 = (z : Int) := and_mask (pk / 4) 10 (by omega)
      have hd1 : decide ((i : Int) < (ps.length : Int)) = true := by simp; omega
      have hd2 : decide ((i : Int) < 40) = true := by simp; omega
      have hgw : g < wr.heap.size := HS0.out.1.1.1.1
      clear hpc hpk hpb
      by_cases hE : z = 3 ∧ 0 < nr
      · obtain ⟨rfl, hn0⟩ := hE
        have hz3 : (((3 : Nat) : Int) == 3) = true := by decide
        have hdn : decide ((0 : Int) < (nr : Int)) = true := by simp; omega
        obtain ⟨k, hk, ek⟩ : ∃ k : Nat, k < nr ∧ Int.tmod (M : Int) (nr : Int) = (k : Int) := rem_nat M nr hn0
        have hnz : ¬ ((nr : Int) = 0) := by omega
        obtain ⟨⟨d1, d2⟩, m, hd, hm, hser⟩ := serial_era HS0.out.1.2.2.2.1 (k := k) (by rw [HS0.out.2]; exact hk)
        have HX : Hid (atNum l (k : Int) = ((d1, d2), 0) ∧ eraL l (d1, d2) = some m ∧ SmallX l ∧ n = l.length ∧ n = m.length ∧ Serial (i + 1) m (row.take k ++ row.drop (k + 1)) ∧ SmallX m ∧ row.length = nr) := ⟨at_num hd, hm, HS0.out.1.2.2.2.2.1, HS0.out.1.2.2.2.2.2, by rw [eraL_len hm]; exact HS0.out.1.2.2.2.2.2, hser, smallX_era HS0.out.1.2.2.2.2.1 hm, HS0.out.2⟩
        have G0 : Hid (Regs h w wr [(g, llL n q)] ∧ FOwn (g + 1) wr q.lo (flatL l) ∧ RowB g wr ro (flatT row)) := ⟨HS0.out.1.1, HS0.out.1.2.1, HS0.out.1.2.2.1⟩
        clear hd hm hser HS0
        obtain ⟨t0, t1, t2, t3, t4, t5, t6, t7, t8, t9⟩ := (show Has _ g (llL n q) from G0.out.1.1).ten
        go_wp2_with fail
        refine (ats_any _ (k : Int) n (d1, d2) 0 HX.out.2.2.2.1 G0.out.2.1.row HX.out.2.2.1 HX.out.1).mono ?_
        rintro e v1 ⟨rfl, b1⟩
        obtain ⟨kd, ekd⟩ : ∃ k, v1.heap.size = k := ⟨_, rfl⟩
        have G1 : Hid (Regs h w (v1.alloc (.cells #[.int .i64 d1, .int .i64 d2] 32)) [(kd, [.int .i64 d1, .int .i64 d2]), (g, llL n q)] ∧ FOwn (g + 1) (v1.alloc (.cells #[.int .i64 d1, .int .i64 d2] 32)) q.lo (flatL l) ∧ RowB g (v1.alloc (.cells #[.int .i64 d1, .int .i64 d2] 32)) ro (flatT row)) := by
          have hal : Below v1.heap.size v1 (v1.alloc (.cells #[.int .i64 d1, .int .i64 d2] 32)) := (Below.refl _ _).alloc (Nat.le_refl _) _
          exact ⟨Regs.push (G0.out.1.later b1) ekd [.int .i64 d1, .int .i64 d2] _, (G0.out.2.1.later b1).later hal, (G0.out.2.2.later b1).later hal⟩
        clear b1 G0 t0 t1 t2 t3 t4 t5 t6 t7 t8 t9 c0 ez eM ek
        go_upto_region 11 with fail
        generalize hW : v1.alloc (.cells #[.int .i64 d1, .int .i64 d2] 32) = v2 at G1 ⊢
        clear hW ekd
        obtain ⟨t0, t1, t2, t3, t4, t5, t6, t7, t8, t9⟩ := (show Has _ g (llL n q) from G1.out.1.2.1).ten
        obtain ⟨s0, s1⟩ := G1.out.1.1.two
        go_wp2_with fail
        refine (eras_yes (l := l) (q := q) (d := (d1, d2)) _ m n HX.out.2.2.2.1 G1.out.2.1.row HX.out.2.2.1 HX.out.2.1).mono ?_
        rintro e v3 ⟨q', rfl, o3, b3⟩
        obtain ⟨kc, ekc⟩ : ∃ k, v3.heap.size = k := ⟨_, rfl⟩
        have hgc : g < kc := by rw [← ekc]; exact (G1.out.1.2.1.later b3).1
        have G2 : Hid (Regs h w (v3.alloc (.cells (llL n q').toArray 30)) [(kc, llL n q'), (g, llL n q)] ∧ FOwn (g + 1) (v3.alloc (.cells (llL n q').toArray 30)) q'.lo (flatL m) ∧ RowB g (v3.alloc (.cells (llL n q').toArray 30)) ro (flatT row)) := by
          have hal : Below v3.heap.size v3 (v3.alloc (.cells (llL n q').toArray 30)) := (Below.refl _ _).alloc (Nat.le_refl _) _
          have R := G1.out.1.later b3
          exact ⟨Regs.push (show Regs h w v3 [(g, llL n q)] from R.2) ekc (llL n q') _, (o3.later hal).mono (by have := G1.out.1.2.1.1; omega), (G1.out.2.2.later b3).later hal⟩
        clear b3 o3 G1 t0 t1 t2 t3 t4 t5 t6 t7 t8 t9 s0 s1
        go_upto_region 12 with fail
        generalize hW : v3.alloc (.cells (llL n q').toArray 30) = v4 at G2 ⊢
        clear hW ekc
        obtain ⟨t0, t1, t2, t3, t4, t5, t6, t7, t8, t9⟩ := (show Has _ kc (llL n q') from G2.out.1.1).ten
        obtain ⟨y0, y1, y2, y3, y4, y5, y6, y7, y8, y9⟩ := (show Has _ g (llL n q) from G2.out.1.2.1).ten
        obtain ⟨z0, z1, z2, z3, z4, z5, z6, z7, z8, z9⟩ := (show Has _ g (llL n q) from G2.out.1.2.1).tenf
        have H4 : Hid (Regs h w (put10 v4 g (.int .i64 3) (.bool false) (.int .i64 0) (.int .i64 0) (.string ⟨#[]⟩) (.int .i64 0) (.int .i64 0) (.slice q'.eo 0 q'.ec) (.slice q'.lo n q'.lc) (.slice q'.so 0 q'.sc)) [(g, llL n q')] ∧ FOwn (g + 1) (put10 v4 g (.int .i64 3) (.bool false) (.int .i64 0) (.int .i64 0) (.string ⟨#[]⟩) (.int .i64 0) (.int .i64 0) (.slice q'.eo 0 q'.ec) (.slice q'.lo n q'.lc) (.slice q'.so 0 q'.sc)) q'.lo (flatL m) ∧ RowB g (put10 v4 g (.int .i64 3) (.bool false) (.int .i64 0) (.int .i64 0) (.string ⟨#[]⟩) (.int .i64 0) (.int .i64 0) (.slice q'.eo 0 q'.ec) (.slice q'.lo n q'.lc) (.slice q'.so 0 q'.sc)) ro (flatT row)) := by
          obtain ⟨⟨h1, h2, h3⟩, h5, h6⟩ := G2.out
          have K := roundL (B := g + 1) (L := []) (n' := n) (q' := q') h2 h3 h5 HG.out (by omega) (fun e he => by simp at he)
          exact ⟨K.1, h5.put10 (by omega) _ _ _ _ _ _ _ _ _ _, h6.put10 _ _ _ _ _ _ _ _ _ _⟩
        go_upto_region 15 with (go_at_call 21; refine (num_any _ _).mono ?_; rintro e w0 ⟨rfl, hw0⟩; have hw1 := hw0.symm; clear hw0; subst hw1)
        dsimp only [put10] at H4
        clear t0 t1 t2 t3 t4 t5 t6 t7 t8 t9 y0 y1 y2 y3 y4 y5 y6 y7 y8 y9 z0 z1 z2 z3 z4 z5 z6 z7 z8 z9
        generalize hW : World.setCell _ (⟨g, 9, none⟩ : Addr) _ = w4 at H4 ⊢
        clear hW G2
        obtain ⟨n1, hn1⟩ : ∃ n, w4.heap.size = n := ⟨_, rfl⟩
        have hgn : g < n1 := by have := H4.out.1.1.1; omega
        obtain ⟨lbk, loff, rfl, _⟩ : ∃ b off, ro = some ⟨b, off, none⟩ ∧ True := by
          obtain ⟨b, off, h1, _⟩ := H4.out.2.2 (by rw [flatT_len, HX.out.2.2.2.2.2.2.2]; omega)
          exact ⟨b, off, h1, trivial⟩
        have ROW1 : Hid (FRow (w4.alloc (.cells #[] 9)) (some ⟨lbk, loff, none⟩) (flatT (row.take k))) := frow_takeT (H4.out.2.2.row.later ((Below.refl _ _).alloc (Nat.le_refl _) _)) k
        have HO : Hid ((w4.alloc (.cells #[] 9)).ownsRow n1 9 1 (.slice (some ⟨n1, 0, none⟩) 0 0) 0 []) := own_empty hn1
        have hlk : (flatT (row.take k)).length = k * 1 := by rw [flatT_len, List.length_take, HX.out.2.2.2.2.2.2.2]; omega
        have H4n : Hid (w4.heap.size = n1) := hn1
        have hw1 : IntKind.i64.wrap ((k : Int) + 1) = (k : Int) + 1 := by rw [IntKind.wrap_i64]; omega
        go_upto_region 16 with (first
          | (at_builtin
             refine wpList_onto rfl _ _ 45 rfl Try.underlying45 Try.infoText rfl (by decide) (by decide) (B := n1) rfl rfl HO.out ROW1.out hlk (fun u hu => oneT hu) (by omega) (by simp [hn1]) ?_
             intro ao1 ca1 w5 o5 n5 b5
             simp only [Nat.zero_add, List.nil_append] at o5 ⊢
             have H5 : Hid (Below n1 w4 w5 ∧ w5.ownsRow n1 9 1 (.slice ao1 k ca1) k (flatT (row.take k))) := ⟨((Below.refl _ _).alloc (by omega) _).trans b5, o5⟩
             clear o5 n5 b5))
        have hs5 : n1 ≤ w5.heap.size := by have := H5.out.1.size; have := H4n.out; omega
        have HR5 : Hid (FRow w5 (some ⟨lbk, loff, none⟩) (flatT row)) := (H4.out.2.2.later (H4n.out.symm ▸ H5.out.1)).row
        clear ROW1 HO hlk hn1 hw1
        have hld : (flatT (row.drop (k + 1))).length = (nr - (k + 1)) * 1 := by rw [flatT_len, List.length_drop, HX.out.2.2.2.2.2.2.2]
        by_cases hck : cr = k + 1
        all_goals
          (go_wp2_with (first
            | (at_builtin
               refine wpList_onto rfl _ _ 45 rfl Try.underlying45 Try.infoText rfl (by decide) (by decide) (B := n1) rfl rfl H5.out.2 (by first | exact frow_dropT HR5.out (k + 1) | exact frow_nilT (by rw [HX.out.2.2.2.2.2.2.2]; omega)) hld (fun u hu => oneT hu) (by omega) hs5 ?_
               intro ao2 ca2 w6 o6 n6 b6
               have H6 : Hid (Sr w h g (i + 1) n q' ao2 (row.take k ++ row.drop (k + 1)) m w6 ∧ (row.take k ++ row.drop (k + 1)).length = k + (nr - (k + 1)) ∧ k + (nr - (k + 1)) ≤ ca2) := by
                 have hb : Below w4.heap.size w4 w6 := H4n.out.symm ▸ (H5.out.1.trans b6)
                 rw [← flatT_append] at o6
                 exact ⟨⟨H4.out.1.later hb, H4.out.2.1.later hb, RowB.of_own (own_row o6) hgn, HX.out.2.2.2.2.2.1, HX.out.2.2.2.2.2.2.1, HX.out.2.2.2.2.1⟩, by simp only [List.length_append, List.length_take, List.length_drop, HX.out.2.2.2.2.2.2.2]; omega, (own_cap o6).1⟩
               clear o6 n6 b6))
           have hl6 := H6.out.2.2
           go_roundg (gk - 1)
           case measure => omega
           case rel => exact ⟨i + 1, n, q', ao2, k + (nr - (k + 1)), ca2, row.take k ++ row.drop (k + 1), m, by omega, by go_num, (by first | rfl | (congr 1; omega)), by omega, hl6, H6.out.1, H6.out.2.1⟩)
      · obtain ⟨k, hk, ek⟩ : ∃ k : Nat, k < nr + 1 ∧ Int.tmod (M : Int) ((nr + 1 : Nat) : Int) = (k : Int) := rem_nat M (nr + 1) (by omega)
        have en : ((nr + 1 : Nat) : Int) = (nr : Int) + 1 := by omega
        rw [en] at ek
        have hM1 : (M : Int) < 1024 := by omega
        have hz3' : ((z : Int) == 3) = false ∨ ((z : Int) == 3) = true ∧ decide (0 < nr) = false := by
          by_cases h3 : z = 3
          · exact Or.inr ⟨by subst h3; rfl, by simp; omega⟩
          · exact Or.inl (by simp; omega)
        have hz3 : Hid (((z : Int) == 3) = false ∨ ((z : Int) == 3) = true ∧ decide (0 < nr) = false) := hz3'
        obtain ⟨v, hev⟩ : ∃ v, ((⟨#[119]⟩ : ByteArray) ++ (⟨(Lib.decDigits i).toArray⟩ : ByteArray)) = v := ⟨_, rfl⟩
        have hvs : v.size ≤ 256 := hev ▸ val_size hi40
        have hdl := dec_len i hi40
        obtain ⟨d1, d2, m, hD⟩ : ∃ d1 d2 m, Hid ((0 < k → atX l (k - 1) = some (d1, d2)) ∧ (¬ 0 < k → d1 = 0 ∧ d2 = 0) ∧ insL l ⟨0, (i : Int) + 1, (i : Int) + 1, v, false⟩ (d1, d2) = some m ∧ Serial (i + 1) m (row.take k ++ [v] ++ row.drop k)) := serial_ins HS0.out.1.2.2.2.1 v (by rw [HS0.out.2]; omega)
        have HX : Hid (okX l ⟨0, (i : Int) + 1, (i : Int) + 1, v, false⟩ = true ∧ insL l ⟨0, (i : Int) + 1, (i : Int) + 1, v, false⟩ (d1, d2) = some m ∧ SmallX l ∧ n = l.length ∧ n + 1 = m.length ∧ Serial (i + 1) m (row.take k ++ [v] ++ row.drop k) ∧ SmallX m ∧ row.length = nr) := by
          obtain ⟨⟨h1, h2, h3, h4, h5, h6⟩, h7⟩ := HS0.out
          have hlen := insL_len hD.out.2.2.1
          exact ⟨ok_s h4 hi40 hvs, hD.out.2.2.1, h5, h6, by omega, hD.out.2.2.2, smallX_ins h5 (by have := h4.len; omega) hvs hD.out.2.2.1, h7⟩
        have Hev : Hid (((⟨#[119]⟩ : ByteArray) ++ (⟨(Lib.decDigits i).toArray⟩ : ByteArray)) = v) := hev
        clear hev hz3'
        by_cases hk0 : 0 < k
        · have hnr0 : 0 < nr := by omega
          have hkn : k ≤ nr := by omega
          have hkcr : k ≤ cr := by omega
          have hkn2 : (k : Int) ≤ (nr : Int) := by omega
          have hkcr2 : (k : Int) ≤ (cr : Int) := by omega
          have hzf : ((z : Int) == 3) = false := by
            rcases hz3.out with h | h
            · exact h
            · exact absurd h.2 (by simp; omega)
          have hkp : decide ((0 : Int) < (k : Int)) = true := by simp; omega
          obtain ⟨k', hk'⟩ : ∃ k', k - 1 = k' := ⟨_, rfl⟩
          have hkk : (k : Int) - 1 = (k' : Int) := by omega
          have HA : Hid (atNum l (k' : Int) = ((d1, d2), 0)) := hk' ▸ at_num (hD.out.1 hk0)
          obtain ⟨kd, ekd⟩ : ∃ kd, wr.heap.size = kd := ⟨_, rfl⟩
          have hgk : g < kd := by omega
          have G0 : Hid ((Regs h w (wr.alloc (.cells #[.int .i64 0, .int .i64 0] 32)) [(kd, [.int .i64 0, .int .i64 0]), (g, llL n q)]) ∧ FOwn (g + 1) (wr.alloc (.cells #[.int .i64 0, .int .i64 0] 32)) q.lo (flatL l) ∧ RowB g (wr.alloc (.cells #[.int .i64 0, .int .i64 0] 32)) ro (flatT row) ∧ Below kd wr (wr.alloc (.cells #[.int .i64 0, .int .i64 0] 32))) := by
            have hal : Below wr.heap.size wr (wr.alloc (.cells #[.int .i64 0, .int .i64 0] 32)) := (Below.refl _ _).alloc (Nat.le_refl _) _
            exact ⟨Regs.push HS0.out.1.1 ekd [.int .i64 0, .int .i64 0] _, HS0.out.1.2.1.later hal, HS0.out.1.2.2.1.later hal, (Below.refl _ _).alloc (by omega) _⟩
          have HK0 : Hid (wr.heap.size = kd ∧ FOwn (g + 1) wr q.lo (flatL l) ∧ RowB g wr ro (flatT row)) := ⟨ekd, HS0.out.1.2.1, HS0.out.1.2.2.1⟩
          clear HS0 hk' hE
          go_upto_region 21 with fail
          generalize hW : wr.alloc (.cells #[.int .i64 0, .int .i64 0] 32) = v0 at G0 ⊢
          clear hW ekd c0 ez eM
          obtain ⟨t0, t1, t2, t3, t4, t5, t6, t7, t8, t9⟩ := (show Has _ g (llL n q) from G0.out.1.2.1).ten
          go_wp2_with fail
          refine (ats_any _ (k' : Int) n (d1, d2) 0 HX.out.2.2.2.1 G0.out.2.1.row HX.out.2.2.1 HA.out).mono ?_
          rintro e v1 ⟨rfl, b1⟩
          obtain ⟨ka, eka⟩ : ∃ k, v1.heap.size = k := ⟨_, rfl⟩
          have G1 : Hid ((Regs h w (v1.alloc (.cells #[.int .i64 d1, .int .i64 d2] 32)) [(ka, [.int .i64 d1, .int .i64 d2]), (kd, [.int .i64 0, .int .i64 0]), (g, llL n q)]) ∧ FOwn (g + 1) (v1.alloc (.cells #[.int .i64 d1, .int .i64 d2] 32)) q.lo (flatL l) ∧ RowB g (v1.alloc (.cells #[.int .i64 d1, .int .i64 d2] 32)) ro (flatT row) ∧ kd < ka ∧ Below kd wr (v1.alloc (.cells #[.int .i64 d1, .int .i64 d2] 32))) := by
            have hal : Below v1.heap.size v1 (v1.alloc (.cells #[.int .i64 d1, .int .i64 d2] 32)) := (Below.refl _ _).alloc (Nat.le_refl _) _
            have R := G0.out.1.later b1
            exact ⟨Regs.push R eka [.int .i64 d1, .int .i64 d2] _, (G0.out.2.1.later b1).later hal, (G0.out.2.2.1.later b1).later hal, by have := R.1.1; omega, (G0.out.2.2.2.trans (b1.mono (by have := G0.out.1.1.1; omega))).alloc (by have := R.1.1; omega) _⟩
          have hka : kd < ka := G1.out.2.2.2.1
          clear b1 G0 t0 t1 t2 t3 t4 t5 t6 t7 t8 t9
          go_upto_region 22 with fail
          generalize hW : v1.alloc (.cells #[.int .i64 d1, .int .i64 d2] 32) = v2 at G1 ⊢
          clear hW eka
          obtain ⟨r0, r1⟩ := G1.out.1.1.two
          obtain ⟨s0, s1⟩ := G1.out.1.2.1.two
          have f0 := G1.out.1.2.1.free 0 rfl
          have f1 := G1.out.1.2.1.free 1 rfl
          have HS7 : Hid ((Regs h w ((v2.setCell ⟨kd, 0, none⟩ (.int .i64 d1)).setCell ⟨kd, 1, none⟩ (.int .i64 d2)) [(kd, [.int .i64 d1, .int .i64 d2]), (g, llL n q)]) ∧ FOwn (g + 1) ((v2.setCell ⟨kd, 0, none⟩ (.int .i64 d1)).setCell ⟨kd, 1, none⟩ (.int .i64 d2)) q.lo (flatL l) ∧ RowB g ((v2.setCell ⟨kd, 0, none⟩ (.int .i64 d1)).setCell ⟨kd, 1, none⟩ (.int .i64 d2)) ro (flatT row)) := by
            obtain ⟨⟨h1, h2, h3, h4⟩, h5, h6, h7, h8⟩ := G1.out
            have hb : Below kd wr ((v2.setCell ⟨kd, 0, none⟩ (.int .i64 d1)).setCell ⟨kd, 1, none⟩ (.int .i64 d2)) := (h8.setCell (p := ⟨kd, 0, none⟩) (Nat.le_refl _) _).setCell (p := ⟨kd, 1, none⟩) (Nat.le_refl _) _
            have hne : kd ≠ g := by omega
            have hbl := h4.1
            refine ⟨⟨(h2.put 0 _).put 1 _, (h3.other (by omega) _ _).other (by omega) _ _, (hbl.setCell (p := ⟨kd, 0, none⟩) (by have := HG.out; show h ≤ kd; omega) _).setCell (p := ⟨kd, 1, none⟩) (by have := HG.out; show h ≤ kd; omega) _, by simpa using h4.2⟩, HK0.out.2.1.later (HK0.out.1.symm ▸ hb), HK0.out.2.2.later (HK0.out.1.symm ▸ hb)⟩
          clear G1
          go_upto_region 25 with (go_at_call 21; refine (num_any _ _).mono ?_; rintro e w0 ⟨rfl, hw0⟩; have hw1 := hw0.symm; clear hw0; subst hw1)
          generalize hW : (v2.setCell ⟨kd, 0, none⟩ (.int .i64 d1)).setCell ⟨kd, 1, none⟩ (.int .i64 d2) = w7 at HS7 ⊢
          clear hW r0 r1 s0 s1 f0 f1 hD hka HK0
          go_wp2_with fail
          refine (deci_any i _ (by omega)).mono ?_
          rintro e w8 ⟨rfl, b8⟩
          have HS8 : Hid (Regs h w w8 [(kd, [.int .i64 d1, .int .i64 d2]), (g, llL n q)] ∧ FOwn (g + 1) w8 q.lo (flatL l) ∧ RowB g w8 ro (flatT row)) := ⟨HS7.out.1.later b8, HS7.out.2.1.later b8, HS7.out.2.2.later b8⟩
          clear b8 HS7
          go_upto_region 26 with fail
          simp only [Hev.out]
          clear hdl
          obtain ⟨B, hB⟩ : ∃ B, w8.heap.size = B := ⟨_, rfl⟩
          have hgB : g < B := by rw [← hB]; exact HS8.out.1.2.1.1
          have hkB : kd < B := by rw [← hB]; exact HS8.out.1.1.1
          have HSr : Hid (SrcL w8 B g n q l kd 0 (.int .i64 d1) kd 1 (.int .i64 d2)) := ⟨hB, HS8.out.1.2.1, HS8.out.2.1.row, hkB, HS8.out.1.1.at 0 rfl, hkB, HS8.out.1.1.at 1 rfl⟩
          have HB : Hid (w8.heap.size = B) := hB
          have hz0 : B ≤ w8.heap.size := by omega
          have hzd : B ≤ w8.drew.heap.size := hz0
          have hw1 : IntKind.i64.wrap ((i : Int) + 1) = (i : Int) + 1 := by rw [IntKind.wrap_i64]; omega
          clear hB
          go_cut [17, 18] from 119 to 130 (fun p e wx => ∃ (kc : Nat) (q' : Pl), p = .pointer (some ⟨kc, 0, none⟩) ∧ e = .int .i64 0 ∧ Hid (EndL w8 B (n + 1) m kc q' wx))
          case first =>
            go_region_held3 (HeldL w8 B g n q kd 0 (.int .i64 d1) kd 1 (.int .i64 d2)) (first | (with_reducible apply heldL_later HSr.out hb2; assumption) | with_reducible apply heldL_put HSr.out T6 (by assumption) | (with_reducible apply heldL_swap HSr.out (by omega) (by assumption)) | (with_reducible exact heldL_drew HSr.out) | (with_reducible exact heldL_first HSr.out _) | (with_reducible apply heldL_alloc HSr.out _ (by assumption)))
              (first
                | (go_at_call 25; with_reducible refine (elem_any _ _ _ _ _).mono ?_; rintro r w3 ⟨rfl, hb2⟩; have hz := hb2.size; first | (with_reducible have T6 := nineT_newd (B := B) (by omega) hb2; obtain ⟨y0, y1, y2, y3, y4, y5, y6, y7, y8, y9⟩ := nineT_ten T6; obtain ⟨z0, z1, z2, z3, z4, z5, z6, z7, z8, z9⟩ := nineT_tenf T6) | (with_reducible have T6 := nineT_new (B := B) (by omega) hb2; obtain ⟨y0, y1, y2, y3, y4, y5, y6, y7, y8, y9⟩ := nineT_ten T6; obtain ⟨z0, z1, z2, z3, z4, z5, z6, z7, z8, z9⟩ := nineT_tenf T6) | (with_reducible replace T6 := nineT_later T6 hb2; obtain ⟨y0, y1, y2, y3, y4, y5, y6, y7, y8, y9⟩ := nineT_ten T6; obtain ⟨z0, z1, z2, z3, z4, z5, z6, z7, z8, z9⟩ := nineT_tenf T6) | skip)
                | (go_at_call 10; with_reducible refine (ins_atL (e := ⟨0, (i : Int) + 1, (i : Int) + 1, v, false⟩) (d := (d1, d2)) (m := m) (n' := n + 1) HSr.out (by assumption) HX.out.2.2.2.1 HX.out.2.2.1 HX.out.1 HX.out.2.1 HX.out.2.2.2.2.1).mono ?_; rintro r w3 ⟨q', rfl, O3, hC3, hb2⟩; have hz := hb2.size; first | (with_reducible have T6 := nineT_newd (B := B) (by omega) hb2; obtain ⟨y0, y1, y2, y3, y4, y5, y6, y7, y8, y9⟩ := nineT_ten T6; obtain ⟨z0, z1, z2, z3, z4, z5, z6, z7, z8, z9⟩ := nineT_tenf T6) | (with_reducible have T6 := nineT_new (B := B) (by omega) hb2; obtain ⟨y0, y1, y2, y3, y4, y5, y6, y7, y8, y9⟩ := nineT_ten T6; obtain ⟨z0, z1, z2, z3, z4, z5, z6, z7, z8, z9⟩ := nineT_tenf T6) | (with_reducible replace T6 := nineT_later T6 hb2; obtain ⟨y0, y1, y2, y3, y4, y5, y6, y7, y8, y9⟩ := nineT_ten T6; obtain ⟨z0, z1, z2, z3, z4, z5, z6, z7, z8, z9⟩ := nineT_tenf T6) | skip))
            all_goals
              (go_wp2_with fail
               go_meet
               case rel =>
                 (first
                   | (have E7 := endL_put (w1 := w8) (l' := m) T6 O3 (by assumption); exact ⟨_, q', rfl, rfl, E7⟩)
                   | (have E7 := endL_new (w1 := w8) (W := w3) (B := B) (l' := m) 30 hC3 (by omega) O3 (by assumption); exact ⟨_, q', rfl, rfl, E7⟩)))
          case rest =>
            obtain ⟨w3, rfl⟩ : ∃ z, z = wc := ⟨_, rfl⟩
            obtain ⟨kc, q', rfl, rfl, HE⟩ := hcut
            have H3 : Hid (g + 1 ≤ B ∧ B ≤ kc ∧ Has w3 kc (llL (n + 1) q') ∧ Has w3 g (llL n q) ∧ Has w3 kd [.int .i64 d1, .int .i64 d2] ∧ FOwn B w3 q'.lo (flatL m) ∧ (Below h w w3 ∧ h ≤ w3.heap.size) ∧ RowB g w3 ro (flatT row)) := by
              have hb := HE.out.2.2.2
              have K := HS8.out.1.fit HB.out hb
              exact ⟨by omega, HE.out.1, HE.out.2.1, K.2.1, K.1, HE.out.2.2.1, K.base, HS8.out.2.2.later (HB.out.symm ▸ hb)⟩
            have hkc : g < kc := by have := H3.out.2.1; omega
            clear HSr HB HE HS8 hz0 hzd hw1
            obtain ⟨t0, t1, t2, t3, t4, t5, t6, t7, t8, t9⟩ := H3.out.2.2.1.ten
            obtain ⟨y0, y1, y2, y3, y4, y5, y6, y7, y8, y9⟩ := H3.out.2.2.2.1.ten
            obtain ⟨z0, z1, z2, z3, z4, z5, z6, z7, z8, z9⟩ := H3.out.2.2.2.1.tenf
            have H4 : Hid (Regs h w (put10 w3 g (.int .i64 3) (.bool false) (.int .i64 0) (.int .i64 0) (.string ⟨#[]⟩) (.int .i64 0) (.int .i64 0) (.slice q'.eo 0 q'.ec) (.slice q'.lo (n + 1) q'.lc) (.slice q'.so 0 q'.sc)) [(g, llL (n + 1) q')] ∧ FOwn (g + 1) (put10 w3 g (.int .i64 3) (.bool false) (.int .i64 0) (.int .i64 0) (.string ⟨#[]⟩) (.int .i64 0) (.int .i64 0) (.slice q'.eo 0 q'.ec) (.slice q'.lo (n + 1) q'.lc) (.slice q'.so 0 q'.sc)) q'.lo (flatL m) ∧ RowB g (put10 w3 g (.int .i64 3) (.bool false) (.int .i64 0) (.int .i64 0) (.string ⟨#[]⟩) (.int .i64 0) (.int .i64 0) (.slice q'.eo 0 q'.ec) (.slice q'.lo (n + 1) q'.lc) (.slice q'.so 0 q'.sc)) ro (flatT row)) := by
              obtain ⟨h1, h2, h3, h4, h5, h7, h8, h9⟩ := H3.out
              have K := roundL (L := []) (n' := n + 1) (q' := q') h4 h8 h7 HG.out (by omega) (fun e he => by simp at he)
              exact ⟨K.1, (h7.put10 (by omega) _ _ _ _ _ _ _ _ _ _).mono h1, h9.put10 _ _ _ _ _ _ _ _ _ _⟩
            go_upto_region 30 with (go_at_call 21; refine (num_any _ _).mono ?_; rintro e w0 ⟨rfl, hw0⟩; have hw1 := hw0.symm; clear hw0; subst hw1)
            dsimp only [put10] at H4
            clear t0 t1 t2 t3 t4 t5 t6 t7 t8 t9 y0 y1 y2 y3 y4 y5 y6 y7 y8 y9 z0 z1 z2 z3 z4 z5 z6 z7 z8 z9
            generalize hW : World.setCell _ (⟨g, 9, none⟩ : Addr) _ = w4 at H4 ⊢
            clear hW H3
            obtain ⟨n1, hn1⟩ : ∃ n, w4.heap.size = n := ⟨_, rfl⟩
            have hgn : g < n1 := by have := H4.out.1.1.1; omega
            have ROW1 : Hid (FRow (w4.alloc (.cells #[] 9)) ro (flatT (row.take k))) := frow_takeT (H4.out.2.2.row.later ((Below.refl _ _).alloc (Nat.le_refl _) _)) k
            have HO : Hid ((w4.alloc (.cells #[] 9)).ownsRow n1 9 1 (.slice (some ⟨n1, 0, none⟩) 0 0) 0 []) := own_empty hn1
            have hlk : (flatT (row.take k)).length = k * 1 := by rw [flatT_len, List.length_take, HX.out.2.2.2.2.2.2.2]; omega
            have H4n : Hid (w4.heap.size = n1) := hn1
            have HRO : Hid (FRow w4 ro (flatT row)) := H4.out.2.2.row
            have hld : (flatT (row.drop k)).length = (nr - k) * 1 := by rw [flatT_len, List.length_drop, HX.out.2.2.2.2.2.2.2]
            obtain ⟨ab, aoff, rfl⟩ : ∃ b off, ro = some ⟨b, off, none⟩ := by
              obtain ⟨b, off, e2, _⟩ := HRO.out (by rw [flatT_len, HX.out.2.2.2.2.2.2.2]; omega)
              exact ⟨b, off, e2⟩
            by_cases hck : cr = k
            all_goals
              (go_upto_region 31 with (first
                 | (at_builtin
                    refine wpList_onto rfl _ _ 45 rfl Try.underlying45 Try.infoText rfl (by decide) (by decide) (B := n1) rfl rfl HO.out ROW1.out hlk (fun u hu => oneT hu) (by omega) (by simp [hn1]) ?_
                    intro ao1 ca1 w5 o5 n5 b5
                    simp only [Nat.zero_add, List.nil_append] at o5 ⊢
                    have H5 : Hid (Below n1 w4 w5 ∧ w5.ownsRow n1 9 1 (.slice ao1 k ca1) k (flatT (row.take k))) := ⟨((Below.refl _ _).alloc (by omega) _).trans b5, o5⟩
                    clear o5 n5 b5))
               have hs5 : n1 ≤ w5.heap.size := by have := H5.out.1.size; have := H4n.out; omega
               clear ROW1 HO hlk hn1
               obtain ⟨n2, hn2⟩ : ∃ n, w5.heap.size = n := ⟨_, rfl⟩
               have R2 : FRow (w5.alloc (.cells #[.string v] 9)) (some ⟨n2, 0, none⟩) [.string v] := frow_newAt hn2 [.string v] _
               go_upto_region 32 with (first
                 | (at_builtin
                    refine wpList_onto rfl _ _ 45 rfl Try.underlying45 Try.infoText rfl (by decide) (by decide) (B := n1) rfl rfl (own_later H5.out.2 ((Below.refl _ _).alloc (Nat.le_refl _) _)) R2 rfl (fun u hu => oneT (l := [v]) (by simpa [flatT] using hu)) (by omega) (by simp; omega) ?_
                    intro ao2 ca2 w6 o6 n6 b6
                    have H6 : Hid (Below n1 w4 w6 ∧ w6.ownsRow n1 9 1 (.slice ao2 (k + 1) ca2) (k + 1) (flatT (row.take k ++ [v]))) := ⟨(H5.out.1.alloc hs5 _).trans b6, by rw [flatT_append]; exact o6⟩
                    clear o6 n6 b6))
               have hs6 : n1 ≤ w6.heap.size := by have := H6.out.1.size; have := H4n.out; omega
               have HR6 : Hid (FRow w6 _ (flatT row)) := HRO.out.later (H4n.out.symm ▸ H6.out.1)
               clear R2 hn2 H5 hs5 HRO
               go_wp2_with (first
                 | (at_builtin
                    refine wpList_onto rfl _ _ 45 rfl Try.underlying45 Try.infoText rfl (by decide) (by decide) (B := n1) rfl rfl H6.out.2 (by first | exact frow_dropT HR6.out k | exact frow_nilT (by rw [HX.out.2.2.2.2.2.2.2]; omega) | exact frow_nilT (by rw [HX.out.2.2.2.2.2.2.2]; have := hnr0.out; omega)) hld (fun u hu => oneT hu) (by omega) hs6 ?_
                    intro ao3 ca3 w9 o9 n9 b9
                    have H9 : Hid (Sr w h g (i + 1) (n + 1) q' ao3 (row.take k ++ [v] ++ row.drop k) m w9 ∧ (row.take k ++ [v] ++ row.drop k).length = k + 1 + (nr - k) ∧ k + 1 + (nr - k) ≤ ca3) := by
                      have hb : Below w4.heap.size w4 w9 := H4n.out.symm ▸ (H6.out.1.trans b9)
                      rw [← flatT_append] at o9
                      exact ⟨⟨H4.out.1.later hb, H4.out.2.1.later hb, RowB.of_own (own_row o9) hgn, HX.out.2.2.2.2.2.1, HX.out.2.2.2.2.2.2.1, HX.out.2.2.2.2.1⟩, by simp only [List.length_append, List.length_take, List.length_drop, List.length_cons, List.length_nil, HX.out.2.2.2.2.2.2.2]; omega, (own_cap o9).1⟩
                    clear o9 n9 b9))
               have hl9 := H9.out.2.2
               go_roundg (gk - 1)
               case measure => omega
               case rel => exact ⟨i + 1, n + 1, q', ao3, k + 1 + (nr - k), ca3, row.take k ++ [v] ++ row.drop k, m, by omega, by go_num, (by first | rfl | (congr 1; omega)), by omega, hl9, H9.out.1, H9.out.2.1⟩
               skip)
        · obtain ⟨rfl, rfl⟩ := hD.out.2.1 hk0
          obtain rfl : k = 0 := by omega
          have HZ := hz3.out
          rcases HZ with hzf | ⟨hzf, hzn⟩
          all_goals
            (obtain ⟨kd, ekd⟩ : ∃ kd, wr.heap.size = kd := ⟨_, rfl⟩
             have hgk : g < kd := by omega
             have HS7 : Hid ((Regs h w (wr.alloc (.cells #[.int .i64 0, .int .i64 0] 32)) [(kd, [.int .i64 0, .int .i64 0]), (g, llL n q)]) ∧ FOwn (g + 1) (wr.alloc (.cells #[.int .i64 0, .int .i64 0] 32)) q.lo (flatL l) ∧ RowB g (wr.alloc (.cells #[.int .i64 0, .int .i64 0] 32)) ro (flatT row)) := by
               have hal : Below wr.heap.size wr (wr.alloc (.cells #[.int .i64 0, .int .i64 0] 32)) := (Below.refl _ _).alloc (Nat.le_refl _) _
               exact ⟨Regs.push HS0.out.1.1 ekd [.int .i64 0, .int .i64 0] _, HS0.out.1.2.1.later hal, HS0.out.1.2.2.1.later hal⟩
             clear HS0 hE hk0
             go_upto_region 25 with fail
             generalize hW : wr.alloc (.cells #[.int .i64 0, .int .i64 0] 32) = w7 at HS7 ⊢
             clear hW ekd c0 ez eM hD
             go_wp2_with fail
             refine (deci_any i _ (by omega)).mono ?_
             rintro e w8 ⟨rfl, b8⟩
             have HS8 : Hid (Regs h w w8 [(kd, [.int .i64 0, .int .i64 0]), (g, llL n q)] ∧ FOwn (g + 1) w8 q.lo (flatL l) ∧ RowB g w8 ro (flatT row)) := ⟨HS7.out.1.later b8, HS7.out.2.1.later b8, HS7.out.2.2.later b8⟩
             clear b8 HS7
             go_upto_region 26 with fail
             simp only [Hev.out]
             clear hdl
             obtain ⟨B, hB⟩ : ∃ B, w8.heap.size = B := ⟨_, rfl⟩
             have hgB : g < B := by rw [← hB]; exact HS8.out.1.2.1.1
             have hkB : kd < B := by rw [← hB]; exact HS8.out.1.1.1
             have HSr : Hid (SrcL w8 B g n q l kd 0 (.int .i64 0) kd 1 (.int .i64 0)) := ⟨hB, HS8.out.1.2.1, HS8.out.2.1.row, hkB, HS8.out.1.1.at 0 rfl, hkB, HS8.out.1.1.at 1 rfl⟩
             have HB : Hid (w8.heap.size = B) := hB
             have hz0 : B ≤ w8.heap.size := by omega
             have hzd : B ≤ w8.drew.heap.size := hz0
             have hw1 : IntKind.i64.wrap ((i : Int) + 1) = (i : Int) + 1 := by rw [IntKind.wrap_i64]; omega
             clear hB
             go_cut [17, 18] from 119 to 130 (fun p e wx => ∃ (kc : Nat) (q' : Pl), p = .pointer (some ⟨kc, 0, none⟩) ∧ e = .int .i64 0 ∧ Hid (EndL w8 B (n + 1) m kc q' wx))
             case first =>
               go_region_held3 (HeldL w8 B g n q kd 0 (.int .i64 0) kd 1 (.int .i64 0)) (first | (with_reducible apply heldL_later HSr.out hb2; assumption) | with_reducible apply heldL_put HSr.out T6 (by assumption) | (with_reducible apply heldL_swap HSr.out (by omega) (by assumption)) | (with_reducible exact heldL_drew HSr.out) | (with_reducible exact heldL_first HSr.out _) | (with_reducible apply heldL_alloc HSr.out _ (by assumption)))
                 (first
                   | (go_at_call 25; with_reducible refine (elem_any _ _ _ _ _).mono ?_; rintro r w3 ⟨rfl, hb2⟩; have hz := hb2.size; first | (with_reducible have T6 := nineT_newd (B := B) (by omega) hb2; obtain ⟨y0, y1, y2, y3, y4, y5, y6, y7, y8, y9⟩ := nineT_ten T6; obtain ⟨z0, z1, z2, z3, z4, z5, z6, z7, z8, z9⟩ := nineT_tenf T6) | (with_reducible have T6 := nineT_new (B := B) (by omega) hb2; obtain ⟨y0, y1, y2, y3, y4, y5, y6, y7, y8, y9⟩ := nineT_ten T6; obtain ⟨z0, z1, z2, z3, z4, z5, z6, z7, z8, z9⟩ := nineT_tenf T6) | (with_reducible replace T6 := nineT_later T6 hb2; obtain ⟨y0, y1, y2, y3, y4, y5, y6, y7, y8, y9⟩ := nineT_ten T6; obtain ⟨z0, z1, z2, z3, z4, z5, z6, z7, z8, z9⟩ := nineT_tenf T6) | skip)
                   | (go_at_call 10; with_reducible refine (ins_atL (e := ⟨0, (i : Int) + 1, (i : Int) + 1, v, false⟩) (d := (0, 0)) (m := m) (n' := n + 1) HSr.out (by assumption) HX.out.2.2.2.1 HX.out.2.2.1 HX.out.1 HX.out.2.1 HX.out.2.2.2.2.1).mono ?_; rintro r w3 ⟨q', rfl, O3, hC3, hb2⟩; have hz := hb2.size; first | (with_reducible have T6 := nineT_newd (B := B) (by omega) hb2; obtain ⟨y0, y1, y2, y3, y4, y5, y6, y7, y8, y9⟩ := nineT_ten T6; obtain ⟨z0, z1, z2, z3, z4, z5, z6, z7, z8, z9⟩ := nineT_tenf T6) | (with_reducible have T6 := nineT_new (B := B) (by omega) hb2; obtain ⟨y0, y1, y2, y3, y4, y5, y6, y7, y8, y9⟩ := nineT_ten T6; obtain ⟨z0, z1, z2, z3, z4, z5, z6, z7, z8, z9⟩ := nineT_tenf T6) | (with_reducible replace T6 := nineT_later T6 hb2; obtain ⟨y0, y1, y2, y3, y4, y5, y6, y7, y8, y9⟩ := nineT_ten T6; obtain ⟨z0, z1, z2, z3, z4, z5, z6, z7, z8, z9⟩ := nineT_tenf T6) | skip))
               all_goals
                 (go_wp2_with fail
                  go_meet
                  case rel =>
                    (first
                      | (have E7 := endL_put (w1 := w8) (l' := m) T6 O3 (by assumption); exact ⟨_, q', rfl, rfl, E7⟩)
                      | (have E7 := endL_new (w1 := w8) (W := w3) (B := B) (l' := m) 30 hC3 (by omega) O3 (by assumption); exact ⟨_, q', rfl, rfl, E7⟩)))
             case rest =>
               obtain ⟨w3, rfl⟩ : ∃ z, z = wc := ⟨_, rfl⟩
               obtain ⟨kc, q', rfl, rfl, HE⟩ := hcut
               have H3 : Hid (g + 1 ≤ B ∧ B ≤ kc ∧ Has w3 kc (llL (n + 1) q') ∧ Has w3 g (llL n q) ∧ Has w3 kd [.int .i64 0, .int .i64 0] ∧ FOwn B w3 q'.lo (flatL m) ∧ (Below h w w3 ∧ h ≤ w3.heap.size) ∧ RowB g w3 ro (flatT row)) := by
                 have hb := HE.out.2.2.2
                 have K := HS8.out.1.fit HB.out hb
                 exact ⟨by omega, HE.out.1, HE.out.2.1, K.2.1, K.1, HE.out.2.2.1, K.base, HS8.out.2.2.later (HB.out.symm ▸ hb)⟩
               have hkc : g < kc := by have := H3.out.2.1; omega
               clear HSr HB HE HS8 hz0 hzd hw1
               obtain ⟨t0, t1, t2, t3, t4, t5, t6, t7, t8, t9⟩ := H3.out.2.2.1.ten
               obtain ⟨y0, y1, y2, y3, y4, y5, y6, y7, y8, y9⟩ := H3.out.2.2.2.1.ten
               obtain ⟨z0, z1, z2, z3, z4, z5, z6, z7, z8, z9⟩ := H3.out.2.2.2.1.tenf
               have H4 : Hid (Regs h w (put10 w3 g (.int .i64 3) (.bool false) (.int .i64 0) (.int .i64 0) (.string ⟨#[]⟩) (.int .i64 0) (.int .i64 0) (.slice q'.eo 0 q'.ec) (.slice q'.lo (n + 1) q'.lc) (.slice q'.so 0 q'.sc)) [(g, llL (n + 1) q')] ∧ FOwn (g + 1) (put10 w3 g (.int .i64 3) (.bool false) (.int .i64 0) (.int .i64 0) (.string ⟨#[]⟩) (.int .i64 0) (.int .i64 0) (.slice q'.eo 0 q'.ec) (.slice q'.lo (n + 1) q'.lc) (.slice q'.so 0 q'.sc)) q'.lo (flatL m) ∧ RowB g (put10 w3 g (.int .i64 3) (.bool false) (.int .i64 0) (.int .i64 0) (.string ⟨#[]⟩) (.int .i64 0) (.int .i64 0) (.slice q'.eo 0 q'.ec) (.slice q'.lo (n + 1) q'.lc) (.slice q'.so 0 q'.sc)) ro (flatT row)) := by
                 obtain ⟨h1, h2, h3, h4, h5, h7, h8, h9⟩ := H3.out
                 have K := roundL (L := []) (n' := n + 1) (q' := q') h4 h8 h7 HG.out (by omega) (fun e he => by simp at he)
                 exact ⟨K.1, (h7.put10 (by omega) _ _ _ _ _ _ _ _ _ _).mono h1, h9.put10 _ _ _ _ _ _ _ _ _ _⟩
               go_upto_region 30 with (go_at_call 21; refine (num_any _ _).mono ?_; rintro e w0 ⟨rfl, hw0⟩; have hw1 := hw0.symm; clear hw0; subst hw1)
               dsimp only [put10] at H4
               clear t0 t1 t2 t3 t4 t5 t6 t7 t8 t9 y0 y1 y2 y3 y4 y5 y6 y7 y8 y9 z0 z1 z2 z3 z4 z5 z6 z7 z8 z9
               generalize hW : World.setCell _ (⟨g, 9, none⟩ : Addr) _ = w4 at H4 ⊢
               clear hW H3
               obtain ⟨n1, hn1⟩ : ∃ n, w4.heap.size = n := ⟨_, rfl⟩
               have hgn : g < n1 := by have := H4.out.1.1.1; omega
               have ROW1 : Hid (FRow (w4.alloc (.cells #[] 9)) ro (flatT (row.take 0))) := frow_takeT (H4.out.2.2.row.later ((Below.refl _ _).alloc (Nat.le_refl _) _)) 0
               have HO : Hid ((w4.alloc (.cells #[] 9)).ownsRow n1 9 1 (.slice (some ⟨n1, 0, none⟩) 0 0) 0 []) := own_empty hn1
               have hlk : (flatT (row.take 0)).length = 0 * 1 := by rw [flatT_len, List.length_take, HX.out.2.2.2.2.2.2.2]; omega
               have H4n : Hid (w4.heap.size = n1) := hn1
               have HRO : Hid (FRow w4 ro (flatT row)) := H4.out.2.2.row
               have hld : (flatT (row.drop 0)).length = (nr - 0) * 1 := by rw [flatT_len, List.length_drop, HX.out.2.2.2.2.2.2.2]
               have hrn : Hid (ro = none → nr = 0) := fun e => by
                 have h8 := HX.out.2.2.2.2.2.2.2
                 by_cases h9 : nr = 0
                 · exact h9
                 · obtain ⟨b, off, e2, _⟩ := HRO.out (by rw [flatT_len]; omega)
                   rw [e] at e2
                   cases e2
               cases hro : ro with
               | none =>
                 have hnr0 : Hid (nr = 0) := hrn.out hro
                 rw [hro] at ROW1 HRO
                 clear hrn hro
                 by_cases hck : cr = 0
                 all_goals
                   (go_upto_region 31 with (first
                      | (at_builtin
                         refine wpList_onto rfl _ _ 45 rfl Try.underlying45 Try.infoText rfl (by decide) (by decide) (B := n1) rfl rfl HO.out ROW1.out hlk (fun u hu => oneT hu) (by omega) (by simp [hn1]) ?_
                         intro ao1 ca1 w5 o5 n5 b5
                         simp only [Nat.zero_add, List.nil_append] at o5 ⊢
                         have H5 : Hid (Below n1 w4 w5 ∧ w5.ownsRow n1 9 1 (.slice ao1 0 ca1) 0 (flatT (row.take 0))) := ⟨((Below.refl _ _).alloc (by omega) _).trans b5, o5⟩
                         clear o5 n5 b5))
                    have hs5 : n1 ≤ w5.heap.size := by have := H5.out.1.size; have := H4n.out; omega
                    clear ROW1 HO hlk hn1
                    obtain ⟨n2, hn2⟩ : ∃ n, w5.heap.size = n := ⟨_, rfl⟩
                    have R2 : FRow (w5.alloc (.cells #[.string v] 9)) (some ⟨n2, 0, none⟩) [.string v] := frow_newAt hn2 [.string v] _
                    go_upto_region 32 with (first
                      | (at_builtin
                         refine wpList_onto rfl _ _ 45 rfl Try.underlying45 Try.infoText rfl (by decide) (by decide) (B := n1) rfl rfl (own_later H5.out.2 ((Below.refl _ _).alloc (Nat.le_refl _) _)) R2 rfl (fun u hu => oneT (l := [v]) (by simpa [flatT] using hu)) (by omega) (by simp; omega) ?_
                         intro ao2 ca2 w6 o6 n6 b6
                         have H6 : Hid (Below n1 w4 w6 ∧ w6.ownsRow n1 9 1 (.slice ao2 (0 + 1) ca2) (0 + 1) (flatT (row.take 0 ++ [v]))) := ⟨(H5.out.1.alloc hs5 _).trans b6, by rw [flatT_append]; exact o6⟩
                         clear o6 n6 b6))
                    have hs6 : n1 ≤ w6.heap.size := by have := H6.out.1.size; have := H4n.out; omega
                    have HR6 : Hid (FRow w6 _ (flatT row)) := HRO.out.later (H4n.out.symm ▸ H6.out.1)
                    clear R2 hn2 H5 hs5 HRO
                    go_wp2_with (first
                      | (at_builtin
                         refine wpList_onto rfl _ _ 45 rfl Try.underlying45 Try.infoText rfl (by decide) (by decide) (B := n1) rfl rfl H6.out.2 (by first | exact frow_dropT HR6.out 0 | exact frow_nilT (by rw [HX.out.2.2.2.2.2.2.2]; omega) | exact frow_nilT (by rw [HX.out.2.2.2.2.2.2.2]; have := hnr0.out; omega)) hld (fun u hu => oneT hu) (by omega) hs6 ?_
                         intro ao3 ca3 w9 o9 n9 b9
                         have H9 : Hid (Sr w h g (i + 1) (n + 1) q' ao3 (row.take 0 ++ [v] ++ row.drop 0) m w9 ∧ (row.take 0 ++ [v] ++ row.drop 0).length = 0 + 1 + (nr - 0) ∧ 0 + 1 + (nr - 0) ≤ ca3) := by
                           have hb : Below w4.heap.size w4 w9 := H4n.out.symm ▸ (H6.out.1.trans b9)
                           rw [← flatT_append] at o9
                           exact ⟨⟨H4.out.1.later hb, H4.out.2.1.later hb, RowB.of_own (own_row o9) hgn, HX.out.2.2.2.2.2.1, HX.out.2.2.2.2.2.2.1, HX.out.2.2.2.2.1⟩, by simp only [List.length_append, List.length_take, List.length_drop, List.length_cons, List.length_nil, HX.out.2.2.2.2.2.2.2]; omega, (own_cap o9).1⟩
                         clear o9 n9 b9))
                    have hl9 := H9.out.2.2
                    go_roundg (gk - 1)
                    case measure => omega
                    case rel => exact ⟨i + 1, n + 1, q', ao3, 0 + 1 + (nr - 0), ca3, row.take 0 ++ [v] ++ row.drop 0, m, by omega, by go_num, (by first | rfl | (congr 1; omega)), by omega, hl9, H9.out.1, H9.out.2.1⟩
                    skip)
               | some ad =>
                 obtain ⟨ab, aoff, asp⟩ := ad
                 rw [hro] at ROW1 HRO
                 clear hrn hro
                 by_cases hck : cr = 0
                 all_goals
                   (go_upto_region 31 with (first
                      | (at_builtin
                         refine wpList_onto rfl _ _ 45 rfl Try.underlying45 Try.infoText rfl (by decide) (by decide) (B := n1) rfl rfl HO.out ROW1.out hlk (fun u hu => oneT hu) (by omega) (by simp [hn1]) ?_
                         intro ao1 ca1 w5 o5 n5 b5
                         simp only [Nat.zero_add, List.nil_append] at o5 ⊢
                         have H5 : Hid (Below n1 w4 w5 ∧ w5.ownsRow n1 9 1 (.slice ao1 0 ca1) 0 (flatT (row.take 0))) := ⟨((Below.refl _ _).alloc (by omega) _).trans b5, o5⟩
                         clear o5 n5 b5))
                    have hs5 : n1 ≤ w5.heap.size := by have := H5.out.1.size; have := H4n.out; omega
                    clear ROW1 HO hlk hn1
                    obtain ⟨n2, hn2⟩ : ∃ n, w5.heap.size = n := ⟨_, rfl⟩
                    have R2 : FRow (w5.alloc (.cells #[.string v] 9)) (some ⟨n2, 0, none⟩) [.string v] := frow_newAt hn2 [.string v] _
                    go_upto_region 32 with (first
                      | (at_builtin
                         refine wpList_onto rfl _ _ 45 rfl Try.underlying45 Try.infoText rfl (by decide) (by decide) (B := n1) rfl rfl (own_later H5.out.2 ((Below.refl _ _).alloc (Nat.le_refl _) _)) R2 rfl (fun u hu => oneT (l := [v]) (by simpa [flatT] using hu)) (by omega) (by simp; omega) ?_
                         intro ao2 ca2 w6 o6 n6 b6
                         have H6 : Hid (Below n1 w4 w6 ∧ w6.ownsRow n1 9 1 (.slice ao2 (0 + 1) ca2) (0 + 1) (flatT (row.take 0 ++ [v]))) := ⟨(H5.out.1.alloc hs5 _).trans b6, by rw [flatT_append]; exact o6⟩
                         clear o6 n6 b6))
                    have hs6 : n1 ≤ w6.heap.size := by have := H6.out.1.size; have := H4n.out; omega
                    have HR6 : Hid (FRow w6 _ (flatT row)) := HRO.out.later (H4n.out.symm ▸ H6.out.1)
                    clear R2 hn2 H5 hs5 HRO
                    go_wp2_with (first
                      | (at_builtin
                         refine wpList_onto rfl _ _ 45 rfl Try.underlying45 Try.infoText rfl (by decide) (by decide) (B := n1) rfl rfl H6.out.2 (by first | exact frow_dropT HR6.out 0 | exact frow_nilT (by rw [HX.out.2.2.2.2.2.2.2]; omega) | exact frow_nilT (by rw [HX.out.2.2.2.2.2.2.2]; have := hnr0.out; omega)) hld (fun u hu => oneT hu) (by omega) hs6 ?_
                         intro ao3 ca3 w9 o9 n9 b9
                         have H9 : Hid (Sr w h g (i + 1) (n + 1) q' ao3 (row.take 0 ++ [v] ++ row.drop 0) m w9 ∧ (row.take 0 ++ [v] ++ row.drop 0).length = 0 + 1 + (nr - 0) ∧ 0 + 1 + (nr - 0) ≤ ca3) := by
                           have hb : Below w4.heap.size w4 w9 := H4n.out.symm ▸ (H6.out.1.trans b9)
                           rw [← flatT_append] at o9
                           exact ⟨⟨H4.out.1.later hb, H4.out.2.1.later hb, RowB.of_own (own_row o9) hgn, HX.out.2.2.2.2.2.1, HX.out.2.2.2.2.2.2.1, HX.out.2.2.2.2.1⟩, by simp only [List.length_append, List.length_take, List.length_drop, List.length_cons, List.length_nil, HX.out.2.2.2.2.2.2.2]; omega, (own_cap o9).1⟩
                         clear o9 n9 b9))
                    have hl9 := H9.out.2.2
                    go_roundg (gk - 1)
                    case measure => omega
                    case rel => exact ⟨i + 1, n + 1, q', ao3, 0 + 1 + (nr - 0), ca3, row.take 0 ++ [v] ++ row.drop 0, m, by omega, by go_num, (by first | rfl | (congr 1; omega)), by omega, hl9, H9.out.1, H9.out.2.1⟩
                    skip)
             skip)
    · have hnr40 : nr ≤ 40 := by omega
      have HD : ¬ i < ps.length ∨ i < ps.length ∧ ¬ i < 40 := by
        rcases hP3.out with h | h
        · exact Or.inl (by omega)
        · by_cases h2 : i < ps.length
          · exact Or.inr ⟨h2, by omega⟩
          · exact Or.inl h2
      have HE0 : Hid (Regs h w wr [(g, llL n q)] ∧ FOwn (g + 1) wr q.lo (flatL l) ∧ FRow wr ro (flatT row)) := ⟨HS0.out.1.1, HS0.out.1.2.1, HS0.out.1.2.2.1.row⟩
      have HE1 : Hid (valsX l = row ∧ SmallX l ∧ n = l.length ∧ row.length = nr ∧ nr = (liveL l).length) := ⟨HS0.out.1.2.2.2.1.row, HS0.out.1.2.2.2.2.1, HS0.out.1.2.2.2.2.2, HS0.out.2, by rw [HS0.out.1.2.2.2.1.live, HS0.out.2]⟩
      obtain ⟨t0, t1, t2, t3, t4, t5, t6, t7, t8, t9⟩ := (show Has _ g (llL n q) from HE0.out.1.1).ten
      clear HS0
      rcases HD with hlen | ⟨hlen, hd2⟩
      all_goals
        (go_wp2_with fail
         refine (valx_yes (l := l) (q := q) _ row n nr HE1.out.2.2.1 HE0.out.2.1.row HE1.out.2.1 HE1.out.1 HE1.out.2.2.2.1.symm).mono ?_
         rintro e x1 ⟨vo, cv, rfl, o1, b1⟩
         have G1 : Hid (Regs h w x1 [(g, llL n q)] ∧ FOwn (g + 1) x1 q.lo (flatL l) ∧ FRow x1 ro (flatT row) ∧ FRow x1 vo (flatT row)) := ⟨HE0.out.1.later b1, HE0.out.2.1.later b1, HE0.out.2.2.later b1, o1.row⟩
         clear b1 o1 HE0 t0 t1 t2 t3 t4 t5 t6 t7 t8 t9
         obtain ⟨t0, t1, t2, t3, t4, t5, t6, t7, t8, t9⟩ := (show Has _ g (llL n q) from G1.out.1.1).ten
         go_wp2_with fail
         refine (coms_yes (l := l) (q := q) _ (liveL l) n nr HE1.out.2.2.1 G1.out.2.1.row HE1.out.2.1 rfl HE1.out.2.2.2.2).mono ?_
         rintro e x2 ⟨q2, rfl, o2, b2⟩
         obtain ⟨kc, ekc⟩ : ∃ k, x2.heap.size = k := ⟨_, rfl⟩
         have G2 : Hid (Regs h w (x2.alloc (.cells (llL nr q2).toArray 30)) [(kc, llL nr q2), (g, llL n q)] ∧ FRow (x2.alloc (.cells (llL nr q2).toArray 30)) q2.lo (flatL (liveL l)) ∧ FRow (x2.alloc (.cells (llL nr q2).toArray 30)) ro (flatT row) ∧ FRow (x2.alloc (.cells (llL nr q2).toArray 30)) vo (flatT row)) := by
           have hal : Below x2.heap.size x2 (x2.alloc (.cells (llL nr q2).toArray 30)) := (Below.refl _ _).alloc (Nat.le_refl _) _
           exact ⟨Regs.push (G1.out.1.later b2) ekc _ _, o2.row.later hal, (G1.out.2.2.1.later b2).later hal, (G1.out.2.2.2.later b2).later hal⟩
         clear b2 o2 G1 t0 t1 t2 t3 t4 t5 t6 t7 t8 t9
         go_upto_region 36 with fail
         generalize hW : x2.alloc (.cells (llL nr q2).toArray 30) = x3 at G2 ⊢
         clear hW ekc
         obtain ⟨t0, t1, t2, t3, t4, t5, t6, t7, t8, t9⟩ := (show Has _ kc (llL nr q2) from G2.out.1.1).ten
         go_wp2_with fail
         refine (valx_yes (l := liveL l) (q := q2) _ row nr nr HE1.out.2.2.2.2 G2.out.2.1 (smallX_live HE1.out.2.1) (by unfold valsX; rw [live_live]; exact HE1.out.1) HE1.out.2.2.2.1.symm).mono ?_
         rintro e x4 ⟨vp, cw, rfl, o4, b4⟩
         have G4 : Hid (Regs h w x4 [(kc, llL nr q2), (g, llL n q)] ∧ FRow x4 ro (flatT row) ∧ FRow x4 vo (flatT row) ∧ FRow x4 vp (flatT row)) := ⟨G2.out.1.later b4, G2.out.2.2.1.later b4, G2.out.2.2.2.later b4, o4.row⟩
         clear b4 o4 G2 t0 t1 t2 t3 t4 t5 t6 t7 t8 t9
         go_wp2_with (go_at_call 21; refine (num_any _ _).mono ?_; rintro e w0 ⟨rfl, hw0⟩; have hw1 := hw0.symm; clear hw0; subst hw1)
         refine (tsT vo ro cv cr row _ HE1.out.2.2.2.1.symm G4.out.2.2.1 G4.out.2.1 (by unfold maxLen; omega)).mono ?_
         rintro e x5 ⟨rfl, b5⟩
         have G5 : Hid (Regs h w x5 [(kc, llL nr q2), (g, llL n q)] ∧ FRow x5 ro (flatT row) ∧ FRow x5 vp (flatT row)) := ⟨G4.out.1.later b5, G4.out.2.1.later b5, G4.out.2.2.2.later b5⟩
         clear b5 G4
         go_wp2_with (go_at_call 21; refine (num_any _ _).mono ?_; rintro e w0 ⟨rfl, hw0⟩; have hw1 := hw0.symm; clear hw0; subst hw1)
         refine (tsT vp ro cw cr row _ HE1.out.2.2.2.1.symm G5.out.2.2 G5.out.2.1 (by unfold maxLen; omega)).mono ?_
         rintro e x6 ⟨rfl, b6⟩
         have G6 : Hid (Regs h w x6 [(kc, llL nr q2), (g, llL n q)]) := G5.out.1.later b6
         clear b6 G5
         obtain ⟨t0, t1, t2, t3, t4, t5, t6, t7, t8, t9⟩ := (show Has _ kc (llL nr q2) from G6.out.1).ten
         go_wp2
         go_ret
         exact ⟨rfl, G6.out.base.1⟩)

set_option maxRecDepth 100000 in
theorem walk {H : Type} {enc : TypeId × Value → H} {base : Nat} {d0 : DataW H} {p0 : List MemPlace} (v0 : Value) (w : World)
    (o0 : Value.okWide Try.prog w .any base 28 v0) (h0 : DataW.Trod enc Try.prog w 0 (fun _ => true) true 28 v0 d0 p0) (z0 : ∀ n, n ∈ DataW.weights Try.prog 28 d0 → n ≤ reachBytes) :
    Calls Try.prog 5 #[v0] w fun e w' => e = .returned (.bool true) ∧ Below w.heap.size w w' := by
  obtain ⟨l, ao, ca, rfl, hr, hl⟩ := open_intsR o0 h0 z0
  exact core ao ca l w hr hl

end Go.Proofs.Ytaakhpibdpgjpaa.RgaSerial
