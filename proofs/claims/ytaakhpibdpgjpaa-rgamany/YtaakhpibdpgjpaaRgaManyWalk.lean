/-
  The walk of the law RgaMany: what many put at the begin, at one time.
-/
import Derived.Test.YtaakhpibdpgjpaaWr10
import Derived.Test.YtaakhpibdpgjpaaMasks
import Derived.Test.YtaakhpibdpgjpaaOpenI
import Derived.Test.YtaakhpibdpgjpaaOnTo
namespace Go.Proofs.Ytaakhpibdpgjpaa.RgaMany
open Go.RowKit Go.Shelf
set_option linter.unusedVariables false
set_option linter.unusedSimpArgs false

def fS (n : Nat) : ByteArray := ⟨(Lib.decDigits n).toArray⟩
abbrev mL (ns : List Nat) : List L5 := ns.map (ofN fS)
def rI (l : List Nat) : List Int := l.map fun (j : Nat) => (j : Int)
theorem rI_len (l : List Nat) : (rI l).length = l.length := by simp [rI]
theorem rI_at {l : List Nat} {i x : Nat} (h : l[i]? = some x) : (flatI (rI l))[i]? = some (.int .i64 (x : Nat)) := by simp [flatI, rI, h]
theorem rI_range (i : Nat) : flatI (rI (List.range (i + 1))) = flatI (rI (List.range i)) ++ [.int .i64 (i : Nat)] := by simp [flatI, rI, List.range_succ]
theorem rI_app (a b : List Nat) : flatI (rI (a ++ b)) = flatI (rI a) ++ flatI (rI b) := by simp [flatI, rI]
theorem fS_size {n : Nat} (h : n < 8) : (fS n).size ≤ 256 := by
  have : n = 0 ∨ n = 1 ∨ n = 2 ∨ n = 3 ∨ n = 4 ∨ n = 5 ∨ n = 6 ∨ n = 7 := by omega
  rcases this with rfl | rfl | rfl | rfl | rfl | rfl | rfl | rfl <;> decide +kernel
theorem small_m {k : Nat} {left ns : List Nat} (H : Many k left ns) (hk : k ≤ 8) (hn : ns.length ≤ 8) : SmallX (mL ns) := by
  refine ⟨by simp; omega, fun x hx => ?_⟩
  obtain ⟨n, hn, rfl⟩ := List.mem_map.1 hx
  exact fS_size (by have := (H.part n).2 (Or.inl hn); omega)
theorem ok_m {k x : Nat} {ns : List Nat} (hx : x < 8) (hn : x ∉ ns) : okX (mL ns) ⟨(x : Int), 1, 1, fS x, false⟩ = true := by
  unfold okX mayB
  have h1 := fS_size hx
  have h2 : hasX (mL ns) ((x : Int), 1) = false := by
    unfold hasX
    rw [List.any_eq_false]
    intro y hy
    obtain ⟨n, hm, rfl⟩ := List.mem_map.1 hy
    have hne : n ≠ x := fun e => hn (e ▸ hm)
    simp [dotX, ofN]
    omega
  show (_ && (_ && (_ && (_ && !hasX (mL ns) ((x : Int), 1))))) = true
  rw [h2]
  simp [h1]
  omega
theorem many_len {k : Nat} {left ns : List Nat} (H : Many k left ns) (x : Nat) (hx : x ∈ left) : x < k := (H.part x).2 (Or.inr hx)

/-- A row that lies not in block g. -/
def RowB (g : Nat) (w : World) (ao : Option Addr) (xs : List Value) : Prop := 0 < xs.length → ∃ b off, ao = some ⟨b, off, none⟩ ∧ b ≠ g ∧ b < w.heap.size ∧ ∀ i u, xs[i]? = some u → w.cell? ⟨b, off + i, none⟩ = some u
theorem RowB.row {g : Nat} {w : World} {ao : Option Addr} {xs : List Value} (h : RowB g w ao xs) : FRow w ao xs := fun h0 => by
  obtain ⟨b, off, h1, _, h2, h3⟩ := h h0
  exact ⟨b, off, h1, h2, h3⟩
theorem RowB.later {g : Nat} {w w' : World} {ao : Option Addr} {xs : List Value} (h : RowB g w ao xs) (hb : Below w.heap.size w w') : RowB g w' ao xs := fun h0 => by
  obtain ⟨b, off, h1, h4, h2, h3⟩ := h h0
  exact ⟨b, off, h1, h4, Nat.lt_of_lt_of_le h2 hb.size, fun i u hu => (hb.cell (by exact h2)).trans (h3 i u hu)⟩
theorem RowB.put10 {g : Nat} {w : World} {ao : Option Addr} {xs : List Value} (h : RowB g w ao xs) (u0 u1 u2 u3 u4 u5 u6 u7 u8 u9 : Value) : RowB g (put10 w g u0 u1 u2 u3 u4 u5 u6 u7 u8 u9) ao xs := fun h0 => by
  obtain ⟨b, off, h1, h4, h2, h3⟩ := h h0
  have hne : ∀ o i, (⟨b, i, none⟩ : Addr) ≠ ⟨g, o, none⟩ := fun o i e => by injection e; omega
  refine ⟨b, off, h1, h4, by simpa using h2, fun i u hu => ?_⟩
  repeat rw [World.cell?_setCell_other _ _ _ _ (by first | exact hne _ _ | exact (hne _ _).symm)]
  exact h3 i u hu
theorem RowB.of_row {g : Nat} {w : World} {ao : Option Addr} {xs : List Value} (h : FRow w ao xs) (hg : w.heap.size ≤ g) : RowB g w ao xs := fun h0 => by
  obtain ⟨b, off, h1, h2, h3⟩ := h h0
  exact ⟨b, off, h1, by omega, h2, h3⟩
theorem RowB.of_own {g B : Nat} {w : World} {ao : Option Addr} {xs : List Value} (h : FOwn B w ao xs) (hg : g < B) : RowB g w ao xs := fun h0 => by
  obtain ⟨b, h1, h4, h2, h3⟩ := h h0
  exact ⟨b, 0, h1, by omega, h2, fun i u hu => by rw [Nat.zero_add]; exact (h3 i u hu).1⟩
theorem frow_takeI {w : World} {b off : Nat} {l : List Nat} (h : FRow w (some ⟨b, off, none⟩) (flatI (rI l))) (k : Nat) : FRow w (some ⟨b, off, none⟩) (flatI (rI (l.take k))) := fun h0 => by
  have e : flatI (rI (l.take k)) = (flatI (rI l)).take k := by simp [flatI, rI, List.map_take]
  rw [e] at h0 ⊢
  obtain ⟨b', off', e, hb, hc⟩ := h (by simp at h0; omega)
  refine ⟨b', off', e, hb, fun i u hu => hc i u ?_⟩
  rw [List.getElem?_take] at hu
  split at hu
  · exact hu
  · simp at hu
theorem frow_dropI {w : World} {b off : Nat} {l : List Nat} (h : FRow w (some ⟨b, off, none⟩) (flatI (rI l))) (k : Nat) : FRow w (some ⟨b, off + k, none⟩) (flatI (rI (l.drop k))) := fun h0 => by
  have e : flatI (rI (l.drop k)) = (flatI (rI l)).drop k := by simp [flatI, rI, List.map_drop]
  rw [e] at h0 ⊢
  obtain ⟨b', off', e, hb, hc⟩ := h (by simp at h0; omega)
  simp only [Option.some.injEq, Addr.mk.injEq, and_true] at e
  obtain ⟨rfl, rfl⟩ := e
  refine ⟨b, _, rfl, hb, fun i u hu => ?_⟩
  rw [List.getElem?_drop] at hu
  have := hc _ u hu
  rwa [← Nat.add_assoc] at this
theorem frow_nilI {w : World} {ao : Option Addr} {l : List Nat} {k : Nat} (h : l.length ≤ k) : FRow w ao (flatI (rI (l.drop k))) := by
  rw [List.drop_eq_nil_of_le h]
  exact FRow.nil _ _

/-- What the loop keeps. -/
def Mn (w : World) (h g k n : Nat) (q : Pl) (lo : Option Addr) (left ns : List Nat) (wr : World) : Prop :=
  Regs h w wr [(g, llL n q)] ∧ FOwn (g + 1) wr q.lo (flatL (mL ns)) ∧ RowB g wr lo (flatI (rI left)) ∧ Many k left ns ∧ n = ns.length

/-- What one of the checks reads. -/
abbrev HeldM (w0 : World) (vb vo : Nat) (v : ByteArray) (k x : Nat) (W : World) : Prop :=
  Hid (Below w0.heap.size w0 W) ∧ W.cell? ⟨vb, vo, none⟩ = some (.string v) ∧ W.cell? ⟨k, 0, none⟩ = some (.int .i64 (x : Nat)) ∧ W.cell? ⟨k, 1, none⟩ = some (.int .i64 1)
structure SrcM (w0 : World) (vb vo : Nat) (v : ByteArray) (k x : Nat) : Prop where
  hv : vb < w0.heap.size
  v0 : w0.cell? ⟨vb, vo, none⟩ = some (.string v)
  hk : Has w0 k [.int .i64 (x : Nat), .int .i64 1]
section
variable {w0 W : World} {vb vo k x : Nat} {v : ByteArray}
theorem heldM_of (hs : SrcM w0 vb vo v k x) (hb : Below w0.heap.size w0 W) : HeldM w0 vb vo v k x W := by
  have H := hs.hk.later hb
  exact ⟨hb, (hb.cell (p := ⟨vb, vo, none⟩) (by exact hs.hv)).trans hs.v0, H.at 0 rfl, H.at 1 rfl⟩
theorem heldM_later {W' : World} (hs : SrcM w0 vb vo v k x) (hb : Below W.heap.size W W') (H : HeldM w0 vb vo v k x W) : HeldM w0 vb vo v k x W' := heldM_of hs (H.1.out.trans (hb.mono H.1.out.size))
theorem heldM_drew (hs : SrcM w0 vb vo v k x) : HeldM w0 vb vo v k x w0.drew := heldM_of hs (Below.refl _ _).drew
end
theorem below_eq {w w' : World} (h : w' = w) : Below w.heap.size w w' := h ▸ Below.refl _ _
theorem vals_m (k : Nat) : valsX (mL (downN k)) = (downN k).map fS := by
  unfold valsX liveL mL
  rw [List.filter_eq_self.2 (fun x hx => by
    obtain ⟨n, _, rfl⟩ := List.mem_map.1 hx
    rfl), List.map_map]
  rfl
theorem at_m {k i : Nat} (h : i < k) : atNum (mL (downN k)) (i : Int) = ((((k - 1 - i : Nat) : Int), 1), 0) := by
  apply atNum_some
  unfold atI
  have e : liveL (mL (downN k)) = mL (downN k) := by
    unfold liveL mL
    exact List.filter_eq_self.2 (fun x hx => by
      obtain ⟨n, _, rfl⟩ := List.mem_map.1 hx
      rfl)
  have e2 : atX (mL (downN k)) i = some (((k - 1 - i : Nat) : Int), 1) := by
    unfold atX
    rw [e, List.getElem?_map, downN_at k i h]
    rfl
  simp [e2]
set_option maxHeartbeats 8000000 in
set_option maxRecDepth 100000 in
theorem core (ao : Option Addr) (ca : Nat) (l : List Int) (many : Int) (w : World) (hr : FRow w ao (flatI l)) (hl : l.length * 8 ≤ 140737488351232) :
    Calls Try.prog 8 #[.int .i64 many, .slice ao l.length ca] w fun e w' => e = .returned (.bool true) ∧ Below w.heap.size w w' := by
  have HP : Hid (FRow w ao (flatI l)) := hr
  obtain ⟨k0, hk0, ek0⟩ : ∃ k : Nat, k < 8 ∧ wrap64 ((IntKind.u64.wrap many).tmod 8) = (k : Int) := mod_any many 8 (by omega) (by omega)
  obtain ⟨h, hh⟩ : ∃ h, w.heap.size = h := ⟨_, rfl⟩
  have HH : Hid (w.heap.size = h) := hh
  rw [hh]
  obtain ⟨K, hK⟩ : ∃ K, 1 + k0 = K := ⟨_, rfl⟩
  have eK : (1 : Int) + (k0 : Int) = (K : Int) := by omega
  have hK8 : K ≤ 8 := by omega
  clear hr hK
  go_enter Try.func8, Try.ntmps8
  go_wp2_with fail
  refine (awake10_any _).mono ?_
  rintro e w1 ⟨rfl, b1⟩
  have H1 : Hid (Below h w w1 ∧ h ≤ w1.heap.size) := ⟨hh ▸ b1, by have := b1.size; omega⟩
  clear b1 hh
  go_wp2_with fail
  simp only [ek0]
  clear ek0
  go_loopg [6, 7] K (fun m s6 s7 wr => ∃ (i : Nat) (lo : Option Addr) (lc : Nat), i + m = K ∧ s7 = .int .i64 (i : Nat) ∧ s6 = .slice lo i lc ∧ Hid (Below h w wr ∧ h ≤ wr.heap.size ∧ wr.ownsRow h 3 1 (.slice lo i lc) i (flatI (rI (List.range i)))))
  case atStart => exact ⟨0, none, 0, by omega, rfl, rfl, H1.out.1, H1.out.2, own_nil _ _ _ _⟩
  case round =>
    clear H1
    obtain ⟨i, lo, lc, hik, rfl, rfl, HS⟩ := hrel
    by_cases hi : i < K
    · obtain ⟨n2, hn2⟩ : ∃ n, wr.heap.size = n := ⟨_, rfl⟩
      have R2 : FRow (wr.alloc (.cells #[.int .i64 (i : Nat)] 3)) (some ⟨n2, 0, none⟩) [.int .i64 (i : Nat)] := frow_newAt hn2 [.int .i64 (i : Nat)] _
      have hsz2 : h ≤ wr.heap.size := HS.out.2.1
      go_wp2_with (first
        | (at_builtin
           refine wpList_onto rfl _ _ 28 rfl Try.underlying28 Try.infoSeen rfl (by decide) (by decide) (B := h) rfl rfl (own_later HS.out.2.2 ((Below.refl _ _).alloc (Nat.le_refl _) _)) R2 rfl (fun u hu => oneI (l := [(i : Int)]) (by simpa [flatI] using hu)) (by omega) (by simp; omega) ?_
           intro ao3 ca3 w3 o3 n3 b3
           have H3 : Hid (Below h w w3 ∧ h ≤ w3.heap.size ∧ w3.ownsRow h 3 1 (.slice ao3 (i + 1) ca3) (i + 1) (flatI (rI (List.range (i + 1))))) := ⟨(HS.out.1.alloc hsz2 _).trans b3, by have := b3.size; simp at this; omega, by rw [rI_range]; exact o3⟩
           clear o3 n3 b3))
      go_roundg (gk - 1)
      case measure => omega
      case rel => exact ⟨i + 1, ao3, ca3, by omega, by go_num, rfl, H3.out⟩
    · obtain rfl : K = i := by omega
      have hlc : K ≤ lc := (own_cap HS.out.2.2).1
      obtain ⟨g, hg⟩ : ∃ g, wr.heap.size = g := ⟨_, rfl⟩
      have HG : Hid (h ≤ g) := by have := HS.out.2.1; show h ≤ g; omega
      have L0 : Hid (Mn w h g K 0 pl0 lo (List.range K) [] (wr.alloc (.cells (zl 3).toArray 30))) := by
        have hal : Below wr.heap.size wr (wr.alloc (.cells (zl 3).toArray 30)) := (Below.refl _ _).alloc (Nat.le_refl _) _
        have R : Regs h w wr [] := ⟨HS.out.1, HS.out.2.1⟩
        exact ⟨Regs.push R hg _ _, FOwn.nil _ _ _, (RowB.of_row (own_row HS.out.2.2).row (by omega)).later hal, many_start K, rfl⟩
      clear HS
      go_wp2_with fail
      generalize hW : wr.alloc (.cells (zl 3).toArray 30) = w2 at L0 ⊢
      clear hW hg
      go_loopg [6, 9, 10, 11, 12, 13] K (fun m s6 s9 _ _ _ _ wr => ∃ (i : Nat) (q : Pl) (lo : Option Addr) (ll lc : Nat) (left ns : List Nat), i + m = K ∧ s9 = .int .i64 (i : Nat) ∧ s6 = .slice lo ll lc ∧ (ll ≤ m ∧ m ≤ ll) ∧ ll ≤ lc ∧ Hid (Mn w h g K i q lo left ns wr ∧ left.length = ll))
      case atStart => exact ⟨0, pl0, lo, K, lc, List.range K, [], by omega, rfl, rfl, ⟨Nat.le_refl _, Nat.le_refl _⟩, hlc, L0.out, by simp⟩
      case round =>
        clear L0
        obtain ⟨i, q, lo, ll, lc, left, ns, him, rfl, rfl, ⟨hll1, hll2⟩, hlc, HS0⟩ := hrel
        by_cases h0 : 0 < ll
        · obtain ⟨a, ha, hA⟩ : ∃ a, a < ll ∧ Hid ((i < l.length → wrap64 ((IntKind.u64.wrap (l.getD i 0)).tmod (ll : Int)) = (a : Int)) ∧ (¬ i < l.length → a = 0)) := by
            by_cases hip : i < l.length
            · obtain ⟨a, h1, h2⟩ := mod_any (l.getD i 0) ll h0 (by omega)
              exact ⟨a, h1, fun _ => h2, fun h => absurd hip h⟩
            · exact ⟨0, h0, fun h => absurd h hip, fun _ => rfl⟩
          obtain ⟨lbk, loff, rfl, hlb, hlg, hcl⟩ : ∃ b off, lo = some ⟨b, off, none⟩ ∧ b < wr.heap.size ∧ b ≠ g ∧ Hid (∀ i u, (flatI (rI left))[i]? = some u → wr.cell? ⟨b, off + i, none⟩ = some u) := by
            obtain ⟨b, off, h1, h2, h3, h4⟩ := HS0.out.1.2.2.1 (by rw [flatI_len, rI_len, HS0.out.2]; omega)
            exact ⟨b, off, h1, h3, h2, h4⟩
          obtain ⟨x, hx⟩ : ∃ x, left[a]? = some x := ⟨_, List.getElem?_eq_getElem (by rw [HS0.out.2]; exact ha)⟩
          have hx8 : x < 8 := by have := many_len HS0.out.1.2.2.2.1 x (List.mem_of_getElem? hx); omega
          obtain ⟨v, hv⟩ : ∃ v, fS x = v := ⟨_, rfl⟩
          have HX : Hid (left[a]? = some x ∧ fS x = v ∧ left.length = ll ∧ Many K left ns ∧ i = ns.length) := ⟨hx, hv, HS0.out.2, HS0.out.1.2.2.2.1, HS0.out.1.2.2.2.2⟩
          have HM : Hid (okX (mL ns) ⟨(x : Int), 1, 1, v, false⟩ = true ∧ insL (mL ns) ⟨(x : Int), 1, 1, v, false⟩ (0, 0) = some (mL (insN x ns)) ∧ SmallX (mL ns) ∧ i = (mL ns).length ∧ i + 1 = (mL (insN x ns)).length ∧ Many K (left.take a ++ left.drop (a + 1)) (insN x ns) ∧ i + 1 = (insN x ns).length) := by
            obtain ⟨h1, h2, h3, h4, h5⟩ := HX.out
            obtain ⟨k1, k2, k3⟩ := many_step h4 h1
            subst h2
            exact ⟨ok_m (k := K) hx8 k2, ins_many fS x ns, small_m h4 hK8 (by omega), by simp [h5], by simp [insN_len, h5], k3, by rw [insN_len, h5]⟩
          have HV : Hid (x < 9223372036854775808 ∧ (⟨(Lib.decDigits x).toArray⟩ : ByteArray) = v) := ⟨by omega, hv⟩
          obtain ⟨B, hB⟩ : ∃ B, wr.heap.size = B := ⟨_, rfl⟩
          have hgB : g < B := by rw [← hB]; exact HS0.out.1.1.1.1
          have hlbB : lbk < B := by omega
          have cx : wr.cell? ⟨lbk, loff + a, none⟩ = some (.int .i64 (x : Nat)) := hcl.out _ _ (rI_at hx)
          have HSr : Hid (SrcL wr B g i q (mL ns) lbk (loff + a) (.int .i64 (x : Nat)) lbk (loff + a) (.int .i64 (x : Nat))) := ⟨hB, HS0.out.1.1.1, HS0.out.1.2.1.row, hlbB, cx, hlbB, cx⟩
          have HB : Hid (wr.heap.size = B) := hB
          have HW : Hid (Mn w h g K i q (some ⟨lbk, loff, none⟩) left ns wr) := HS0.out.1
          have hz0 : B ≤ wr.heap.size := by omega
          have hzd : B ≤ wr.drew.heap.size := hz0
          have hd : decide ((0 : Int) < (ll : Int)) = true := by simp; omega
          have hpos : (0 : Int) < (ll : Int) := by omega
          have hea : (a : Int) < (ll : Int) := by omega
          have hea2 : (a : Int) ≤ (ll : Int) := by omega
          have hea3 : (a : Int) ≤ (lc : Int) := by omega
          have hea0 : (0 : Int) ≤ (a : Int) := by omega
          clear hB HS0 hx hv hlb cx
          by_cases hip : i < l.length
          · obtain ⟨pb, po, rfl, hpb, hpc⟩ := HP.out (by rw [flatI_len]; omega)
            obtain ⟨pk, hpk⟩ : ∃ p, l.getD i 0 = p := ⟨_, rfl⟩
            have er := hA.out.1 hip
            rw [hpk] at er
            have c0 : wr.cell? ⟨pb, po + i, none⟩ = some (.int .i64 pk) := (HW.out.1.base.1.cell (p := ⟨pb, po + i, none⟩) (by rw [← HH.out]; exact hpb)).trans (hpc _ _ (by
              have h5 : l[i]? = some l[i] := List.getElem?_eq_getElem hip
              rw [flatI_at l i h5, ← hpk]
              simp [List.getD, h5]))
            have hdi : decide ((i : Int) < (l.length : Int)) = true := by simp; omega
            clear hpc hpk hA hpb
            go_upto_region 16 with fail
            try simp only [er]
            clear c0 er hdi
            go_cut [11, 12] from 55 to 70 (fun p e wx => ∃ (kc : Nat) (q' : Pl), p = .pointer (some ⟨kc, 0, none⟩) ∧ e = .int .i64 0 ∧ Hid (EndL wr B (i + 1) (mL (insN x ns)) kc q' wx))
            case first =>
              go_region_held3 (HeldL wr B g i q lbk (loff + a) (.int .i64 (x : Nat)) lbk (loff + a) (.int .i64 (x : Nat))) (first | (with_reducible apply heldL_later HSr.out hb2; assumption) | with_reducible apply heldL_put HSr.out T6 (by assumption) | (with_reducible apply heldL_swap HSr.out (by omega) (by assumption)) | (with_reducible exact heldL_drew HSr.out) | (with_reducible exact heldL_first HSr.out _) | (with_reducible apply heldL_alloc HSr.out _ (by assumption)))
                (first
                  | (go_at_call 27; with_reducible refine (deci_v x v HV.out.1 HV.out.2 _).mono ?_; rintro r w3 ⟨rfl, hb2⟩; have hz := hb2.size; first | (with_reducible have T6 := nineT_newd (B := B) (by omega) hb2; obtain ⟨y0, y1, y2, y3, y4, y5, y6, y7, y8, y9⟩ := nineT_ten T6; obtain ⟨z0, z1, z2, z3, z4, z5, z6, z7, z8, z9⟩ := nineT_tenf T6) | (with_reducible have T6 := nineT_new (B := B) (by omega) hb2; obtain ⟨y0, y1, y2, y3, y4, y5, y6, y7, y8, y9⟩ := nineT_ten T6; obtain ⟨z0, z1, z2, z3, z4, z5, z6, z7, z8, z9⟩ := nineT_tenf T6) | (with_reducible replace T6 := nineT_later T6 hb2; obtain ⟨y0, y1, y2, y3, y4, y5, y6, y7, y8, y9⟩ := nineT_ten T6; obtain ⟨z0, z1, z2, z3, z4, z5, z6, z7, z8, z9⟩ := nineT_tenf T6) | skip)
                  | (go_at_call 25; with_reducible refine (elem_any _ _ _ _ _).mono ?_; rintro r w3 ⟨rfl, hb2⟩; have hz := hb2.size; first | (with_reducible have T6 := nineT_newd (B := B) (by omega) hb2; obtain ⟨y0, y1, y2, y3, y4, y5, y6, y7, y8, y9⟩ := nineT_ten T6; obtain ⟨z0, z1, z2, z3, z4, z5, z6, z7, z8, z9⟩ := nineT_tenf T6) | (with_reducible have T6 := nineT_new (B := B) (by omega) hb2; obtain ⟨y0, y1, y2, y3, y4, y5, y6, y7, y8, y9⟩ := nineT_ten T6; obtain ⟨z0, z1, z2, z3, z4, z5, z6, z7, z8, z9⟩ := nineT_tenf T6) | (with_reducible replace T6 := nineT_later T6 hb2; obtain ⟨y0, y1, y2, y3, y4, y5, y6, y7, y8, y9⟩ := nineT_ten T6; obtain ⟨z0, z1, z2, z3, z4, z5, z6, z7, z8, z9⟩ := nineT_tenf T6) | skip)
                  | (go_at_call 10; with_reducible refine (ins_atL (e := ⟨(x : Int), 1, 1, v, false⟩) (d := (0, 0)) (m := mL (insN x ns)) (n' := i + 1) HSr.out (by assumption) HM.out.2.2.2.1 HM.out.2.2.1 HM.out.1 HM.out.2.1 HM.out.2.2.2.2.1).mono ?_; rintro r w3 ⟨q', rfl, O3, hC3, hb2⟩; have hz := hb2.size; first | (with_reducible have T6 := nineT_newd (B := B) (by omega) hb2; obtain ⟨y0, y1, y2, y3, y4, y5, y6, y7, y8, y9⟩ := nineT_ten T6; obtain ⟨z0, z1, z2, z3, z4, z5, z6, z7, z8, z9⟩ := nineT_tenf T6) | (with_reducible have T6 := nineT_new (B := B) (by omega) hb2; obtain ⟨y0, y1, y2, y3, y4, y5, y6, y7, y8, y9⟩ := nineT_ten T6; obtain ⟨z0, z1, z2, z3, z4, z5, z6, z7, z8, z9⟩ := nineT_tenf T6) | (with_reducible replace T6 := nineT_later T6 hb2; obtain ⟨y0, y1, y2, y3, y4, y5, y6, y7, y8, y9⟩ := nineT_ten T6; obtain ⟨z0, z1, z2, z3, z4, z5, z6, z7, z8, z9⟩ := nineT_tenf T6) | skip))
              all_goals
                (go_wp2_with fail
                 go_meet
                 case rel =>
                   (first
                     | (have E7 := endL_put (w1 := wr) (l' := mL (insN x ns)) T6 O3 (by assumption); exact ⟨_, q', rfl, rfl, E7⟩)
                     | (have E7 := endL_new (w1 := wr) (W := w3) (B := B) (l' := mL (insN x ns)) 30 hC3 (by omega) O3 (by assumption); exact ⟨_, q', rfl, rfl, E7⟩)))
            case rest =>
              obtain ⟨w3, rfl⟩ : ∃ z, z = wc := ⟨_, rfl⟩
              obtain ⟨kc, q', rfl, rfl, HE⟩ := hcut
              have H3 : Hid (g + 1 ≤ B ∧ B ≤ kc ∧ Has w3 kc (llL (i + 1) q') ∧ Has w3 g (llL i q) ∧ FOwn B w3 q'.lo (flatL (mL (insN x ns))) ∧ Below h w w3 ∧ RowB g w3 (some ⟨lbk, loff, none⟩) (flatI (rI left))) := by
                have hb := HE.out.2.2.2
                have K := HW.out.1.fit HB.out hb
                exact ⟨by omega, HE.out.1, HE.out.2.1, K.1, HE.out.2.2.1, K.base.1, HW.out.2.2.1.later (HB.out.symm ▸ hb)⟩
              have hkc : g < kc := by have := H3.out.2.1; omega
              clear HSr HB HE HW hz0 hzd hgB hlbB hcl
              obtain ⟨t0, t1, t2, t3, t4, t5, t6, t7, t8, t9⟩ := H3.out.2.2.1.ten
              obtain ⟨y0, y1, y2, y3, y4, y5, y6, y7, y8, y9⟩ := H3.out.2.2.2.1.ten
              obtain ⟨z0, z1, z2, z3, z4, z5, z6, z7, z8, z9⟩ := H3.out.2.2.2.1.tenf
              have H4 : Hid (Regs h w (put10 w3 g (.int .i64 3) (.bool false) (.int .i64 0) (.int .i64 0) (.string ⟨#[]⟩) (.int .i64 0) (.int .i64 0) (.slice q'.eo 0 q'.ec) (.slice q'.lo (i + 1) q'.lc) (.slice q'.so 0 q'.sc)) [(g, llL (i + 1) q')] ∧ FOwn (g + 1) (put10 w3 g (.int .i64 3) (.bool false) (.int .i64 0) (.int .i64 0) (.string ⟨#[]⟩) (.int .i64 0) (.int .i64 0) (.slice q'.eo 0 q'.ec) (.slice q'.lo (i + 1) q'.lc) (.slice q'.so 0 q'.sc)) q'.lo (flatL (mL (insN x ns))) ∧ RowB g (put10 w3 g (.int .i64 3) (.bool false) (.int .i64 0) (.int .i64 0) (.string ⟨#[]⟩) (.int .i64 0) (.int .i64 0) (.slice q'.eo 0 q'.ec) (.slice q'.lo (i + 1) q'.lc) (.slice q'.so 0 q'.sc)) (some ⟨lbk, loff, none⟩) (flatI (rI left))) := by
                obtain ⟨h1, h2, h3, h4, h7, h8, h9⟩ := H3.out
                have K := roundL (L := []) (n' := i + 1) (q' := q') h4 ⟨h8, by have := h4.1; have := HG.out; omega⟩ h7 HG.out (by omega) (fun e he => by simp at he)
                exact ⟨K.1, (h7.put10 (by omega) _ _ _ _ _ _ _ _ _ _).mono h1, h9.put10 _ _ _ _ _ _ _ _ _ _⟩
              go_upto_region 20 with (go_at_call 21; refine (num_any _ _).mono ?_; rintro e w0 ⟨rfl, hw0⟩; have hw1 := hw0.symm; clear hw0; subst hw1)
              dsimp only [put10] at H4
              clear t0 t1 t2 t3 t4 t5 t6 t7 t8 t9 y0 y1 y2 y3 y4 y5 y6 y7 y8 y9 z0 z1 z2 z3 z4 z5 z6 z7 z8 z9
              generalize hW : World.setCell _ (⟨g, 9, none⟩ : Addr) _ = w4 at H4 ⊢
              clear hW H3
              obtain ⟨n1, hn1⟩ : ∃ n, w4.heap.size = n := ⟨_, rfl⟩
              have hgn : g < n1 := by have := H4.out.1.1.1; omega
              have ROW1 : Hid (FRow (w4.alloc (.cells #[] 3)) (some ⟨lbk, loff, none⟩) (flatI (rI (left.take a)))) := frow_takeI (H4.out.2.2.row.later ((Below.refl _ _).alloc (Nat.le_refl _) _)) a
              have HO : Hid ((w4.alloc (.cells #[] 3)).ownsRow n1 3 1 (.slice (some ⟨n1, 0, none⟩) 0 0) 0 []) := own_empty hn1
              have hlk : (flatI (rI (left.take a))).length = a * 1 := by rw [flatI_len, rI_len, List.length_take, HX.out.2.2.1]; omega
              have H4n : Hid (w4.heap.size = n1) := hn1
              go_upto_region 21 with (first
                | (at_builtin
                   refine wpList_onto rfl _ _ 28 rfl Try.underlying28 Try.infoSeen rfl (by decide) (by decide) (B := n1) rfl rfl HO.out ROW1.out hlk (fun u hu => oneI hu) (by omega) (by simp [hn1]) ?_
                   intro ao1 ca1 w5 o5 n5 b5
                   simp only [Nat.zero_add, List.nil_append] at o5 ⊢
                   have H5 : Hid (Below n1 w4 w5 ∧ w5.ownsRow n1 3 1 (.slice ao1 a ca1) a (flatI (rI (left.take a)))) := ⟨((Below.refl _ _).alloc (by omega) _).trans b5, o5⟩
                   clear o5 n5 b5))
              have hs5 : n1 ≤ w5.heap.size := by have := H5.out.1.size; have := H4n.out; omega
              have HR5 : Hid (FRow w5 (some ⟨lbk, loff, none⟩) (flatI (rI left))) := (H4.out.2.2.later (H4n.out.symm ▸ H5.out.1)).row
              clear ROW1 HO hlk hn1
              have hld : (flatI (rI (left.drop (a + 1)))).length = (ll - (a + 1)) * 1 := by rw [flatI_len, rI_len, List.length_drop, HX.out.2.2.1]
              by_cases hck : lc = a + 1
              all_goals
                (go_wp2_with (first
                  | (at_builtin
                     refine wpList_onto rfl _ _ 28 rfl Try.underlying28 Try.infoSeen rfl (by decide) (by decide) (B := n1) rfl rfl H5.out.2 (by first | exact frow_dropI HR5.out (a + 1) | exact frow_nilI (by rw [HX.out.2.2.1]; omega)) hld (fun u hu => oneI hu) (by omega) hs5 ?_
                     intro ao2 ca2 w6 o6 n6 b6
                     have H6 : Hid (Mn w h g K (i + 1) q' ao2 (left.take a ++ left.drop (a + 1)) (insN x ns) w6 ∧ (left.take a ++ left.drop (a + 1)).length = a + (ll - (a + 1)) ∧ a + (ll - (a + 1)) ≤ ca2) := by
                       have hb : Below w4.heap.size w4 w6 := H4n.out.symm ▸ (H5.out.1.trans b6)
                       rw [← rI_app] at o6
                       exact ⟨⟨H4.out.1.later hb, H4.out.2.1.later hb, RowB.of_own (own_row o6) hgn, HM.out.2.2.2.2.2.1, HM.out.2.2.2.2.2.2⟩, by rw [List.length_append, List.length_take, List.length_drop, HX.out.2.2.1]; omega, (own_cap o6).1⟩
                     clear o6 n6 b6))
                 have hl6 := H6.out.2.2
                 go_roundg (gk - 1)
                 case measure => omega
                 case rel => exact ⟨i + 1, q', ao2, a + (ll - (a + 1)), ca2, left.take a ++ left.drop (a + 1), insN x ns, by omega, by go_num, (by first | rfl | (congr 1; omega)), by omega, hl6, H6.out.1, H6.out.2.1⟩)
          · have ea : a = 0 := hA.out.2 hip
            subst ea
            have hdi : decide ((i : Int) < (l.length : Int)) = false := by simp; omega
            simp only [Nat.add_zero] at HSr
            clear hA
            go_upto_region 16 with fail
            clear hdi
            go_cut [11, 12] from 55 to 70 (fun p e wx => ∃ (kc : Nat) (q' : Pl), p = .pointer (some ⟨kc, 0, none⟩) ∧ e = .int .i64 0 ∧ Hid (EndL wr B (i + 1) (mL (insN x ns)) kc q' wx))
            case first =>
              go_region_held3 (HeldL wr B g i q lbk loff (.int .i64 (x : Nat)) lbk loff (.int .i64 (x : Nat))) (first | (with_reducible apply heldL_later HSr.out hb2; assumption) | with_reducible apply heldL_put HSr.out T6 (by assumption) | (with_reducible apply heldL_swap HSr.out (by omega) (by assumption)) | (with_reducible exact heldL_drew HSr.out) | (with_reducible exact heldL_first HSr.out _) | (with_reducible apply heldL_alloc HSr.out _ (by assumption)))
                (first
                  | (go_at_call 27; with_reducible refine (deci_v x v HV.out.1 HV.out.2 _).mono ?_; rintro r w3 ⟨rfl, hb2⟩; have hz := hb2.size; first | (with_reducible have T6 := nineT_newd (B := B) (by omega) hb2; obtain ⟨y0, y1, y2, y3, y4, y5, y6, y7, y8, y9⟩ := nineT_ten T6; obtain ⟨z0, z1, z2, z3, z4, z5, z6, z7, z8, z9⟩ := nineT_tenf T6) | (with_reducible have T6 := nineT_new (B := B) (by omega) hb2; obtain ⟨y0, y1, y2, y3, y4, y5, y6, y7, y8, y9⟩ := nineT_ten T6; obtain ⟨z0, z1, z2, z3, z4, z5, z6, z7, z8, z9⟩ := nineT_tenf T6) | (with_reducible replace T6 := nineT_later T6 hb2; obtain ⟨y0, y1, y2, y3, y4, y5, y6, y7, y8, y9⟩ := nineT_ten T6; obtain ⟨z0, z1, z2, z3, z4, z5, z6, z7, z8, z9⟩ := nineT_tenf T6) | skip)
                  | (go_at_call 25; with_reducible refine (elem_any _ _ _ _ _).mono ?_; rintro r w3 ⟨rfl, hb2⟩; have hz := hb2.size; first | (with_reducible have T6 := nineT_newd (B := B) (by omega) hb2; obtain ⟨y0, y1, y2, y3, y4, y5, y6, y7, y8, y9⟩ := nineT_ten T6; obtain ⟨z0, z1, z2, z3, z4, z5, z6, z7, z8, z9⟩ := nineT_tenf T6) | (with_reducible have T6 := nineT_new (B := B) (by omega) hb2; obtain ⟨y0, y1, y2, y3, y4, y5, y6, y7, y8, y9⟩ := nineT_ten T6; obtain ⟨z0, z1, z2, z3, z4, z5, z6, z7, z8, z9⟩ := nineT_tenf T6) | (with_reducible replace T6 := nineT_later T6 hb2; obtain ⟨y0, y1, y2, y3, y4, y5, y6, y7, y8, y9⟩ := nineT_ten T6; obtain ⟨z0, z1, z2, z3, z4, z5, z6, z7, z8, z9⟩ := nineT_tenf T6) | skip)
                  | (go_at_call 10; with_reducible refine (ins_atL (e := ⟨(x : Int), 1, 1, v, false⟩) (d := (0, 0)) (m := mL (insN x ns)) (n' := i + 1) HSr.out (by assumption) HM.out.2.2.2.1 HM.out.2.2.1 HM.out.1 HM.out.2.1 HM.out.2.2.2.2.1).mono ?_; rintro r w3 ⟨q', rfl, O3, hC3, hb2⟩; have hz := hb2.size; first | (with_reducible have T6 := nineT_newd (B := B) (by omega) hb2; obtain ⟨y0, y1, y2, y3, y4, y5, y6, y7, y8, y9⟩ := nineT_ten T6; obtain ⟨z0, z1, z2, z3, z4, z5, z6, z7, z8, z9⟩ := nineT_tenf T6) | (with_reducible have T6 := nineT_new (B := B) (by omega) hb2; obtain ⟨y0, y1, y2, y3, y4, y5, y6, y7, y8, y9⟩ := nineT_ten T6; obtain ⟨z0, z1, z2, z3, z4, z5, z6, z7, z8, z9⟩ := nineT_tenf T6) | (with_reducible replace T6 := nineT_later T6 hb2; obtain ⟨y0, y1, y2, y3, y4, y5, y6, y7, y8, y9⟩ := nineT_ten T6; obtain ⟨z0, z1, z2, z3, z4, z5, z6, z7, z8, z9⟩ := nineT_tenf T6) | skip))
              all_goals
                (go_wp2_with fail
                 go_meet
                 case rel =>
                   (first
                     | (have E7 := endL_put (w1 := wr) (l' := mL (insN x ns)) T6 O3 (by assumption); exact ⟨_, q', rfl, rfl, E7⟩)
                     | (have E7 := endL_new (w1 := wr) (W := w3) (B := B) (l' := mL (insN x ns)) 30 hC3 (by omega) O3 (by assumption); exact ⟨_, q', rfl, rfl, E7⟩)))
            case rest =>
              obtain ⟨w3, rfl⟩ : ∃ z, z = wc := ⟨_, rfl⟩
              obtain ⟨kc, q', rfl, rfl, HE⟩ := hcut
              have H3 : Hid (g + 1 ≤ B ∧ B ≤ kc ∧ Has w3 kc (llL (i + 1) q') ∧ Has w3 g (llL i q) ∧ FOwn B w3 q'.lo (flatL (mL (insN x ns))) ∧ Below h w w3 ∧ RowB g w3 (some ⟨lbk, loff, none⟩) (flatI (rI left))) := by
                have hb := HE.out.2.2.2
                have K := HW.out.1.fit HB.out hb
                exact ⟨by omega, HE.out.1, HE.out.2.1, K.1, HE.out.2.2.1, K.base.1, HW.out.2.2.1.later (HB.out.symm ▸ hb)⟩
              have hkc : g < kc := by have := H3.out.2.1; omega
              clear HSr HB HE HW hz0 hzd hgB hlbB hcl
              obtain ⟨t0, t1, t2, t3, t4, t5, t6, t7, t8, t9⟩ := H3.out.2.2.1.ten
              obtain ⟨y0, y1, y2, y3, y4, y5, y6, y7, y8, y9⟩ := H3.out.2.2.2.1.ten
              obtain ⟨z0, z1, z2, z3, z4, z5, z6, z7, z8, z9⟩ := H3.out.2.2.2.1.tenf
              have H4 : Hid (Regs h w (put10 w3 g (.int .i64 3) (.bool false) (.int .i64 0) (.int .i64 0) (.string ⟨#[]⟩) (.int .i64 0) (.int .i64 0) (.slice q'.eo 0 q'.ec) (.slice q'.lo (i + 1) q'.lc) (.slice q'.so 0 q'.sc)) [(g, llL (i + 1) q')] ∧ FOwn (g + 1) (put10 w3 g (.int .i64 3) (.bool false) (.int .i64 0) (.int .i64 0) (.string ⟨#[]⟩) (.int .i64 0) (.int .i64 0) (.slice q'.eo 0 q'.ec) (.slice q'.lo (i + 1) q'.lc) (.slice q'.so 0 q'.sc)) q'.lo (flatL (mL (insN x ns))) ∧ RowB g (put10 w3 g (.int .i64 3) (.bool false) (.int .i64 0) (.int .i64 0) (.string ⟨#[]⟩) (.int .i64 0) (.int .i64 0) (.slice q'.eo 0 q'.ec) (.slice q'.lo (i + 1) q'.lc) (.slice q'.so 0 q'.sc)) (some ⟨lbk, loff, none⟩) (flatI (rI left))) := by
                obtain ⟨h1, h2, h3, h4, h7, h8, h9⟩ := H3.out
                have K := roundL (L := []) (n' := i + 1) (q' := q') h4 ⟨h8, by have := h4.1; have := HG.out; omega⟩ h7 HG.out (by omega) (fun e he => by simp at he)
                exact ⟨K.1, (h7.put10 (by omega) _ _ _ _ _ _ _ _ _ _).mono h1, h9.put10 _ _ _ _ _ _ _ _ _ _⟩
              go_upto_region 20 with (go_at_call 21; refine (num_any _ _).mono ?_; rintro e w0 ⟨rfl, hw0⟩; have hw1 := hw0.symm; clear hw0; subst hw1)
              dsimp only [put10] at H4
              clear t0 t1 t2 t3 t4 t5 t6 t7 t8 t9 y0 y1 y2 y3 y4 y5 y6 y7 y8 y9 z0 z1 z2 z3 z4 z5 z6 z7 z8 z9
              generalize hW : World.setCell _ (⟨g, 9, none⟩ : Addr) _ = w4 at H4 ⊢
              clear hW H3
              obtain ⟨n1, hn1⟩ : ∃ n, w4.heap.size = n := ⟨_, rfl⟩
              have hgn : g < n1 := by have := H4.out.1.1.1; omega
              have ROW1 : Hid (FRow (w4.alloc (.cells #[] 3)) (some ⟨lbk, loff, none⟩) (flatI (rI (left.take 0)))) := frow_takeI (H4.out.2.2.row.later ((Below.refl _ _).alloc (Nat.le_refl _) _)) 0
              have HO : Hid ((w4.alloc (.cells #[] 3)).ownsRow n1 3 1 (.slice (some ⟨n1, 0, none⟩) 0 0) 0 []) := own_empty hn1
              have hlk : (flatI (rI (left.take 0))).length = 0 * 1 := by rw [flatI_len, rI_len, List.length_take, HX.out.2.2.1]; omega
              have H4n : Hid (w4.heap.size = n1) := hn1
              go_upto_region 21 with (first
                | (at_builtin
                   refine wpList_onto rfl _ _ 28 rfl Try.underlying28 Try.infoSeen rfl (by decide) (by decide) (B := n1) rfl rfl HO.out ROW1.out hlk (fun u hu => oneI hu) (by omega) (by simp [hn1]) ?_
                   intro ao1 ca1 w5 o5 n5 b5
                   simp only [Nat.zero_add, List.nil_append] at o5 ⊢
                   have H5 : Hid (Below n1 w4 w5 ∧ w5.ownsRow n1 3 1 (.slice ao1 0 ca1) 0 (flatI (rI (left.take 0)))) := ⟨((Below.refl _ _).alloc (by omega) _).trans b5, o5⟩
                   clear o5 n5 b5))
              have hs5 : n1 ≤ w5.heap.size := by have := H5.out.1.size; have := H4n.out; omega
              have HR5 : Hid (FRow w5 (some ⟨lbk, loff, none⟩) (flatI (rI left))) := (H4.out.2.2.later (H4n.out.symm ▸ H5.out.1)).row
              clear ROW1 HO hlk hn1
              have hld : (flatI (rI (left.drop (1)))).length = (ll - (1)) * 1 := by rw [flatI_len, rI_len, List.length_drop, HX.out.2.2.1]
              by_cases hck : lc = 1
              all_goals
                (go_wp2_with (first
                  | (at_builtin
                     refine wpList_onto rfl _ _ 28 rfl Try.underlying28 Try.infoSeen rfl (by decide) (by decide) (B := n1) rfl rfl H5.out.2 (by first | exact frow_dropI HR5.out (1) | exact frow_nilI (by rw [HX.out.2.2.1]; omega)) hld (fun u hu => oneI hu) (by omega) hs5 ?_
                     intro ao2 ca2 w6 o6 n6 b6
                     have H6 : Hid (Mn w h g K (i + 1) q' ao2 (left.take 0 ++ left.drop (1)) (insN x ns) w6 ∧ (left.take 0 ++ left.drop (1)).length = 0 + (ll - 1) ∧ 0 + (ll - 1) ≤ ca2) := by
                       have hb : Below w4.heap.size w4 w6 := H4n.out.symm ▸ (H5.out.1.trans b6)
                       rw [← rI_app] at o6
                       exact ⟨⟨H4.out.1.later hb, H4.out.2.1.later hb, RowB.of_own (own_row o6) hgn, HM.out.2.2.2.2.2.1, HM.out.2.2.2.2.2.2⟩, by rw [List.length_append, List.length_take, List.length_drop, HX.out.2.2.1]; omega, (own_cap o6).1⟩
                     clear o6 n6 b6))
                 have hl6 := H6.out.2.2
                 go_roundg (gk - 1)
                 case measure => omega
                 case rel => exact ⟨i + 1, q', ao2, 0 + (ll - 1), ca2, left.take 0 ++ left.drop (1), insN x ns, by omega, by go_num, (by first | rfl | (congr 1; omega)), by omega, hl6, H6.out.1, H6.out.2.1⟩)
        · obtain rfl : ll = 0 := by omega
          obtain rfl : K = i := by omega
          have HE0 : Hid (Regs h w wr [(g, llL K q)] ∧ FRow wr q.lo (flatL (mL (downN K))) ∧ SmallX (mL (downN K)) ∧ K = (mL (downN K)).length) := by
            have e0 : left = [] := List.eq_nil_of_length_eq_zero HS0.out.2
            have hm := HS0.out.1.2.2.2.1
            rw [e0] at hm
            have e1 := many_end hm
            have h5 := HS0.out.1.2.2.2.2
            have h6 := HS0.out.1.2.1
            rw [e1] at hm h5 h6
            exact ⟨HS0.out.1.1, h6.row, small_m hm hK8 (by omega), by simp [downN_len]⟩
          clear HS0 hll1 hll2
          obtain ⟨t0, t1, t2, t3, t4, t5, t6, t7, t8, t9⟩ := (show Has _ g (llL K q) from HE0.out.1.1).ten
          go_wp2_with fail
          refine (valx_yes (l := mL (downN K)) (q := q) _ ((downN K).map fS) K K HE0.out.2.2.2 HE0.out.2.1 HE0.out.2.2.1 (vals_m K) (by simp [downN_len])).mono ?_
          rintro e x6 ⟨vo, cv, rfl, o6, b6⟩
          have G6 : Hid (Regs h w x6 [(g, llL K q)] ∧ FRow x6 q.lo (flatL (mL (downN K))) ∧ FRow x6 vo (flatT ((downN K).map fS))) := ⟨HE0.out.1.later b6, HE0.out.2.1.later b6, o6.row⟩
          have HE1 : Hid (SmallX (mL (downN K)) ∧ K = (mL (downN K)).length) := HE0.out.2.2
          clear b6 o6 HE0 t0 t1 t2 t3 t4 t5 t6 t7 t8 t9
          go_wp2_with (go_at_call 21; refine (num_any _ _).mono ?_; rintro e w0 ⟨rfl, hw0⟩; have hw1 := hw0.symm; clear hw0; subst hw1)
          go_loopg [16, 17, 18] K (fun m s16 _ _ wr => ∃ i : Nat, i + m = K ∧ s16 = .int .i64 (i : Nat) ∧ Hid (Regs h w wr [(g, llL K q)] ∧ FRow wr q.lo (flatL (mL (downN K))) ∧ FRow wr vo (flatT ((downN K).map fS))))
          case atStart => exact ⟨0, by omega, rfl, G6.out⟩
          case round =>
            clear G6
            obtain ⟨i, hik, rfl, HS⟩ := hrel
            by_cases hi : i < K
            · obtain ⟨t0, t1, t2, t3, t4, t5, t6, t7, t8, t9⟩ := (show Has _ g (llL K q) from HS.out.1.1).ten
              obtain ⟨j, hj⟩ : ∃ j, K - 1 - i = j := ⟨_, rfl⟩
              have hja : (K : Int) - 1 - (i : Int) = (j : Int) := by omega
              have hj8 : j < 8 := by omega
              have HAt : Hid (atNum (mL (downN K)) (i : Int) = (((j : Int), 1), 0)) := by
                have := at_m hi
                rw [hj] at this
                exact this
              obtain ⟨v, hv⟩ : ∃ v, fS j = v := ⟨_, rfl⟩
              obtain ⟨vb, voff, rfl, hvb, hvc⟩ := HS.out.2.2 (by rw [flatT_len, List.length_map, downN_len]; omega)
              have cv0 : wr.cell? ⟨vb, voff + i, none⟩ = some (.string v) := hvc _ _ (flatT_at (by rw [List.getElem?_map, downN_at K i hi, hj, ← hv]; rfl))
              have HV : Hid (j < 9223372036854775808 ∧ (⟨(Lib.decDigits j).toArray⟩ : ByteArray) = v) := ⟨by omega, hv⟩
              have HC : Hid (vb < wr.heap.size ∧ wr.cell? ⟨vb, voff + i, none⟩ = some (.string v)) := ⟨hvb, cv0⟩
              clear hvc hv hvb cv0 hj
              go_wp2_with fail
              refine (ats_any _ (i : Int) K _ _ HE1.out.2 HS.out.2.1 HE1.out.1 HAt.out).mono ?_
              rintro e x7 ⟨rfl, b7⟩
              obtain ⟨k7, hk7⟩ : ∃ k, x7.heap.size = k := ⟨_, rfl⟩
              have G7 : Hid ((Regs h w (x7.alloc (.cells #[.int .i64 (j : Nat), .int .i64 1] 32)) [(g, llL K q)] ∧ FRow (x7.alloc (.cells #[.int .i64 (j : Nat), .int .i64 1] 32)) q.lo (flatL (mL (downN K))) ∧ FRow (x7.alloc (.cells #[.int .i64 (j : Nat), .int .i64 1] 32)) (some ⟨vb, voff, none⟩) (flatT ((downN K).map fS))) ∧ SrcM (x7.alloc (.cells #[.int .i64 (j : Nat), .int .i64 1] 32)) vb (voff + i) v k7 j) := by
                have hal : Below wr.heap.size wr (x7.alloc (.cells #[.int .i64 (j : Nat), .int .i64 1] 32)) := b7.alloc b7.size _
                refine ⟨⟨HS.out.1.later hal, HS.out.2.1.later hal, HS.out.2.2.later hal⟩, ⟨Nat.lt_of_lt_of_le HC.out.1 hal.size, (hal.cell (p := ⟨vb, voff + i, none⟩) (by exact HC.out.1)).trans HC.out.2, ?_⟩⟩
                exact hk7 ▸ has_new x7 [.int .i64 (j : Nat), .int .i64 1] _
              clear b7 HC t0 t1 t2 t3 t4 t5 t6 t7 t8 t9
              go_upto_region 30 with fail
              generalize hW : x7.alloc (.cells #[.int .i64 (j : Nat), .int .i64 1] 32) = x8 at G7 ⊢
              clear hW hk7
              have hS : Hid (SrcM x8 vb (voff + i) v k7 j) := G7.out.2
              have hi0 : (0 : Int) ≤ (i : Int) := by omega
              have hi1 : (i : Int) < (K : Int) := by omega
              have hi2 : (i : Int) ≤ (K : Int) := by omega
              have hw1 : IntKind.i64.wrap ((K : Int) - 1) = (K : Int) - 1 := by rw [IntKind.wrap_i64]; omega
              have hw2 : IntKind.i64.wrap (j : Int) = (j : Int) := by rw [IntKind.wrap_i64]; omega
              have hw3 : IntKind.i64.wrap ((K : Int) - 1 - (i : Int)) = (j : Int) := by rw [IntKind.wrap_i64]; omega
              go_region_held3 (HeldM x8 vb (voff + i) v k7 j) (first | (with_reducible apply heldM_later hS.out hb2; assumption) | (with_reducible exact heldM_drew hS.out) | (with_reducible assumption))
                (first
                  | (go_at_call 27; with_reducible refine (deci_v j v HV.out.1 HV.out.2 _).mono ?_; rintro r w3 ⟨rfl, hb2⟩)
                  | (go_at_call 21; with_reducible refine (num_any _ _).mono ?_; rintro r w0 ⟨rfl, hw0⟩; have hw1 := hw0.symm; clear hw0; subst hw1))
              all_goals
                (go_wp2
                 go_roundg (gk - 1)
                 case measure => omega
                 case rel =>
                   (have H8 := (show HeldM x8 vb (voff + i) v k7 j _ by assumption).1.out
                    exact ⟨i + 1, by omega, by go_num, G7.out.1.1.later H8, G7.out.1.2.1.later H8, G7.out.1.2.2.later H8⟩))
            · obtain rfl : K = i := by omega
              have hd : decide ((K : Int) < (K : Int)) = false := by simp
              go_wp2
              go_ret
              exact ⟨rfl, HS.out.1.base.1⟩

set_option maxRecDepth 100000 in
theorem walk {H : Type} {enc : TypeId × Value → H} {base : Nat} {d1 : DataW H} {p1 : List MemPlace} (many : Int) (v1 : Value) (w : World)
    (_ : (Lit.int .i64 many).wf = true) (o1 : Value.okWide Try.prog w .any base 28 v1) (h1 : DataW.Trod enc Try.prog w 0 (fun _ => true) true 28 v1 d1 p1) (z1 : ∀ n, n ∈ DataW.weights Try.prog 28 d1 → n ≤ reachBytes) :
    Calls Try.prog 8 #[.int .i64 many, v1] w fun e w' => e = .returned (.bool true) ∧ Below w.heap.size w w' := by
  obtain ⟨l, ao, ca, rfl, hr, hl⟩ := open_intsR o1 h1 z1
  exact core ao ca l many w hr hl

end Go.Proofs.Ytaakhpibdpgjpaa.RgaMany
