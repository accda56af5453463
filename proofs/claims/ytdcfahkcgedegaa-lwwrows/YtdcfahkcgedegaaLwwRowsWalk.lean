/-
  The walk of the law LwwRows, at whatever row of stamps: whatever the order, the latest write stays.
-/
import Derived.Test.YtdcfahkcgedegaaLwHeld
import Derived.Deep.Cut
import Derived.Deep.CutBlock
import Derived.BigQuiet
namespace Go.Proofs.Ytdcfahkcgedegaa.LwwRows
open Go.RowKit
set_option linter.unusedVariables false
set_option linter.unusedSimpArgs false

/-- What the first loop keeps. -/
def Row (w0 : World) (h n : Nat) (v : Value) (wr : World) : Prop :=
  ∃ U : List P2, U.length = n ∧ (∀ p ∈ U, Fine p) ∧ wr.ownsRow h 23 2 v U.length (flat U) ∧ Below h w0 wr ∧ h ≤ wr.heap.size

/-- What the loop in it keeps. -/
def Inn (w0 : World) (h k : Nat) (x y : Int) (v : Value) (U : List P2) (wr : World) : Prop :=
  wr.ownsRow h 23 2 v U.length (flat U) ∧ Below h w0 wr ∧ h ≤ wr.heap.size ∧ Has wr k [.int .i64 x, .int .i64 y]

theorem Inn.drew {w0 : World} {h k : Nat} {x y : Int} {v : Value} {U : List P2} {wr : World} (H : Inn w0 h k x y v U wr) : Inn w0 h k x y v U wr.drew :=
  ⟨H.1.drew, H.2.1.drew, H.2.2.1, H.2.2.2.later (Below.refl _ _).drew⟩

theorem Inn.drewN {w0 : World} {h k : Nat} {x y : Int} {v : Value} {U : List P2} {wr : World} (H : Inn w0 h k x y v U wr) : ∀ n, Inn w0 h k x y v U (wr.drewN n)
  | 0 => H
  | n + 1 => (H.drewN n).drew

theorem inn_start {w0 : World} {h k : Nat} {x y : Int} {v : Value} {U : List P2} {wr : World} {t : TypeId} (h1 : wr.ownsRow h 23 2 v U.length (flat U)) (h2 : Below h w0 wr) (h3 : h ≤ wr.heap.size) (hk : wr.heap.size = k) :
    Inn w0 h k x y v U (wr.alloc (.cells #[.int .i64 x, .int .i64 y] t)) :=
  ⟨h1.alloc _, h2.alloc h3 _, by simp; omega, hk ▸ has_new wr [.int .i64 x, .int .i64 y] t⟩

theorem fine_of {x y : Nat} (hx : x < 1024) (hy : y < 16) : Fine ((1 + (x : Int)), (y : Int)) := ⟨by simp; omega, by simp; omega, by simp, by simp; omega⟩

/-- What the third loop keeps: both cells at the latest of what was written, and the latest itself. -/
def Inv (wz : World) (g : Nat) (U : List P2) (i : Nat) (wr : World) : Prop :=
  ∃ s T N v s' T' N' v', Let (mx (U.take i)) s T N v ∧ Let (mx (U.reverse.take i)) s' T' N' v' ∧ Regs g wz wr [(g + 2, [.int .i64 T, .int .i64 N]), (g + 1, gl s' T' N' v'), (g, gl s T N v)]

theorem inv_start {g : Nat} {U : List P2} {wr : World} {t1 t2 t3 : TypeId} (hg : wr.heap.size = g) :
    Inv wr g U 0 (((wr.alloc (.cells (zl 0).toArray t1)).alloc (.cells (zl 0).toArray t2)).alloc (.cells #[.int .i64 0, .int .i64 0] t3)) := by
  refine ⟨false, 0, 0, ⟨#[]⟩, false, 0, 0, ⟨#[]⟩, ⟨rfl, rfl, rfl, rfl⟩, ⟨rfl, rfl, rfl, rfl⟩, ?_⟩
  exact Regs.push (g := g + 2) (Regs.push (g := g + 1) (Regs.push (L := []) ⟨Below.refl _ _, by omega⟩ hg (zl 0) t1) (by simp [hg]) (zl 0) t2) (by simp [hg]) [.int .i64 0, .int .i64 0] t3

/-- What a round keeps: the two stamps besides. -/
def Rnd (wz : World) (g kx ky : Nat) (X Y X2 Y2 : Nat) (s : Bool) (T N : Int) (v : ByteArray) (s' : Bool) (T' N' : Int) (v' : ByteArray) (wr : World) : Prop :=
  g + 2 < kx ∧ g + 2 < ky ∧ Regs g wz wr [(kx, [.int .i64 X, .int .i64 Y]), (ky, [.int .i64 X2, .int .i64 Y2]), (g + 2, [.int .i64 T, .int .i64 N]), (g + 1, gl s' T' N' v'), (g, gl s T N v)]

theorem rnd_start {wz : World} {g k : Nat} {X Y X2 Y2 : Nat} {s : Bool} {T N : Int} {v : ByteArray} {s' : Bool} {T' N' : Int} {v' : ByteArray} {wr : World} {t1 t2 : TypeId} (hk : wr.heap.size = k)
    (HR : Regs g wz wr [(g + 2, [.int .i64 T, .int .i64 N]), (g + 1, gl s' T' N' v'), (g, gl s T N v)]) :
    Rnd wz g k (k + 1) X Y X2 Y2 s T N v s' T' N' v' ((wr.alloc (.cells #[.int .i64 (X : Int), .int .i64 (Y : Int)] t1)).alloc (.cells #[.int .i64 (X2 : Int), .int .i64 (Y2 : Int)] t2)).drew := by
  have h1 := HR.1.1
  have R := (Regs.push (g := k + 1) (Regs.push HR hk [.int .i64 (X : Int), .int .i64 (Y : Int)] t1) (by simp [hk]) [.int .i64 (X2 : Int), .int .i64 (Y2 : Int)] t2).later ((Below.refl _ _).drew)
  exact ⟨by omega, by omega, R.2.1, R.1, R.2.2⟩

theorem rnd_start2 {wz : World} {g k : Nat} {X Y X2 Y2 : Nat} {s : Bool} {T N : Int} {v : ByteArray} {s' : Bool} {T' N' : Int} {v' : ByteArray} {wr : World} {t1 t2 : TypeId} (hk : wr.heap.size = k)
    (HR : Regs g wz wr [(g + 2, [.int .i64 T, .int .i64 N]), (g + 1, gl s' T' N' v'), (g, gl s T N v)]) :
    Rnd wz g (k + 1) k X Y X2 Y2 s T N v s' T' N' v' ((wr.alloc (.cells #[.int .i64 (X2 : Int), .int .i64 (Y2 : Int)] t1)).alloc (.cells #[.int .i64 (X : Int), .int .i64 (Y : Int)] t2)).drew := by
  have h1 := HR.1.1
  have R := (Regs.push (g := k + 1) (Regs.push HR hk [.int .i64 (X2 : Int), .int .i64 (Y2 : Int)] t1) (by simp [hk]) [.int .i64 (X : Int), .int .i64 (Y : Int)] t2).later ((Below.refl _ _).drew)
  exact ⟨by omega, by omega, R.1, R.2.1, R.2.2⟩

theorem fine_nat {p : P2} (h : Fine p) : ∃ X Y : Nat, p.1 = (X : Int) ∧ p.2 = (Y : Int) := by
  obtain ⟨h1, h2, h3, h4⟩ := h
  exact ⟨p.1.toNat, p.2.toNat, by omega, by omega⟩

set_option maxHeartbeats 4000000 in
set_option maxRecDepth 100000 in
theorem core (ao : Option Addr) (ca : Nat) (ps : List P2) (w : World) (hr : PRow w ao ps) (hl : ps.length ≤ maxLen) :
    Calls Try.prog 4 #[.slice ao ps.length ca] w fun e w' => e = .returned (.bool true) ∧ Below w.heap.size w w' := by
  have HP : Hid (PRow w ao ps) := hr
  unfold maxLen at hl
  obtain ⟨h, hh⟩ : ∃ h, w.heap.size = h := ⟨_, rfl⟩
  rw [hh]
  go_enter Try.func4, Try.ntmps4
  go_wp2_with fail
  refine (awake7_any _).mono ?_
  rintro e w1 ⟨rfl, b1⟩
  rw [hh] at b1
  have U0 : Hid (Row w h 0 (.slice none 0 0) w1) := ⟨[], rfl, by simp, pown_none _ _, b1, by have := b1.size; omega⟩
  clear b1 hr
  obtain ⟨N, hN1, hN2, hN3⟩ : ∃ N : Nat, N ≤ ps.length ∧ N ≤ 20 ∧ (N = ps.length ∨ N = 20) := by
    by_cases h : ps.length ≤ 20
    · exact ⟨ps.length, by omega, h, Or.inl rfl⟩
    · exact ⟨20, by omega, by omega, Or.inr rfl⟩
  go_upto_block 0 with fail
  go_cut [3] from 20 to 64 (fun v wx => ∃ n : Nat, n ≤ 20 ∧ (∃ ao cap, v = .slice ao n cap) ∧ Hid (Row w h n v wx))
  case first =>
    go_wp2_with fail
    go_loopg [3, 4] N (fun m v iv wr => ∃ i n : Nat, (∃ ao cap, v = .slice ao n cap) ∧ n ≤ i ∧ i + m = N ∧ iv = .int .i64 i ∧ Hid (Row w h n v wr))
    case atStart => exact ⟨0, 0, ⟨none, 0, rfl⟩, by omega, by omega, rfl, U0.out⟩
    case round =>
      clear U0
      obtain ⟨i, n, ⟨uo, uc, rfl⟩, hni, hiN, rfl, HU⟩ := hrel
      by_cases hi : i < N
      · have hi1 : i < ps.length := by omega
        have hi2 : i < 20 := by omega
        obtain ⟨U, hUl, hUf, hown, hbel, hsz⟩ := HU.out
        obtain ⟨bk, off, rfl, hb, hc⟩ := HP.out (by omega)
        rw [hh] at hb
        obtain ⟨x, hx, ex⟩ : ∃ z : Nat, z < 1024 ∧ bits .and .i64 (at2 ps i).1 1023 = (z : Int) := and_mask _ 10 (by omega)
        obtain ⟨y, hy, ey⟩ : ∃ y : Nat, y < 16 ∧ bits .and .i64 (at2 ps i).2 15 = (y : Int) := and_mask _ 4 (by omega)
        have hx1 := (hbel.cell (p := ⟨bk, off + i * 2, none⟩) (by exact hb)).trans (hc i hi1).1
        have hx2 := (hbel.cell (p := ⟨bk, off + i * 2 + 1, none⟩) (by exact hb)).trans (hc i hi1).2
        obtain ⟨k, hk⟩ : ∃ k, wr.heap.size = k := ⟨_, rfl⟩
        have hbh : bk < k := by omega
        have HV : Hid (U.length = n ∧ (∀ p ∈ U, Fine p) ∧ Inn w h k (1 + x) y (.slice uo n uc) U (wr.alloc (.cells #[.int .i64 (1 + (x : Int)), .int .i64 y] 23)).drew) := ⟨hUl, hUf, (inn_start hown hbel hsz hk).drew⟩
        clear hc hUl hUf hown hbel hsz HU
        go_wp2_with fail
        go_region
        obtain ⟨W2, hW2⟩ : ∃ W2, W2 = (wr.alloc (.cells #[.int .i64 (1 + (x : Int)), .int .i64 y] 23)).drew := ⟨_, rfl⟩
        rw [← hW2] at HV ⊢
        clear hW2 hx1 hx2 hk hbh ex ey
        go_wp2_with fail
        go_loopg [6, 7] n (fun m tv jv wq => ∃ (j : Nat) (t : Bool), j + m = n ∧ jv = .int .i64 j ∧ tv = .bool t ∧ Hid (Inn w h k (1 + x) y (.slice uo n uc) U wq))
        case atStart => exact ⟨0, false, by omega, rfl, rfl, HV.out.2.2⟩
        case round =>
          obtain ⟨j, t, hjn, rfl, rfl, HI⟩ := hrel
          have HF : Hid (U.length = n ∧ ∀ p ∈ U, Fine p) := ⟨HV.out.1, HV.out.2.1⟩
          clear HV
          by_cases hj : j < n
          · cases t
            · obtain ⟨_, _, eu, hpo⟩ := pown_at HI.out.1
              simp only [Value.slice.injEq] at eu
              obtain ⟨rfl, _, rfl⟩ := eu
              obtain ⟨bu, rfl, _, hbl, hc⟩ := hpo (by have := HF.out.1; omega)
              obtain ⟨p, ep⟩ : ∃ p, p = (at2 U j).1 := ⟨_, rfl⟩
              obtain ⟨q, eq⟩ : ∃ q, q = (at2 U j).2 := ⟨_, rfl⟩
              have c1 := (hc j (by have := HF.out.1; omega)).1
              have c2 := (hc j (by have := HF.out.1; omega)).2
              rw [← ep] at c1
              rw [← eq] at c2
              have s0 := HI.out.2.2.2.at 0 rfl
              have s1 := HI.out.2.2.2.at 1 rfl
              clear hc hpo ep eq
              by_cases hp : p = 1 + (x : Int)
              · subst hp
                by_cases hq : q = (y : Int)
                · subst hq
                  go_wp2_with fail
                  go_quiet (fail)
                  go_wp2_with fail
                  go_roundg (n - (j + 1))
                  case measure => omega
                  case rel => exact ⟨j + 1, _, by omega, by go_num, rfl, HI.out.drewN _⟩
                · have hqb : (q == (y : Int)) = false := by simpa using hq
                  go_wp2_with fail
                  go_quiet (fail)
                  go_wp2_with fail
                  go_roundg (n - (j + 1))
                  case measure => omega
                  case rel => exact ⟨j + 1, _, by omega, by go_num, rfl, HI.out.drewN _⟩
              · have hpb : (p == 1 + (x : Int)) = false := by simpa using hp
                go_wp2_with fail
                go_quiet (fail)
                go_wp2_with fail
                go_roundg (n - (j + 1))
                case measure => omega
                case rel => exact ⟨j + 1, _, by omega, by go_num, rfl, HI.out.drewN _⟩
            · go_wp2_with fail
              go_quiet (fail)
              go_wp2_with fail
              go_roundg (n - (j + 1))
              case measure => omega
              case rel => exact ⟨j + 1, _, by omega, by go_num, rfl, HI.out.drewN _⟩
          · cases t
            · have s0 := HI.out.2.2.2.at 0 rfl
              have s1 := HI.out.2.2.2.at 1 rfl
              go_wp2_with (at_builtin; refine wpList_append_pair rfl _ _ rfl (l := U) (1 + (x : Int)) (y : Int) rfl rfl HI.out.1 (by have := HF.out.1; omega) HI.out.2.2.1 ?_; intro g cap w' hown' hbel')
              go_roundg (N - (i + 1))
              case measure => omega
              case rel =>
                refine ⟨i + 1, n + 1, ⟨some ⟨g, 0, none⟩, cap, by rw [HF.out.1]⟩, by omega, by omega, by go_num, U ++ [(1 + (x : Int), (y : Int))], by simp [HF.out.1], ?_, hown', HI.out.2.1.trans hbel', ?_⟩
                · intro p hp
                  rcases List.mem_append.1 hp with hp | hp
                  · exact HF.out.2 p hp
                  · rw [List.mem_singleton.1 hp]
                    exact fine_of hx hy
                · have := HI.out.2.2.1
                  have := hbel'.size
                  omega
            · go_wp2_with fail
              go_roundg (N - (i + 1))
              case measure => omega
              case rel => exact ⟨i + 1, n, ⟨uo, uc, rfl⟩, by omega, by omega, by go_num, U, HF.out.1, HF.out.2, HI.out.1, HI.out.2.1, HI.out.2.2.1⟩
      · by_cases hlen : i < ps.length
        · have hd2 : ¬ i < 20 := by omega
          go_wp2_with fail
          go_meet
          case rel => exact ⟨n, by omega, ⟨uo, uc, rfl⟩, HU⟩
        · go_wp2_with fail
          go_meet
          case rel => exact ⟨n, by omega, ⟨uo, uc, rfl⟩, HU⟩
  case rest =>
    obtain ⟨n, hn20, ⟨uo, uc, rfl⟩, HU⟩ := hcut
    clear U0 hN1 hN2 hN3 HP
    obtain ⟨wz, rfl⟩ : ∃ z, z = wc := ⟨_, rfl⟩
    obtain ⟨U, hUl, hUf, hown, hbel, hsz⟩ := HU.out
    obtain ⟨_, _, eu, hpo⟩ := pown_at hown
    simp only [Value.slice.injEq] at eu
    obtain ⟨rfl, _, rfl⟩ := eu
    subst hUl
    obtain ⟨g, hg⟩ : ∃ g, wz.heap.size = g := ⟨_, rfl⟩
    have HF : Hid (∀ p ∈ U, Fine p) := hUf
    have HC : Hid (wz.heap.size = g ∧ PRow wz uo U ∧ Below h w wz ∧ h ≤ g) := ⟨hg, hpo.row, hbel, by omega⟩
    have J0 : Hid (Inv wz g U 0 (((wz.alloc (.cells (zl 0).toArray 30)).alloc (.cells (zl 0).toArray 30)).alloc (.cells #[.int .i64 0, .int .i64 0] 23))) := inv_start hg
    clear HU hUf hown hbel hsz hpo
    go_wp2_with fail
    clear hg
    go_loopg [11] U.length (fun m iv wr => ∃ i : Nat, i + m = U.length ∧ iv = .int .i64 i ∧ Hid (Inv wz g U i wr))
    case atStart => exact ⟨0, by omega, rfl, J0.out⟩
    case round =>
      clear J0
      obtain ⟨i, him, rfl, HJ⟩ := hrel
      by_cases hi : i < U.length
      · obtain ⟨j, hj⟩ : ∃ j : Nat, i + j + 1 = U.length := ⟨U.length - 1 - i, by omega⟩
        have ej : (U.length : Int) - 1 - (i : Int) = (j : Int) := by omega
        obtain ⟨s, T, N, v, s', T', N', v', La, Lb, HR⟩ := HJ.out
        obtain ⟨bk, off, rfl, hb, hc⟩ := (HC.out.2.1.later (w' := wr) (by rw [HC.out.1]; exact HR.base.1)) (by omega)
        have f1 := HF.out _ (at2_mem hi)
        have f2 := HF.out _ (at2_mem (i := j) (l := U) (by omega))
        obtain ⟨X, Y, eX, eY⟩ := fine_nat f1
        obtain ⟨X2, Y2, eX2, eY2⟩ := fine_nat f2
        have c1 := (hc i hi).1
        have c2 := (hc i hi).2
        have c3 := (hc j (by omega)).1
        have c4 := (hc j (by omega)).2
        rw [eX] at c1
        rw [eY] at c2
        rw [eX2] at c3
        rw [eY2] at c4
        obtain ⟨k, hk⟩ : ∃ k, wr.heap.size = k := ⟨_, rfl⟩
        have hbh : bk < k := by omega
        have hjl : j < U.length := by omega
        have HR' : Hid (Regs g wz wr [(g + 2, [.int .i64 T, .int .i64 N]), (g + 1, gl s' T' N' v'), (g, gl s T N v)]) := HR
        have HL : Hid (Let (mx (U.take i)) s T N v ∧ Let (mx (U.reverse.take i)) s' T' N' v' ∧ at2 U i = ((X : Int), (Y : Int)) ∧ at2 U j = ((X2 : Int), (Y2 : Int)) ∧ Fine ((X : Int), (Y : Int)) ∧ Fine ((X2 : Int), (Y2 : Int))) := ⟨La, Lb, by rw [← eX, ← eY], by rw [← eX2, ← eY2], by rw [← eX, ← eY]; exact f1, by rw [← eX2, ← eY2]; exact f2⟩
        have HX : Hid (i + j + 1 = U.length) := hj
        clear hc La Lb HR HJ eX eY eX2 eY2 hb f1 f2
        go_wp2_with fail
        go_cut [12, 13] from 68 to 145 (fun p q wx => ∃ kx ky : Nat, p = .pointer (some ⟨kx, 0, none⟩) ∧ q = .pointer (some ⟨ky, 0, none⟩) ∧ Hid (Rnd wz g kx ky X Y X2 Y2 s T N v s' T' N' v' wx))
        case first =>
          have HV := fun t1 t2 => rnd_start (X := X) (Y := Y) (X2 := X2) (Y2 := Y2) (t1 := t1) (t2 := t2) hk HR'.out
          have HV2 := fun t1 t2 => rnd_start2 (X := X) (Y := Y) (X2 := X2) (Y2 := Y2) (t1 := t1) (t2 := t2) hk HR'.out
          go_region
          · go_wp2_with fail
            go_meet
            case rel => first | exact ⟨_, _, rfl, rfl, HV _ _⟩ | exact ⟨_, _, rfl, rfl, HV2 _ _⟩
          · go_wp2_with fail
            go_meet
            case rel => first | exact ⟨_, _, rfl, rfl, HV _ _⟩ | exact ⟨_, _, rfl, rfl, HV2 _ _⟩
        case rest =>
          obtain ⟨w2, rfl⟩ : ∃ z, z = wc := ⟨_, rfl⟩
          obtain ⟨kx, ky, rfl, rfl, HV⟩ := hcut
          clear c1 c2 c3 c4 hk hbh hjl ej HR'
          obtain ⟨B, hB⟩ : ∃ B, w2.heap.size = B := ⟨_, rfl⟩
          obtain ⟨hX1, hX2, hY1, hY2⟩ := HL.out.2.2.2.2.1
          simp only at hX1 hX2 hY1 hY2
          have hl1 := dec_len (z := X) (by omega)
          have hl2 := dec_len (z := Y) (by omega)
          have n1 : ¬ (9223372036854775807 < 1 + (Lib.decDigits X).length) := by omega
          have n2 : ¬ (9223372036854775807 < 1 + (Lib.decDigits X).length + 1) := by omega
          have n3 : ¬ (9223372036854775807 < 1 + (Lib.decDigits X).length + 1 + (Lib.decDigits Y).length) := by omega
          have HM : Hid (Some0 (mx (U.take i)) ∧ Some0 (mx (U.reverse.take i))) := ⟨mx_some _ fun p hp => HF.out p (List.mem_of_mem_take hp), mx_some _ fun p hp => HF.out p (List.mem_reverse.1 (List.mem_of_mem_take hp))⟩
          have HS : Hid (Src w2 B g kx s T N v X Y) := ⟨by have := HV.out.2.2.2.2.2.2.1.1; omega, by have := HV.out.2.2.1.1; omega, HV.out.2.2.2.2.2.2.1, HV.out.2.2.1⟩
          have hz : B ≤ w2.heap.size := by omega
          have hzd : B ≤ w2.drew.heap.size := hz
          have hz0 := hz
          have HB : Hid (w2.heap.size = B) := hB
          clear hB
          go_wp2_with fail
          go_cut [14, 15] from 68 to 145 (fun p e wx => ∃ (kc : Nat) (s1 : Bool) (T1 N1 : Int) (v1 : ByteArray), p = .pointer (some ⟨kc, 0, none⟩) ∧ e = .int .i64 0 ∧ Hid (Let (up (mx (U.take i)) ((X : Int), (Y : Int))) s1 T1 N1 v1 ∧ B ≤ kc ∧ Has wx kc (gl s1 T1 N1 v1) ∧ Below B w2 wx))
          case first =>
            go_region_held3 (HeldR w2 B g kx s T N v X Y) (first | (with_reducible apply heldR_later HS.out hb2; assumption) | with_reducible apply heldR_put HS.out T6 (by assumption) | (with_reducible apply heldR_swap (t := 0) HS.out (by omega) (by assumption)) | (with_reducible exact heldR_of HS.out ⟨(Below.refl _ _).drew, hzd⟩) | (with_reducible exact heldR_first HS.out hz0 _) | (with_reducible apply heldR_alloc HS.out _ (by assumption)))
              (first
                | (go_at_call 14; with_reducible refine (deci_any _ _ (by omega)).mono ?_; rintro e w3 ⟨rfl, hb2⟩; have hz := hb2.size; first | (with_reducible have T6 := nine_newd (B := B) (by omega) hb2; obtain ⟨y0, y1, y2, y3, y4, y5, y6, y7, y8, y9⟩ := nine_ten T6; obtain ⟨z0, z1, z2, z3, z4, z5, z6, z7, z8, z9⟩ := nine_tenf T6) | (with_reducible have T6 := nine_new (B := B) (by omega) hb2; obtain ⟨y0, y1, y2, y3, y4, y5, y6, y7, y8, y9⟩ := nine_ten T6; obtain ⟨z0, z1, z2, z3, z4, z5, z6, z7, z8, z9⟩ := nine_tenf T6) | (with_reducible replace T6 := nine_later T6 hb2; obtain ⟨y0, y1, y2, y3, y4, y5, y6, y7, y8, y9⟩ := nine_ten T6; obtain ⟨z0, z1, z2, z3, z4, z5, z6, z7, z8, z9⟩ := nine_tenf T6) | skip)
                | (go_at_call 8; with_reducible refine (lset_at X Y _ HM.out.1 HL.out.2.2.2.2.1 HL.out.1).mono ?_; rintro e w3 ⟨s1, T1, N1, v1, rfl, L1, hb2⟩; have hz := hb2.size; first | (with_reducible have T6 := nine_newd (B := B) (by omega) hb2; obtain ⟨y0, y1, y2, y3, y4, y5, y6, y7, y8, y9⟩ := nine_ten T6; obtain ⟨z0, z1, z2, z3, z4, z5, z6, z7, z8, z9⟩ := nine_tenf T6) | (with_reducible have T6 := nine_new (B := B) (by omega) hb2; obtain ⟨y0, y1, y2, y3, y4, y5, y6, y7, y8, y9⟩ := nine_ten T6; obtain ⟨z0, z1, z2, z3, z4, z5, z6, z7, z8, z9⟩ := nine_tenf T6) | (with_reducible replace T6 := nine_later T6 hb2; obtain ⟨y0, y1, y2, y3, y4, y5, y6, y7, y8, y9⟩ := nine_ten T6; obtain ⟨z0, z1, z2, z3, z4, z5, z6, z7, z8, z9⟩ := nine_tenf T6) | skip))
            all_goals
              (go_wp2_with fail
               go_meet
               case rel =>
                 (first
                   | (have E7 := end_put (w1 := w2) (g := g) (k := kx) (s := s) (T := T) (N := N) (v := v) (X := X) (Y := Y) s1 T1 N1 v1 T6 (by assumption); exact ⟨_, s1, T1, N1, v1, rfl, rfl, L1, E7⟩)
                   | (have E7 := end_new (w1 := w2) (W := w3) (B := B) (g := g) (k := kx) (s := s) (T := T) (N := N) (v := v) (X := X) (Y := Y) s1 T1 N1 v1 30 (by omega) (by assumption); exact ⟨_, s1, T1, N1, v1, rfl, rfl, L1, E7⟩)))
          case rest =>
            obtain ⟨w3, rfl⟩ : ∃ z, z = wc := ⟨_, rfl⟩
            obtain ⟨kc, s1, T1, N1, v1, rfl, rfl, HQ⟩ := hcut
            have HV3 : Hid (g + 2 < kx ∧ g + 2 < ky ∧ g + 2 < kc ∧ Let (up (mx (U.take i)) ((X : Int), (Y : Int))) s1 T1 N1 v1 ∧ Regs g wz w3 [(kc, gl s1 T1 N1 v1), (kx, [.int .i64 X, .int .i64 Y]), (ky, [.int .i64 X2, .int .i64 Y2]), (g + 2, [.int .i64 T, .int .i64 N]), (g + 1, gl s' T' N' v'), (g, gl s T N v)]) := by
              have hlt := HV.out.2.2.lt
              rw [HB.out] at hlt
              have hx := hlt (kx, [.int .i64 X, .int .i64 Y]) (by simp)
              have hg := HV.out.1
              have hk := HQ.out.2.1
              simp only at hx
              exact ⟨hg, HV.out.2.1, by omega, HQ.out.1, HQ.out.2.2.1, HV.out.2.2.under hlt (by omega) HQ.out.2.2.2⟩
            clear HV HQ HS HB hz hzd hz0 hl1 hl2 n1 n2 n3
            obtain ⟨B2, hB⟩ : ∃ B2, w3.heap.size = B2 := ⟨_, rfl⟩
            obtain ⟨hP1, hP2, hR1, hR2⟩ := HL.out.2.2.2.2.2
            simp only at hP1 hP2 hR1 hR2
            have hl1 := dec_len (z := X2) (by omega)
            have hl2 := dec_len (z := Y2) (by omega)
            have n1 : ¬ (9223372036854775807 < 1 + (Lib.decDigits X2).length) := by omega
            have n2 : ¬ (9223372036854775807 < 1 + (Lib.decDigits X2).length + 1) := by omega
            have n3 : ¬ (9223372036854775807 < 1 + (Lib.decDigits X2).length + 1 + (Lib.decDigits Y2).length) := by omega
            have HS : Hid (Src w3 B2 (g + 1) ky s' T' N' v' X2 Y2) := ⟨by have := HV3.out.2.2.2.2.2.2.2.2.1.1; omega, by have := HV3.out.2.2.2.2.2.2.1.1; omega, HV3.out.2.2.2.2.2.2.2.2.1, HV3.out.2.2.2.2.2.2.1⟩
            have hz : B2 ≤ w3.heap.size := by omega
            have hzd : B2 ≤ w3.drew.heap.size := hz
            have hz0 := hz
            have HB : Hid (w3.heap.size = B2) := hB
            clear hB
            go_wp2_with fail
            go_cut [16, 17] from 68 to 145 (fun p e wx => ∃ (kd : Nat) (s2 : Bool) (T2 N2 : Int) (v2 : ByteArray), p = .pointer (some ⟨kd, 0, none⟩) ∧ e = .int .i64 0 ∧ Hid (Let (up (mx (U.reverse.take i)) ((X2 : Int), (Y2 : Int))) s2 T2 N2 v2 ∧ B2 ≤ kd ∧ Has wx kd (gl s2 T2 N2 v2) ∧ Below B2 w3 wx))
            case first =>
              go_region_held3 (HeldR w3 B2 (g + 1) ky s' T' N' v' X2 Y2) (first | (with_reducible apply heldR_later HS.out hb2; assumption) | with_reducible apply heldR_put HS.out T6 (by assumption) | (with_reducible apply heldR_swap (t := 0) HS.out (by omega) (by assumption)) | (with_reducible exact heldR_of HS.out ⟨(Below.refl _ _).drew, hzd⟩) | (with_reducible exact heldR_first HS.out hz0 _) | (with_reducible apply heldR_alloc HS.out _ (by assumption)))
                (first
                  | (go_at_call 14; with_reducible refine (deci_any _ _ (by omega)).mono ?_; rintro e w5 ⟨rfl, hb2⟩; have hz := hb2.size; first | (with_reducible have T6 := nine_newd (B := B2) (by omega) hb2; obtain ⟨y0, y1, y2, y3, y4, y5, y6, y7, y8, y9⟩ := nine_ten T6; obtain ⟨z0, z1, z2, z3, z4, z5, z6, z7, z8, z9⟩ := nine_tenf T6) | (with_reducible have T6 := nine_new (B := B2) (by omega) hb2; obtain ⟨y0, y1, y2, y3, y4, y5, y6, y7, y8, y9⟩ := nine_ten T6; obtain ⟨z0, z1, z2, z3, z4, z5, z6, z7, z8, z9⟩ := nine_tenf T6) | (with_reducible replace T6 := nine_later T6 hb2; obtain ⟨y0, y1, y2, y3, y4, y5, y6, y7, y8, y9⟩ := nine_ten T6; obtain ⟨z0, z1, z2, z3, z4, z5, z6, z7, z8, z9⟩ := nine_tenf T6) | skip)
                  | (go_at_call 8; with_reducible refine (lset_at X2 Y2 _ HM.out.2 HL.out.2.2.2.2.2 HL.out.2.1).mono ?_; rintro e w5 ⟨s2, T2, N2, v2, rfl, L2, hb2⟩; have hz := hb2.size; first | (with_reducible have T6 := nine_newd (B := B2) (by omega) hb2; obtain ⟨y0, y1, y2, y3, y4, y5, y6, y7, y8, y9⟩ := nine_ten T6; obtain ⟨z0, z1, z2, z3, z4, z5, z6, z7, z8, z9⟩ := nine_tenf T6) | (with_reducible have T6 := nine_new (B := B2) (by omega) hb2; obtain ⟨y0, y1, y2, y3, y4, y5, y6, y7, y8, y9⟩ := nine_ten T6; obtain ⟨z0, z1, z2, z3, z4, z5, z6, z7, z8, z9⟩ := nine_tenf T6) | (with_reducible replace T6 := nine_later T6 hb2; obtain ⟨y0, y1, y2, y3, y4, y5, y6, y7, y8, y9⟩ := nine_ten T6; obtain ⟨z0, z1, z2, z3, z4, z5, z6, z7, z8, z9⟩ := nine_tenf T6) | skip))
              all_goals
                (go_wp2_with fail
                 go_meet
                 case rel =>
                   (first
                     | (have E7 := end_put (w1 := w3) (g := g + 1) (k := ky) (s := s') (T := T') (N := N') (v := v') (X := X2) (Y := Y2) s2 T2 N2 v2 T6 (by assumption); exact ⟨_, s2, T2, N2, v2, rfl, rfl, L2, E7⟩)
                     | (have E7 := end_new (w1 := w3) (W := w5) (B := B2) (g := g + 1) (k := ky) (s := s') (T := T') (N := N') (v := v') (X := X2) (Y := Y2) s2 T2 N2 v2 30 (by omega) (by assumption); exact ⟨_, s2, T2, N2, v2, rfl, rfl, L2, E7⟩)))
            case rest =>
              obtain ⟨w4, rfl⟩ : ∃ z, z = wc := ⟨_, rfl⟩
              obtain ⟨kd, s2, T2, N2, v2, rfl, rfl, HQ⟩ := hcut
              have HV4 : Hid (g + 2 < kx ∧ g + 2 < kc ∧ g + 2 < kd ∧ Regs g wz w4 [(kd, gl s2 T2 N2 v2), (kc, gl s1 T1 N1 v1), (kx, [.int .i64 X, .int .i64 Y]), (ky, [.int .i64 X2, .int .i64 Y2]), (g + 2, [.int .i64 T, .int .i64 N]), (g + 1, gl s' T' N' v'), (g, gl s T N v)]) := by
                have hlt := HV3.out.2.2.2.2.lt
                rw [HB.out] at hlt
                have hx := hlt (kx, [.int .i64 X, .int .i64 Y]) (by simp)
                have hg := HV3.out.1
                have hk := HQ.out.2.1
                simp only at hx
                exact ⟨hg, HV3.out.2.2.1, by omega, HQ.out.2.2.1, HV3.out.2.2.2.2.under hlt (by omega) HQ.out.2.2.2⟩
              have HA : Hid (Let (mx (U.take (i + 1))) s1 T1 N1 v1 ∧ Let (mx (U.reverse.take (i + 1))) s2 T2 N2 v2 ∧ mx (U.take (i + 1)) = up (T, N) ((X : Int), (Y : Int))) := by
                have e1 := mx_take hi
                have e2 := mx_rtake HX.out
                rw [HL.out.2.2.1] at e1
                rw [HL.out.2.2.2.1] at e2
                refine ⟨by rw [e1]; exact HV3.out.2.2.2.1, by rw [e2]; exact HQ.out.1, ?_⟩
                rw [e1, HL.out.1.2.1, HL.out.1.2.2.1]
              clear HV3 HQ HS HB hz hzd hz0 hl1 hl2 n1 n2 n3
              obtain ⟨a0, a1, a2, a3, a4, a5, a6, a7, a8, a9⟩ := HV4.out.2.2.2.2.1.ten
              obtain ⟨b0, b1, b2, b3, b4, b5, b6, b7, b8, b9⟩ := HV4.out.2.2.2.2.2.2.2.2.2.1.ten
              obtain ⟨f0, f1, f2, f3, f4, f5, f6, f7, f8, f9⟩ := HV4.out.2.2.2.2.2.2.2.2.2.1.tenf
              go_upto_region 26 with (first | (go_at_call 11; refine (num_any _ _).mono ?_; rintro e w0 ⟨rfl, rfl⟩) | fail)
              have HV5 := round_a s1 T1 N1 v1 HV4.out
              clear a0 a1 a2 a3 a4 a5 a6 a7 a8 a9 b0 b1 b2 b3 b4 b5 b6 b7 b8 b9 f0 f1 f2 f3 f4 f5 f6 f7 f8 f9 HV4
              dsimp only [put10] at HV5
              generalize hw5 : World.setCell _ (⟨g, 9, none⟩ : Addr) _ = w5 at HV5 ⊢
              clear hw5
              replace HV5 := (show Hid _ from HV5)
              obtain ⟨a0, a1, a2, a3, a4, a5, a6, a7, a8, a9⟩ := HV5.out.2.2.1.ten
              obtain ⟨b0, b1, b2, b3, b4, b5, b6, b7, b8, b9⟩ := HV5.out.2.2.2.2.2.1.ten
              obtain ⟨f0, f1, f2, f3, f4, f5, f6, f7, f8, f9⟩ := HV5.out.2.2.2.2.2.1.tenf
              go_upto_region 27 with fail
              have HV6 := round_b s2 T2 N2 v2 HV5.out
              clear a0 a1 a2 a3 a4 a5 a6 a7 a8 a9 b0 b1 b2 b3 b4 b5 b6 b7 b8 b9 f0 f1 f2 f3 f4 f5 f6 f7 f8 f9 HV5
              dsimp only [put10] at HV6
              generalize hw6 : World.setCell _ (⟨g + 1, 9, none⟩ : Addr) _ = w6 at HV6 ⊢
              clear hw6
              replace HV6 := (show Hid _ from HV6)
              obtain ⟨a0, a1⟩ := HV6.out.2.1.two
              obtain ⟨b0, b1⟩ := HV6.out.2.2.1.two
              have f0 := HV6.out.2.2.1.free 0 rfl
              have f1 := HV6.out.2.2.1.free 1 rfl
              have HW := fun u0 u1 => round_c u0 u1 HV6.out
              clear HX HL hY1 hY2 hX1 hX2 hP1 hP2 hR1 hR2
              by_cases hT : T < (X : Int)
              · have hd : decide (T < (X : Int)) = true := by simpa using hT
                have E1 : Hid (T1 = (X : Int) ∧ N1 = (Y : Int)) := by
                  have e := HA.out.2.2
                  have eu : up (T, N) ((X : Int), (Y : Int)) = ((X : Int), (Y : Int)) := by unfold up; rw [if_pos]; simp [lessB]; omega
                  rw [eu] at e
                  exact ⟨by rw [HA.out.1.2.1, e], by rw [HA.out.1.2.2.1, e]⟩
                go_wp2_with fail
                go_roundg (U.length - (i + 1))
                case measure => omega
                case rel => (obtain ⟨rfl, rfl⟩ := E1.out; exact ⟨i + 1, by omega, by go_num, s1, _, _, v1, s2, T2, N2, v2, HA.out.1, HA.out.2.1, HW _ _⟩)
              · by_cases hE : (X : Int) = T ∧ N < (Y : Int)
                · obtain ⟨hE1, hE2⟩ := hE
                  have hd : decide (T < (X : Int)) = false := by simpa using hT
                  have hd2 : ((X : Int) == T) = true := by simpa using hE1
                  have hd3 : decide (N < (Y : Int)) = true := by simpa using hE2
                  have E1 : Hid (T1 = (X : Int) ∧ N1 = (Y : Int)) := by
                    have e := HA.out.2.2
                    have eu : up (T, N) ((X : Int), (Y : Int)) = ((X : Int), (Y : Int)) := by unfold up; rw [if_pos]; simp [lessB]; omega
                    rw [eu] at e
                    exact ⟨by rw [HA.out.1.2.1, e], by rw [HA.out.1.2.2.1, e]⟩
                  clear hE1 hE2
                  go_wp2_with fail
                  go_roundg (U.length - (i + 1))
                  case measure => omega
                  case rel => (obtain ⟨rfl, rfl⟩ := E1.out; exact ⟨i + 1, by omega, by go_num, s1, _, _, v1, s2, T2, N2, v2, HA.out.1, HA.out.2.1, HW _ _⟩)
                · have E1 : Hid (T1 = T ∧ N1 = N) := by
                    have e := HA.out.2.2
                    have eu : up (T, N) ((X : Int), (Y : Int)) = (T, N) := by unfold up; rw [if_neg]; simp [lessB]; omega
                    rw [eu] at e
                    exact ⟨by rw [HA.out.1.2.1, e], by rw [HA.out.1.2.2.1, e]⟩
                  have hd : decide (T < (X : Int)) = false := by simpa using hT
                  by_cases hE1 : (X : Int) = T
                  · have hd2 : ((X : Int) == T) = true := by simpa using hE1
                    have hd3 : decide (N < (Y : Int)) = false := by simp; omega
                    clear hE
                    go_wp2_with fail
                    go_roundg (U.length - (i + 1))
                    case measure => omega
                    case rel => (obtain ⟨rfl, rfl⟩ := E1.out; exact ⟨i + 1, by omega, by go_num, s1, _, _, v1, s2, T2, N2, v2, HA.out.1, HA.out.2.1, HV6.out.2.2⟩)
                  · have hd2 : ((X : Int) == T) = false := by simpa using hE1
                    clear hE
                    go_wp2_with fail
                    go_roundg (U.length - (i + 1))
                    case measure => omega
                    case rel => (obtain ⟨rfl, rfl⟩ := E1.out; exact ⟨i + 1, by omega, by go_num, s1, _, _, v1, s2, T2, N2, v2, HA.out.1, HA.out.2.1, HV6.out.2.2⟩)
      · have hiU : i = U.length := by omega
        subst hiU
        obtain ⟨s, T, N, v, s', T', N', v', La, Lb, HR⟩ := HJ.out
        have er : U.reverse.take U.length = U.reverse := by rw [← List.length_reverse]; exact List.take_length
        rw [List.take_length] at La
        rw [er, mx_reverse U HF.out] at Lb
        have C := same_step wr (mx_some U HF.out) La Lb
        have HR' : Hid (Regs g wz wr [(g + 2, [.int .i64 T, .int .i64 N]), (g + 1, gl s' T' N' v'), (g, gl s T N v)]) := HR
        have HL : Hid (Let (mx U) s T N v) := La
        obtain ⟨a0, a1, a2, a3, a4, a5, a6, a7, a8, a9⟩ := HR.2.2.1.ten
        obtain ⟨b0, b1, b2, b3, b4, b5, b6, b7, b8, b9⟩ := HR.2.1.ten
        clear HR HJ La Lb er
        go_wp2_with fail
        refine C.mono ?_
        rintro e w5 ⟨rfl, k5⟩
        have H5 : Hid (Regs g wz w5 [(g + 2, [.int .i64 T, .int .i64 N]), (g + 1, gl s' T' N' v'), (g, gl s T N v)]) := HR'.out.later k5
        have HE : Hid (Below h w w5) := HC.out.2.2.1.trans (H5.out.base.1.mono HC.out.2.2.2)
        clear a0 a1 a2 a3 a4 a5 a6 a7 a8 a9 b0 b1 b2 b3 b4 b5 b6 b7 b8 b9 C k5 HR'
        by_cases h0 : U.length = 0
        · have es : s = false := by
            have hU : U = [] := List.eq_nil_of_length_eq_zero h0
            subst hU
            exact HL.out.1
          subst es
          have a1 := H5.out.2.2.1.at 1 rfl
          have hd : decide ((0 : Int) < (U.length : Int)) = false := by simp; exact List.eq_nil_of_length_eq_zero h0
          go_wp2_with fail
          go_quiet (fail)
          go_wp2_with fail
          go_ret
          exact ⟨rfl, below_drewN HE.out _⟩
        · have f1 := mx_fine U HF.out (by omega)
          obtain ⟨X, Y, eX, eY⟩ := fine_nat f1
          obtain ⟨hX1, hX2, hY1, hY2⟩ := f1
          have e4 := HL.out
          obtain ⟨e1, e2, e3, e4⟩ := e4
          have es : s = true := by rw [e1]; simp [st]; omega
          have ev : v = (⟨#[118]⟩ : ByteArray) ++ ⟨(Lib.decDigits X).toArray⟩ ++ (⟨#[46]⟩ : ByteArray) ++ ⟨(Lib.decDigits Y).toArray⟩ := by
            rw [e4]
            unfold tx
            rw [if_pos hX1]
            unfold txt
            rw [eX, eY]
            rfl
          rw [eX] at e2
          rw [eY] at e3
          subst es e2 e3 ev
          clear e1 e4
          have hl1 := dec_len (z := X) (by omega)
          have hl2 := dec_len (z := Y) (by omega)
          have n1 : ¬ (9223372036854775807 < 1 + (Lib.decDigits X).length) := by omega
          have n2 : ¬ (9223372036854775807 < 1 + (Lib.decDigits X).length + 1) := by omega
          have n3 : ¬ (9223372036854775807 < 1 + (Lib.decDigits X).length + 1 + (Lib.decDigits Y).length) := by omega
          have hX : X < 9223372036854775808 := by omega
          have hY : Y < 9223372036854775808 := by omega
          clear hX1 hX2 hY1 hY2 eX eY
          have a1 := H5.out.2.2.1.at 1 rfl
          have HG : Hid (Has w5 g (gl true X Y ((⟨#[118]⟩ : ByteArray) ++ ⟨(Lib.decDigits X).toArray⟩ ++ (⟨#[46]⟩ : ByteArray) ++ ⟨(Lib.decDigits Y).toArray⟩))) := H5.out.2.2.1
          have HN : Hid (Has w5 (g + 2) [.int .i64 X, .int .i64 Y]) := H5.out.1
          have hp : 0 < U.length := by omega
          have hp2 : (0 : Int) < (U.length : Int) := by omega
          have hp3 : ¬ U = [] := fun e => h0 (by rw [e]; rfl)
          go_wp2_with fail
          go_region_held3 (HeldE w5 g X Y ((⟨#[118]⟩ : ByteArray) ++ ⟨(Lib.decDigits X).toArray⟩ ++ (⟨#[46]⟩ : ByteArray) ++ ⟨(Lib.decDigits Y).toArray⟩)) (first | (with_reducible apply heldE_later HG.out HN.out hb2; assumption) | (with_reducible exact heldE_of HG.out HN.out (Below.refl _ _).drew))
            (first
              | (go_at_call 14; with_reducible refine (deci_any _ _ (by omega)).mono ?_; rintro e w6 ⟨rfl, hb2⟩))
          have HZ : HeldE w5 g X Y ((⟨#[118]⟩ : ByteArray) ++ ⟨(Lib.decDigits X).toArray⟩ ++ (⟨#[46]⟩ : ByteArray) ++ ⟨(Lib.decDigits Y).toArray⟩) w6 := by assumption
          go_wp2_with fail
          go_ret
          exact ⟨rfl, HE.out.trans (HZ.1.out.mono (by have := HE.out.size; omega))⟩

theorem walk {H : Type} {enc : TypeId × Value → H} {base : Nat} {d0 : DataW H} {p0 : List MemPlace} (v0 : Value) (w : World)
    (o0 : Value.okWide Try.prog w .any base 42 v0) (h0 : DataW.Trod enc Try.prog w 0 (fun _ => true) true 42 v0 d0 p0) :
    Calls Try.prog 4 #[v0] w fun e w' => e = .returned (.bool true) ∧ Below w.heap.size w w' := by
  obtain ⟨ps, ao, cap, rfl, hm, hr, _, _⟩ := isPairs_of o0 h0
  exact core ao cap ps w hr hm

end Go.Proofs.Ytdcfahkcgedegaa.LwwRows
