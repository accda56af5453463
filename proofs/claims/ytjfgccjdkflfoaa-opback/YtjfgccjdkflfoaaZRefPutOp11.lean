/-
  The document's PutOp, by contract.
-/
import Derived.Test.YtjfgccjdkflfoaaZRefOpMay11
import Derived.Test.YtjfgccjdkflfoaaZPack1
import Derived.Test.YtjfgccjdkflfoaaZPack4
namespace Go.Proofs.Ytjfgccjdkflfoaa
open Go.RowKit
set_option linter.unusedVariables false
set_option linter.unusedSimpArgs false

/-- A list's text. -/
def tx (l : List UInt8) : ByteArray := ⟨l.toArray⟩
theorem rput_int (x : Int) (w : World) (h : 0 ≤ x ∧ x < 9223372036854775808) : Calls Try.prog 24 #[.int .i64 x] w fun e w' => e = .returned (.string (tx (pI x))) ∧ Below w.heap.size w w' := by
  obtain ⟨n, rfl⟩ : ∃ n : Nat, x = n := ⟨x.toNat, by omega⟩
  exact refput_nat n w (by omega)
theorem pD_len (d : D2) : (pD d).length ≤ 18 := by
  have := pI_len d.1
  have := pI_len d.2
  simp only [pD, List.length_append]
  omega
theorem headO_len {o : O14} (F : FitO o) : (headO o).length ≤ 1000 := by
  have h1 := pI_len o.dn
  have h2 := pI_len o.ds
  have h3 := pI_len o.time
  have h4 := pI_len o.kind
  have h5 := flatI_le o.deps
  have h6 := pT_len o.type
  have h7 := pT_len o.id
  have h8 := pT_len o.field
  have h9 := F.len
  have := F.type
  have := F.id
  have := F.field
  simp only [headO, List.length_append]
  omega
theorem foldI_lt {x : Int} (h : winB x = true) : 0 ≤ foldI x ∧ foldI x < 9223372036854775808 := by
  have hb : -1099511627776 ≤ x ∧ x ≤ 1099511627776 := of_decide_eq_true h
  unfold foldI
  split <;> omega
theorem tx_len (l : List UInt8) : (tx l).size = l.length := by simp [tx, ByteArray.size]
theorem tx_txt (a : List UInt8) (s : ByteArray) : tx a ++ s = tx (a ++ s.data.toList) := by
  apply ByteArray.ext
  simp [tx]
theorem tx_add (a b : List UInt8) : tx a ++ tx b = tx (a ++ b) := by
  apply ByteArray.ext
  simp [tx]

set_option maxHeartbeats 8000000 in
set_option maxRecDepth 100000 in
theorem rputop_any (o : O14) (q : Pq) (n : Int) (w : World) (hr : ORow w o q) (hs : Siz o) : Calls Try.prog 10 #[oV o q, .int .i64 n] w fun e w' => e = .returned (.tuple #[.string (putA o n), .int .i64 (putE o n)]) ∧ Below w.heap.size w w' := by
  obtain ⟨h, hh⟩ : ∃ h, w.heap.size = h := ⟨_, rfl⟩
  have H0 : Hid (OBox w h o q (w.alloc (.cells (oL o q).toArray 29)) ∧ (w.alloc (.cells (oL o q).toArray 29)).heap.size = h + 1) := obox_new hh hr _
  rw [hh]
  clear hr
  have HS : Hid (Siz o) := hs
  clear hs
  obtain ⟨po, pc, qo, qc⟩ := q
  go_enter Try.func10, Try.ntmps10
  go_wp2_with fail
  generalize hW : w.alloc (.cells (oL o ⟨po, pc, qo, qc⟩).toArray 29) = w1 at H0 ⊢
  clear hW hh
  have hh1 : h ≤ w1.heap.size := by have := H0.out.2; omega
  obtain ⟨g0, g1, g2, g3, g4, g5, g6, g7, g8, g9, g10, g11, g12, g13⟩ := (show Has w1 h (oL o ⟨po, pc, qo, qc⟩) from H0.out.1.1).f14
  have CM := ropmay_any o ⟨po, pc, qo, qc⟩ n w1 H0.out.1.2.1 HS.out
  cases hm : mayO o n with
  | false =>
    have A : Hid (putA o n = noS ∧ putE o n = 1100) := ⟨by unfold putA; rw [hm]; rfl, by unfold putE; rw [hm]; rfl⟩
    rw [hm] at CM
    refine CM.mono ?_
    rintro e w2 ⟨rfl, b2⟩
    go_wp2
    go_ret2
    exact ⟨by rw [A.out.1, A.out.2]; rfl, (H0.out.1.later b2).2.2.1⟩
  | true =>
    have A : Hid (putA o n = tx (putO o) ∧ putE o n = 0) := ⟨by show putA o n = _; unfold putA; rw [hm]; rfl, by unfold putE; rw [hm]; rfl⟩
    have F : Hid (FitO o) := fit_of hm
    rw [hm] at CM
    refine CM.mono ?_
    rintro e w2 ⟨rfl, b2⟩
    have H2 : Hid (OBox w h o ⟨po, pc, qo, qc⟩ w2) := H0.out.1.later b2
    clear H0 b2 CM g0 g1 g2 g3 g4 g5 g6 g7 g8 g9 g10 g11 g12 g13 hh1
    obtain ⟨k, hk⟩ : ∃ k, w2.heap.size = k := ⟨_, rfl⟩
    have HK : Hid (w2.heap.size = k) := hk
    have hhk : h < k := by have := H2.out.2.2.2; omega
    obtain ⟨g0, g1, g2, g3, g4, g5, g6, g7, g8, g9, g10, g11, g12, g13⟩ := (show Has w2 h (oL o ⟨po, pc, qo, qc⟩) from H2.out.1).g14 hhk
    have hne : Nonempty (MW k w2) := MW.some hk
    have C1 : ∀ W, Calls Try.prog 24 #[.int .i64 o.dn] W fun e w' => e = .returned (.string (tx (pI o.dn))) ∧ Below W.heap.size W w' := fun W => rput_int o.dn W F.out.dn
    have C2 : ∀ W, Calls Try.prog 24 #[.int .i64 o.ds] W fun e w' => e = .returned (.string (tx (pI o.ds))) ∧ Below W.heap.size W w' := fun W => rput_int o.ds W F.out.ds
    have C3 : ∀ W, Calls Try.prog 24 #[.int .i64 o.time] W fun e w' => e = .returned (.string (tx (pI o.time))) ∧ Below W.heap.size W w' := fun W => rput_int o.time W F.out.time
    have l1 := pI_len o.dn
    have l2 := pI_len o.ds
    have l3 := pI_len o.time
    have hb1 : ¬ (9223372036854775807 < (tx (pI o.dn)).size + (tx (pI o.ds)).size) := by rw [tx_len, tx_len]; omega
    have hb2 : ¬ (9223372036854775807 < (tx (pI o.dn) ++ tx (pI o.ds)).size + (tx (pI o.time)).size) := by rw [tx_add, tx_len, tx_len, List.length_append]; omega
    go_upto_region 3 with fail
    refine wp_region_mild hk (by kernel_rfl) (by kernel_rfl) ?_
    repeat (go_big_quiet_step ((go_at_call 24; first | (with_reducible refine (C1 _).mono ?_; rintro e w3 ⟨rfl, b⟩; exact ⟨rfl, MW.later _ b⟩) | (with_reducible refine (C2 _).mono ?_; rintro e w3 ⟨rfl, b⟩; exact ⟨rfl, MW.later _ b⟩) | (with_reducible refine (C3 _).mono ?_; rintro e w3 ⟨rfl, b⟩; exact ⟨rfl, MW.later _ b⟩))))
    refine wpQuiet_nil ?_
    intro _ hw'
    obtain ⟨rq, rfl⟩ := hw'
    have H3 : Hid (OBox w h o ⟨po, pc, qo, qc⟩ rq.w) := H2.out.later (HK.out.symm ▸ rq.h.1)
    have T3 : tx (pI o.dn) ++ tx (pI o.ds) ++ tx (pI o.time) = tx (pI o.dn ++ (pI o.ds ++ pI o.time)) := by rw [tx_add, tx_add, List.append_assoc]
    rw [T3]
    have L3 : Hid ((pI o.dn ++ (pI o.ds ++ pI o.time)).length ≤ 27) := by show (pI o.dn ++ (pI o.ds ++ pI o.time)).length ≤ 27; simp only [List.length_append]; omega
    clear T3 H2 HK hhk g0 g1 g2 g3 g4 g5 g6 g7 g8 g9 g10 g11 g12 g13 hne C1 C2 C3 l1 l2 l3 hb1 hb2 hk
    obtain ⟨w3, hw3⟩ : ∃ w3, rq.w = w3 := ⟨_, rfl⟩
    rw [hw3] at H3 ⊢
    clear hw3
    obtain ⟨l0, hl0⟩ : ∃ l0, pI o.dn ++ (pI o.ds ++ pI o.time) = l0 := ⟨_, rfl⟩
    have HL0 : Hid (pI o.dn ++ (pI o.ds ++ pI o.time) = l0) := hl0
    rw [hl0] at L3 ⊢
    clear hl0
    go_wp2_with fail
    go_loopg [6, 7] o.deps.length (fun n sv iv wr => ∃ i : Nat, i + n = o.deps.length ∧ iv = .int .i64 i ∧ sv = .string (tx (l0 ++ (o.deps.take i).flatMap pI)) ∧ Hid (OBox w h o ⟨po, pc, qo, qc⟩ wr))
    case atStart => exact ⟨0, by omega, rfl, by simp, H3.out⟩
    case round =>
      clear H3
      obtain ⟨i, hin, rfl, rfl, HJ⟩ := hrel
      obtain ⟨_, _, _, u3, _, _, _, _, _, _, _, _, _, _⟩ := HJ.out.1.f14
      by_cases hi : i < o.deps.length
      · obtain ⟨x, hx⟩ : ∃ x, o.deps[i]? = some x := ⟨_, List.getElem?_eq_getElem hi⟩
        obtain ⟨bk, off, rfl, hbk, hc⟩ := HJ.out.2.1.1 (by rw [flatI_len]; omega)
        have c0 := hc _ _ (flatI_at o.deps i hx)
        have hxm := F.out.deps x (List.mem_of_getElem? hx)
        have l9 := F.out.len
        have l1 := pI_len x
        have l2 := flatI_le (o.deps.take i)
        have l4 : (o.deps.take i).length ≤ 16 := by have := F.out.len; simp only [List.length_take]; omega
        have hb1 : ¬ (9223372036854775807 < (tx (l0 ++ (o.deps.take i).flatMap pI)).size + (tx (pI x)).size) := by have := L3.out; rw [tx_len, tx_len, List.length_append]; omega
        have HT : Hid (tx (l0 ++ (o.deps.take i).flatMap pI) ++ tx (pI x) = tx (l0 ++ (o.deps.take (i + 1)).flatMap pI)) := by
          show tx _ ++ tx _ = tx _
          rw [tx_add, List.take_add_one, hx]
          simp
        have hil : (i : Int) < (o.deps.length : Int) := by omega
        clear hc hx l1 l2 l4
        go_wp2_with (go_at_call 24; refine (rput_int x _ hxm).mono ?_; rintro e w4 ⟨rfl, b4⟩)
        go_roundg (gk - 1)
        case measure => omega
        case rel => exact ⟨i + 1, by omega, by go_num, congrArg Value.string HT.out, HJ.out.later b4⟩
      · have hd : decide ((i : Int) < (o.deps.length : Int)) = false := decide_eq_false (by omega)
        rw [List.take_of_length_le (by omega)]
        have hil : ¬ (i : Int) < (o.deps.length : Int) := by omega
        clear hin
        go_upto_region 8 with fail
        obtain ⟨k, hk⟩ : ∃ k, wr.heap.size = k := ⟨_, rfl⟩
        have HK : Hid (wr.heap.size = k) := hk
        have hhk : h < k := by have := HJ.out.2.2.2; omega
        clear u3
        obtain ⟨g0, g1, g2, g3, g4, g5, g6, g7, g8, g9, g10, g11, g12, g13⟩ := (show Has wr h (oL o ⟨po, pc, qo, qc⟩) from HJ.out.1).g14 hhk
        have hne : Nonempty (MW k wr) := MW.some hk
        have f1 := F.out.type
        have f2 := F.out.id
        have f3 := F.out.field
        have f4 := F.out.kind
        have f5 := flatI_le o.deps
        have f6 := F.out.len
        have f7 := L3.out
        have C1 : ∀ W, Calls Try.prog 24 #[.int .i64 (o.kind)] W fun e w' => e = .returned (.string (tx (pI (o.kind)))) ∧ Below W.heap.size W w' := fun W => rput_int (o.kind) W (by omega)
        have l1 := pI_len (o.kind)
        have C2 : ∀ W, Calls Try.prog 24 #[.int .i64 ((o.type.size : Int))] W fun e w' => e = .returned (.string (tx (pI ((o.type.size : Int))))) ∧ Below W.heap.size W w' := fun W => rput_int ((o.type.size : Int)) W (by omega)
        have l2 := pI_len ((o.type.size : Int))
        have C3 : ∀ W, Calls Try.prog 24 #[.int .i64 ((o.id.size : Int))] W fun e w' => e = .returned (.string (tx (pI ((o.id.size : Int))))) ∧ Below W.heap.size W w' := fun W => rput_int ((o.id.size : Int)) W (by omega)
        have l3 := pI_len ((o.id.size : Int))
        have C4 : ∀ W, Calls Try.prog 24 #[.int .i64 ((o.field.size : Int))] W fun e w' => e = .returned (.string (tx (pI ((o.field.size : Int))))) ∧ Below W.heap.size W w' := fun W => rput_int ((o.field.size : Int)) W (by omega)
        have l4 := pI_len ((o.field.size : Int))
        have hb1 : ¬ (9223372036854775807 < (tx (l0 ++ o.deps.flatMap pI)).size + (tx (pI o.kind)).size) := by simp only [ByteArray.size_append, tx_len, List.length_append]; omega
        have hb2 : ¬ (9223372036854775807 < (tx (l0 ++ o.deps.flatMap pI) ++ tx (pI o.kind)).size + (tx (pI (o.type.size : Int))).size) := by simp only [ByteArray.size_append, tx_len, List.length_append]; omega
        have hb3 : ¬ (9223372036854775807 < (tx (l0 ++ o.deps.flatMap pI) ++ tx (pI o.kind) ++ tx (pI (o.type.size : Int))).size + (o.type).size) := by simp only [ByteArray.size_append, tx_len, List.length_append]; omega
        have hb4 : ¬ (9223372036854775807 < (tx (l0 ++ o.deps.flatMap pI) ++ tx (pI o.kind) ++ tx (pI (o.type.size : Int)) ++ o.type).size + (tx (pI (o.id.size : Int))).size) := by simp only [ByteArray.size_append, tx_len, List.length_append]; omega
        have hb5 : ¬ (9223372036854775807 < (tx (l0 ++ o.deps.flatMap pI) ++ tx (pI o.kind) ++ tx (pI (o.type.size : Int)) ++ o.type ++ tx (pI (o.id.size : Int))).size + (o.id).size) := by simp only [ByteArray.size_append, tx_len, List.length_append]; omega
        have hb6 : ¬ (9223372036854775807 < (tx (l0 ++ o.deps.flatMap pI) ++ tx (pI o.kind) ++ tx (pI (o.type.size : Int)) ++ o.type ++ tx (pI (o.id.size : Int)) ++ o.id).size + (tx (pI (o.field.size : Int))).size) := by simp only [ByteArray.size_append, tx_len, List.length_append]; omega
        have hb7 : ¬ (9223372036854775807 < (tx (l0 ++ o.deps.flatMap pI) ++ tx (pI o.kind) ++ tx (pI (o.type.size : Int)) ++ o.type ++ tx (pI (o.id.size : Int)) ++ o.id ++ tx (pI (o.field.size : Int))).size + (o.field).size) := by simp only [ByteArray.size_append, tx_len, List.length_append]; omega
        clear f1 f2 f3 f4 f5 f6 f7 l1 l2 l3 l4
        refine wp_region_mild hk (by kernel_rfl) (by kernel_rfl) ?_
        try dsimp only [List.append]
        repeat (go_big_quiet_step ((go_at_call 24; first | (with_reducible refine (C1 _).mono ?_; rintro e w3 ⟨rfl, b⟩; exact ⟨rfl, MW.later _ b⟩) | (with_reducible refine (C2 _).mono ?_; rintro e w3 ⟨rfl, b⟩; exact ⟨rfl, MW.later _ b⟩) | (with_reducible refine (C3 _).mono ?_; rintro e w3 ⟨rfl, b⟩; exact ⟨rfl, MW.later _ b⟩) | (with_reducible refine (C4 _).mono ?_; rintro e w3 ⟨rfl, b⟩; exact ⟨rfl, MW.later _ b⟩))))
        refine wpQuiet_nil ?_
        intro _ hw'
        obtain ⟨rq, rfl⟩ := hw'
        have HT : tx (l0 ++ o.deps.flatMap pI) ++ tx (pI o.kind) ++ tx (pI (o.type.size : Int)) ++ o.type ++ tx (pI (o.id.size : Int)) ++ o.id ++ tx (pI (o.field.size : Int)) ++ o.field = tx (headO o) := by
          rw [tx_add, tx_add, tx_txt, tx_add, tx_txt, tx_add, tx_txt, ← HL0.out]
          exact congrArg tx (by simp [headO, pT, pI])
        rw [HT]
        have H3 : Hid (OBox w h o ⟨po, pc, qo, qc⟩ rq.w) := HJ.out.later (HK.out.symm ▸ rq.h.1)
        clear HT HK hhk g0 g1 g2 g3 g4 g5 g6 g7 g8 g9 g10 g11 g12 g13 hne C1 C2 C3 C4 hb1 hb2 hb3 hb4 hb5 hb6 hb7 hk HJ
        obtain ⟨w3, hw3⟩ : ∃ w3, rq.w = w3 := ⟨_, rfl⟩
        rw [hw3] at H3 ⊢
        clear hw3
        go_upto_region 9 with fail
        obtain ⟨k, hk⟩ : ∃ k, w3.heap.size = k := ⟨_, rfl⟩
        have HK : Hid (w3.heap.size = k) := hk
        have hhk : h < k := by have := H3.out.2.2.2; omega
        obtain ⟨g0, g1, g2, g3, g4, g5, g6, g7, g8, g9, g10, g11, g12, g13⟩ := (show Has w3 h (oL o ⟨po, pc, qo, qc⟩) from H3.out.1).g14 hhk
        have hne : Nonempty (MW k w3) := MW.some hk
        have f1 := F.out.value
        have C1 : ∀ W, Calls Try.prog 24 #[.int .i64 ((o.value.size : Int))] W fun e w' => e = .returned (.string (tx (pI ((o.value.size : Int))))) ∧ Below W.heap.size W w' := fun W => rput_int ((o.value.size : Int)) W (by omega)
        have l1 := pI_len ((o.value.size : Int))
        have hb1 : ¬ (9223372036854775807 < (tx (pI (o.value.size : Int))).size + (o.value).size) := by simp only [ByteArray.size_append, tx_len, List.length_append]; omega
        clear f1 l1
        refine wp_region_mild hk (by kernel_rfl) (by kernel_rfl) ?_
        try dsimp only [List.append]
        repeat (go_big_quiet_step ((go_at_call 24; first | (with_reducible refine (C1 _).mono ?_; rintro e w3 ⟨rfl, b⟩; exact ⟨rfl, MW.later _ b⟩))))
        refine wpQuiet_nil ?_
        intro _ hw'
        obtain ⟨rq2, rfl⟩ := hw'
        have HT : tx (pI (o.value.size : Int)) ++ o.value = tx (pT o.value) := by
          rw [tx_txt]
          exact congrArg tx (by simp [pT, pI])
        rw [HT]
        have H4 : Hid (OBox w h o ⟨po, pc, qo, qc⟩ rq2.w) := H3.out.later (HK.out.symm ▸ rq2.h.1)
        clear HT HK hhk g0 g1 g2 g3 g4 g5 g6 g7 g8 g9 g10 g11 g12 g13 hne C1 hb1 hk H3
        obtain ⟨w4, hw4⟩ : ∃ w4, rq2.w = w4 := ⟨_, rfl⟩
        rw [hw4] at H4 ⊢
        clear hw4 rq2
        go_upto_region 10 with fail
        obtain ⟨k, hk⟩ : ∃ k, w4.heap.size = k := ⟨_, rfl⟩
        have HK : Hid (w4.heap.size = k) := hk
        have hhk : h < k := by have := H4.out.2.2.2; omega
        obtain ⟨g0, g1, g2, g3, g4, g5, g6, g7, g8, g9, g10, g11, g12, g13⟩ := (show Has w4 h (oL o ⟨po, pc, qo, qc⟩) from H4.out.1).g14 hhk
        have hne : Nonempty (MW k w4) := MW.some hk
        have f1 := F.out.ref
        have C1 : ∀ W, Calls Try.prog 24 #[.int .i64 (o.rn)] W fun e w' => e = .returned (.string (tx (pI (o.rn)))) ∧ Below W.heap.size W w' := fun W => rput_int (o.rn) W (by omega)
        have l1 := pI_len (o.rn)
        have C2 : ∀ W, Calls Try.prog 24 #[.int .i64 (o.rs)] W fun e w' => e = .returned (.string (tx (pI (o.rs)))) ∧ Below W.heap.size W w' := fun W => rput_int (o.rs) W (by omega)
        have l2 := pI_len (o.rs)
        have hb1 : ¬ (9223372036854775807 < (tx (pI o.rn)).size + (tx (pI o.rs)).size) := by simp only [ByteArray.size_append, tx_len, List.length_append]; omega
        clear f1 l1 l2
        refine wp_region_mild hk (by kernel_rfl) (by kernel_rfl) ?_
        try dsimp only [List.append]
        repeat (go_big_quiet_step ((go_at_call 24; first | (with_reducible refine (C1 _).mono ?_; rintro e w3 ⟨rfl, b⟩; exact ⟨rfl, MW.later _ b⟩) | (with_reducible refine (C2 _).mono ?_; rintro e w3 ⟨rfl, b⟩; exact ⟨rfl, MW.later _ b⟩))))
        refine wpQuiet_nil ?_
        intro _ hw'
        obtain ⟨rq2, rfl⟩ := hw'
        have HT : tx (pI o.rn) ++ tx (pI o.rs) = tx (pD (o.rn, o.rs)) := by
          rw [tx_add]
          rfl
        rw [HT]
        have H5 : Hid (OBox w h o ⟨po, pc, qo, qc⟩ rq2.w) := H4.out.later (HK.out.symm ▸ rq2.h.1)
        clear HT HK hhk g0 g1 g2 g3 g4 g5 g6 g7 g8 g9 g10 g11 g12 g13 hne C1 C2 hb1 hk H4
        obtain ⟨w5, hw5⟩ : ∃ w5, rq2.w = w5 := ⟨_, rfl⟩
        rw [hw5] at H5 ⊢
        clear hw5 rq2
        obtain ⟨_, _, _, _, u4, _, _, _, _, u9, u10, _, _, u13⟩ := H5.out.1.f14
        have hk : o.kind = 0 ∨ o.kind = 1 ∨ o.kind = 2 ∨ o.kind = 3 ∨ o.kind = 4 ∨ o.kind = 5 := by have := F.out.kind; omega
        have hd := headO_len F.out
        have hv := pT_len o.value
        have hw := F.out.value
        have hr := pD_len (o.rn, o.rs)
        rcases hk with hk | hk | hk | hk | hk | hk
        · have q0 : (o.kind == 0) = true := by rw [hk]; rfl
          have q1 : (o.kind == 1) = false := by rw [hk]; rfl
          have q2 : (o.kind == 2) = false := by rw [hk]; rfl
          have q3 : (o.kind == 3) = false := by rw [hk]; rfl
          have q4 : (o.kind == 4) = false := by rw [hk]; rfl
          have q5 : (o.kind == 5) = false := by rw [hk]; rfl
          have hb : ¬ (9223372036854775807 < (tx (headO o)).size + (tx (pT o.value)).size) := by simp only [ByteArray.size_append, tx_len, List.length_append]; omega
          have HT : Hid (tx (headO o) ++ tx (pT o.value) = tx (putO o)) := by
            show tx (headO o) ++ tx (pT o.value) = tx (putO o)
            rw [tx_add]
            exact congrArg tx (by unfold putO tailO; simp [hk, pD])
          go_wp2
          go_ret2
          exact ⟨by rw [A.out.1, A.out.2, ← HT.out]; rfl, H5.out.2.2.1⟩
        · have q0 : (o.kind == 0) = false := by rw [hk]; rfl
          have q1 : (o.kind == 1) = true := by rw [hk]; rfl
          have q2 : (o.kind == 2) = false := by rw [hk]; rfl
          have q3 : (o.kind == 3) = false := by rw [hk]; rfl
          have q4 : (o.kind == 4) = false := by rw [hk]; rfl
          have q5 : (o.kind == 5) = false := by rw [hk]; rfl
          have hn := F.out.num hk
          have b1 := foldI_lt hn.1
          have b2 := foldI_lt hn.2
          go_upto_region 16 with fail
          clear u4 u9 u10 u13
          obtain ⟨k, hkk⟩ : ∃ k, w5.heap.size = k := ⟨_, rfl⟩
          have HK : Hid (w5.heap.size = k) := hkk
          have hhk : h < k := by have := H5.out.2.2.2; omega
          obtain ⟨g0, g1, g2, g3, g4, g5, g6, g7, g8, g9, g10, g11, g12, g13⟩ := (show Has w5 h (oL o ⟨po, pc, qo, qc⟩) from H5.out.1).g14 hhk
          have hne : Nonempty (MW k w5) := MW.some hkk
          have D1 : ∀ W, Calls Try.prog 25 #[.int .i64 o.re] W fun e w' => e = .returned (.int .i64 (foldI o.re)) ∧ w' = W := fun W => rfold_any o.re W hn.1
          have D2 : ∀ W, Calls Try.prog 25 #[.int .i64 o.im] W fun e w' => e = .returned (.int .i64 (foldI o.im)) ∧ w' = W := fun W => rfold_any o.im W hn.2
          have C1 : ∀ W, Calls Try.prog 24 #[.int .i64 (foldI o.re)] W fun e w' => e = .returned (.string (tx (pI (foldI o.re)))) ∧ Below W.heap.size W w' := fun W => rput_int (foldI o.re) W (by omega)
          have l1 := pI_len (foldI o.re)
          have C2 : ∀ W, Calls Try.prog 24 #[.int .i64 (foldI o.im)] W fun e w' => e = .returned (.string (tx (pI (foldI o.im)))) ∧ Below W.heap.size W w' := fun W => rput_int (foldI o.im) W (by omega)
          have l2 := pI_len (foldI o.im)
          have hb1 : ¬ (9223372036854775807 < (tx (headO o)).size + (tx (pI (foldI o.re))).size) := by simp only [ByteArray.size_append, tx_len, List.length_append]; omega
          have hb2 : ¬ (9223372036854775807 < (tx (headO o) ++ tx (pI (foldI o.re))).size + (tx (pI (foldI o.im))).size) := by simp only [ByteArray.size_append, tx_len, List.length_append]; omega
          clear b1 b2 l1 l2 hd hv hw hr
          refine wp_region_mild hkk (by kernel_rfl) (by kernel_rfl) ?_
          try dsimp only [List.append]
          repeat (go_big_quiet_step ((first | (go_at_call 25; first | (with_reducible refine (D1 _).mono ?_; rintro e w3 ⟨rfl, b⟩; exact ⟨rfl, MW.same _ b⟩) | (with_reducible refine (D2 _).mono ?_; rintro e w3 ⟨rfl, b⟩; exact ⟨rfl, MW.same _ b⟩)) | (go_at_call 24; first | (with_reducible refine (C1 _).mono ?_; rintro e w3 ⟨rfl, b⟩; exact ⟨rfl, MW.later _ b⟩) | (with_reducible refine (C2 _).mono ?_; rintro e w3 ⟨rfl, b⟩; exact ⟨rfl, MW.later _ b⟩)))))
          refine wpQuiet_nil ?_
          intro _ hw'
          obtain ⟨rq2, rfl⟩ := hw'
          have HT : Hid (tx (headO o) ++ tx (pI (foldI o.re)) ++ tx (pI (foldI o.im)) = tx (putO o)) := by
            show tx (headO o) ++ tx (pI (foldI o.re)) ++ tx (pI (foldI o.im)) = tx (putO o)
            rw [tx_add, tx_add]
            exact congrArg tx (by unfold putO tailO; simp [hk, pD])
          go_wp2
          go_ret2
          exact ⟨by rw [A.out.1, A.out.2, ← HT.out]; rfl, (H5.out.later (HK.out.symm ▸ rq2.h.1)).2.2.1⟩
        · have q0 : (o.kind == 0) = false := by rw [hk]; rfl
          have q1 : (o.kind == 1) = false := by rw [hk]; rfl
          have q2 : (o.kind == 2) = true := by rw [hk]; rfl
          have q3 : (o.kind == 3) = false := by rw [hk]; rfl
          have q4 : (o.kind == 4) = false := by rw [hk]; rfl
          have q5 : (o.kind == 5) = false := by rw [hk]; rfl
          have hb : ¬ (9223372036854775807 < (tx (headO o)).size + (tx (pT o.value)).size) := by simp only [ByteArray.size_append, tx_len, List.length_append]; omega
          have HT : Hid (tx (headO o) ++ tx (pT o.value) = tx (putO o)) := by
            show tx (headO o) ++ tx (pT o.value) = tx (putO o)
            rw [tx_add]
            exact congrArg tx (by unfold putO tailO; simp [hk, pD])
          go_wp2
          go_ret2
          exact ⟨by rw [A.out.1, A.out.2, ← HT.out]; rfl, H5.out.2.2.1⟩
        · have q0 : (o.kind == 0) = false := by rw [hk]; rfl
          have q1 : (o.kind == 1) = false := by rw [hk]; rfl
          have q2 : (o.kind == 2) = false := by rw [hk]; rfl
          have q3 : (o.kind == 3) = true := by rw [hk]; rfl
          have q4 : (o.kind == 4) = false := by rw [hk]; rfl
          have q5 : (o.kind == 5) = false := by rw [hk]; rfl
          have hdl := F.out.dots.1
          have l1 := pI_len (o.dots.length : Int)
          have hb1 : ¬ (9223372036854775807 < (tx (headO o)).size + (tx (pI (o.dots.length : Int))).size) := by simp only [tx_len]; omega
          have HM : Hid (∀ y ∈ o.dots, (0 ≤ y.1 ∧ y.1 < 9223372036854775808) ∧ 0 ≤ y.2 ∧ y.2 < 9223372036854775808) := F.out.dots.2
          have LM : Hid ((headO o ++ pI (o.dots.length : Int)).length ≤ 1009) := by show (headO o ++ pI (o.dots.length : Int)).length ≤ 1009; rw [List.length_append]; omega
          go_wp2_with (go_at_call 24; refine (rput_int (o.dots.length : Int) _ (by omega)).mono ?_; rintro e w6 ⟨rfl, b6⟩; rw [tx_add])
          have H6 : Hid (OBox w h o ⟨po, pc, qo, qc⟩ w6) := H5.out.later b6
          clear b6 H5 hb1 l1 hd hv hw hr u4 u9 u10 u13
          obtain ⟨l1, hl1⟩ : ∃ l1, headO o ++ pI (o.dots.length : Int) = l1 := ⟨_, rfl⟩
          have HL1 : Hid (headO o ++ pI (o.dots.length : Int) = l1) := hl1
          rw [hl1] at LM
          try rw [hl1]
          clear hl1
          go_loopg [6, 10] o.dots.length (fun n sv iv wr => ∃ i : Nat, i + n = o.dots.length ∧ iv = .int .i64 i ∧ sv = .string (tx (l1 ++ (o.dots.take i).flatMap pD)) ∧ Hid (OBox w h o ⟨po, pc, qo, qc⟩ wr))
          case atStart => exact ⟨0, by omega, rfl, by rw [← HL1.out]; simp [tx_add], H6.out⟩
          case round =>
            clear H6
            obtain ⟨i, hin, rfl, rfl, HJ⟩ := hrel
            obtain ⟨_, _, _, _, _, _, _, _, _, _, _, _, _, u13⟩ := HJ.out.1.f14
            by_cases hi : i < o.dots.length
            · obtain ⟨x, hx⟩ : ∃ x, o.dots[i]? = some x := ⟨_, List.getElem?_eq_getElem hi⟩
              obtain ⟨bk, off, rfl, hbk, hc⟩ := HJ.out.2.1.2 (by rw [flatD_len]; omega)
              have hxm := HM.out x (List.mem_of_getElem? hx)
              have m1 := pI_len x.1
              have m2 := pI_len x.2
              have m3 := flatD_le (o.dots.take i)
              have m4 : (o.dots.take i).length ≤ 64 := by simp only [List.length_take]; omega
              have m5 := LM.out
              have HT : Hid (tx (l1 ++ (o.dots.take i).flatMap pD) ++ tx (pI x.1) ++ tx (pI x.2) = tx (l1 ++ (o.dots.take (i + 1)).flatMap pD)) := by
                show tx _ ++ tx _ ++ tx _ = tx _
                rw [tx_add, tx_add, List.take_add_one, hx]
                simp [pD]
              have hil : (i : Int) < (o.dots.length : Int) := by omega
              obtain ⟨x1, x2⟩ := x
              simp only at m1 m2 HT hxm
              obtain ⟨k, hkk⟩ : ∃ k, wr.heap.size = k := ⟨_, rfl⟩
              have HK : Hid (wr.heap.size = k) := hkk
              have hhk : h < k := by have := HJ.out.2.2.2; omega
              obtain ⟨g0, g1, g2, g3, g4, g5, g6, g7, g8, g9, g10, g11, g12, g13⟩ := (show Has wr h (oL o ⟨po, pc, some ⟨bk, off, none⟩, qc⟩) from HJ.out.1).g14 hhk
              have hne : Nonempty (MW k wr) := MW.some hkk
              have c0 : ∀ r : MW k wr, r.w.cell? ⟨bk, off + i * 2, none⟩ = some (.int .i64 x1) := MW.cell (hc _ _ (flatD_at o.dots i hx).1) (by omega)
              have c1 : ∀ r : MW k wr, r.w.cell? ⟨bk, off + i * 2 + 1, none⟩ = some (.int .i64 x2) := MW.cell (hc _ _ (flatD_at o.dots i hx).2) (by omega)
              have C1 : ∀ W, Calls Try.prog 24 #[.int .i64 x1] W fun e w' => e = .returned (.string (tx (pI x1))) ∧ Below W.heap.size W w' := fun W => rput_int x1 W hxm.1
              have C2 : ∀ W, Calls Try.prog 24 #[.int .i64 x2] W fun e w' => e = .returned (.string (tx (pI x2))) ∧ Below W.heap.size W w' := fun W => rput_int x2 W hxm.2
              have hb1 : ¬ (9223372036854775807 < (tx (l1 ++ (o.dots.take i).flatMap pD)).size + (tx (pI x1)).size) := by simp only [tx_len, List.length_append]; omega
              have hb2 : ¬ (9223372036854775807 < (tx (l1 ++ (o.dots.take i).flatMap pD) ++ tx (pI x1)).size + (tx (pI x2)).size) := by simp only [ByteArray.size_append, tx_len, List.length_append]; omega
              clear m1 m2 m3 m4 m5 hx hc
              go_wp2_with fail
              refine wp_region_mild hkk (by kernel_rfl) (by kernel_rfl) ?_
              try dsimp only [List.append]
              repeat (go_big_quiet_step ((go_at_call 24; first | (with_reducible refine (C1 _).mono ?_; rintro e w3 ⟨rfl, b⟩; exact ⟨rfl, MW.later _ b⟩) | (with_reducible refine (C2 _).mono ?_; rintro e w3 ⟨rfl, b⟩; exact ⟨rfl, MW.later _ b⟩))))
              refine wpQuiet_nil ?_
              intro _ hw'
              obtain ⟨rq2, rfl⟩ := hw'
              go_wp2
              go_roundg (gk - 1)
              case measure => omega
              case rel => exact ⟨i + 1, by omega, by go_num, congrArg Value.string HT.out, HJ.out.later (HK.out.symm ▸ rq2.h.1)⟩
            · have hdc : decide ((i : Int) < (o.dots.length : Int)) = false := decide_eq_false (by omega)
              have hil : ¬ (i : Int) < (o.dots.length : Int) := by omega
              have HT : Hid (tx (l1 ++ (o.dots.take i).flatMap pD) = tx (putO o)) := by
                show tx _ = tx (putO o)
                rw [List.take_of_length_le (by omega), ← HL1.out]
                exact congrArg tx (by unfold putO tailO; simp [hk])
              go_wp2
              go_ret2
              exact ⟨by rw [A.out.1, A.out.2, ← HT.out]; rfl, HJ.out.2.2.1⟩
        · have q0 : (o.kind == 0) = false := by rw [hk]; rfl
          have q1 : (o.kind == 1) = false := by rw [hk]; rfl
          have q2 : (o.kind == 2) = false := by rw [hk]; rfl
          have q3 : (o.kind == 3) = false := by rw [hk]; rfl
          have q4 : (o.kind == 4) = true := by rw [hk]; rfl
          have q5 : (o.kind == 5) = false := by rw [hk]; rfl
          have hb : ¬ (9223372036854775807 < (tx (headO o)).size + (tx (pD (o.rn, o.rs))).size) := by simp only [ByteArray.size_append, tx_len, List.length_append]; omega
          have hb2 : ¬ (9223372036854775807 < (tx (headO o) ++ tx (pD (o.rn, o.rs))).size + (tx (pT o.value)).size) := by simp only [ByteArray.size_append, tx_len, List.length_append]; omega
          have HT : Hid (tx (headO o) ++ tx (pD (o.rn, o.rs)) ++ tx (pT o.value) = tx (putO o)) := by
            show tx (headO o) ++ tx (pD (o.rn, o.rs)) ++ tx (pT o.value) = tx (putO o)
            rw [tx_add, tx_add]
            exact congrArg tx (by unfold putO tailO; simp [hk, pD])
          go_wp2
          go_ret2
          exact ⟨by rw [A.out.1, A.out.2, ← HT.out]; rfl, H5.out.2.2.1⟩
        · have q0 : (o.kind == 0) = false := by rw [hk]; rfl
          have q1 : (o.kind == 1) = false := by rw [hk]; rfl
          have q2 : (o.kind == 2) = false := by rw [hk]; rfl
          have q3 : (o.kind == 3) = false := by rw [hk]; rfl
          have q4 : (o.kind == 4) = false := by rw [hk]; rfl
          have q5 : (o.kind == 5) = true := by rw [hk]; rfl
          have hb : ¬ (9223372036854775807 < (tx (headO o)).size + (tx (pD (o.rn, o.rs))).size) := by simp only [ByteArray.size_append, tx_len, List.length_append]; omega
          have HT : Hid (tx (headO o) ++ tx (pD (o.rn, o.rs)) = tx (putO o)) := by
            show tx (headO o) ++ tx (pD (o.rn, o.rs)) = tx (putO o)
            rw [tx_add]
            exact congrArg tx (by unfold putO tailO; simp [hk, pD])
          go_wp2
          go_ret2
          exact ⟨by rw [A.out.1, A.out.2, ← HT.out]; rfl, H5.out.2.2.1⟩
end Go.Proofs.Ytjfgccjdkflfoaa

