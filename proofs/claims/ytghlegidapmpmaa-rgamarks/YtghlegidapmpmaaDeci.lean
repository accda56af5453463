/-
  The document's own way to tell a number's digits (Decimal, at a number that is not below nought), by a contract: the same plain function as strconv.Itoa's.
-/
import Derived.Test.YtghlegidapmpmaaBytes
import Derived.Lib.ItoaNum
import Derived.Lib.ItoaLen
import Derived.Deep.LoopGhost
namespace Go.Proofs.Ytghlegidapmpmaa
open Go.RowKit
set_option linter.unusedVariables false

/-- The digits that are still to come. -/
def lead (s : Nat) : List UInt8 := if s = 0 then [] else Lib.decDigits s

theorem lead_step (s : Nat) (h : 0 < s) : lead s = lead (s / 10) ++ [UInt8.ofNat (48 + s % 10)] := by
  unfold lead
  rw [if_neg (by omega), Lib.decDigits]
  by_cases h10 : s < 10
  · have e : s % 10 = s := by omega
    rw [dif_pos h10, if_pos (by omega), e]; rfl
  · rw [dif_neg h10, if_neg (by omega)]

theorem lead_first (s : Nat) : Lib.decDigits s = lead (s / 10) ++ [UInt8.ofNat (48 + s % 10)] := by
  by_cases h : s = 0
  · subst h; decide +kernel
  · rw [← lead_step s (by omega), lead, if_neg h]

/-- What the loop keeps. -/
def DecInv (x s : Nat) (l : List UInt8) : Prop := (l = [] ∧ s = x) ∨ (l ≠ [] ∧ lead s ++ l = Lib.decDigits x)

theorem DecInv.step {x s : Nat} {l : List UInt8} (h : DecInv x s l) (hg : 0 < s ∨ l = []) : DecInv x (s / 10) (UInt8.ofNat (48 + s % 10) :: l) := by
  right
  refine ⟨by simp, ?_⟩
  rcases h with ⟨rfl, rfl⟩ | ⟨hl, he⟩
  · exact (lead_first s).symm
  · have h0 : 0 < s := by rcases hg with h | h; exact h; exact absurd h hl
    rw [← he, lead_step s h0]; simp

theorem DecInv.last {x : Nat} {l : List UInt8} (h : DecInv x 0 l) (hl : l ≠ []) : l = Lib.decDigits x := by
  rcases h with ⟨rfl, _⟩ | ⟨_, he⟩
  · exact absurd rfl hl
  · simpa [lead] using he

theorem DecInv.short {x s : Nat} {l : List UInt8} (h : DecInv x s l) (hx : x < 9223372036854775808) : l.length ≤ 21 := by
  rcases h with ⟨rfl, _⟩ | ⟨_, he⟩
  · simp
  · have h1 := congrArg List.length he
    have h2 := Lib.itoa_length_le (x : Int) (by omega) (by omega)
    rw [Lib.itoa_nonneg] at h2
    rw [List.length_append] at h1
    omega

theorem run_append_bnone (w : World) (ty : TypeId) (g n c cap : Nat) (hc : n ≤ c) : (Builtin.append_ #[61, 61] ty #[.slice (some ⟨g, 0, none⟩) n c, .slice none 0 cap]).run Try.prog w = .ok (.slice (some ⟨g, 0, none⟩) n c) w := by
  obtain ⟨i0, hi, hz0, hz1, hz2⟩ := info_parts Try.infoByte
  simp [Builtin.append_, run_underlying Try.underlying61, sizeOf, typeInfo, hi, Builtin.lenOf, Builtin.firstCells, loadCells, hc, storeCells]

/-- 'append([]byte{c}, out...)', out the call's own bytes. -/
theorem wpList_prepend_byte {ops : Array Oper} {rest : List Oper} {o : Oper} {a : Act} {Q : Exit → Act → World → Prop} (hgd : o.guard = none) (s x : Operand)
    (ho : o.op = .call { callee := .builtin .append, args := #[s, x], argTypes := #[61, 61] })
    {B : Nat} {v : Value} {l : List UInt8} {wr : World} {c : Int} (b : UInt8) (hc : c = (b.toNat : Int))
    (hs : a.eval s = .slice (some ⟨wr.heap.size, 0, none⟩) 1 1) (hx : a.eval x = v)
    (hown : wr.ownsRow B 5 1 v l.length (Vi.cells l)) (hlen : l.length ≤ 21) (hB : B ≤ wr.heap.size)
    (h : ∀ v' w', w'.ownsRow B 5 1 v' (b :: l).length (Vi.cells (b :: l)) → Below B wr w' → wpList Try.prog ops Q rest (a.put o.dst v') w') :
    wpList Try.prog ops Q (o :: rest) a (wr.alloc (.cells #[.int .u8 c] 5)) := by
  obtain ⟨i0, hi, hz0, hz1, hz2⟩ := info_parts Try.infoByte
  have O : (wr.alloc (.cells #[.int .u8 c] 5)).ownsRow B 5 1 (.slice (some ⟨wr.heap.size, 0, none⟩) 1 1) 1 [.int .u8 c] := by
    simpa using World.ownsRow_lit wr #[.int .u8 c] 1 (base := B) (e := 5) (size := 1) hB (by unfold maxLen; omega) (by simp)
  have hcs : Vi.cells (b :: l) = [.int .u8 c] ++ Vi.cells l := by rw [hc]; rfl
  have hbel : Below B wr (wr.alloc (.cells #[.int .u8 c] 5)) := (Below.refl _ _).alloc hB _
  have hown2 := hown.alloc (.cells #[.int .u8 c] 5)
  have hcase := hown.2
  rcases hcase with ⟨rfl, h0⟩ | ⟨g, cap, cur, rfl, _⟩
  · have hl : l = [] := List.eq_nil_of_length_eq_zero h0
    subst hl
    have h' := h _ _ (by rw [hcs]; exact O) hbel
    refine wpList_plain hgd fun K hK => ?_
    unfold Oper.wp execOp
    have hr := run_append_bnone (wr.alloc (.cells #[.int .u8 c] 5)) o.type wr.heap.size 1 1 0 (Nat.le_refl _)
    simp only [ho, resolve, invoke, builtin, Sem.run_bind, Sem.run_pure, Result.andThen_ok, List.map_toArray, List.map_cons, List.map_nil, hs, hx, hr]
    exact hK _ _ h'
  · refine wpList_append_own _ hgd s x 61 ho B 5 i0 (.int .u8 0) 1 1 Try.underlying61 hi hz0 hz1 hz2 rfl (by decide) _ 1 [.int .u8 c] hs O ⟨g, 0, none⟩ l.length cap (Vi.cells l) hx (by simp [Vi.cells]) ?_ ?_ ?_ ?_ (by simp; omega) ?_
    · intro j u hj
      have := hown2.cells (g := g) rfl j u hj
      rcases j with _ | j
      · simpa [Addr.add] using this
      · simpa [Addr.add] using this
    · intro u hu
      simp only [Vi.cells, List.mem_map] at hu
      obtain ⟨z, _, rfl⟩ := hu
      rfl
    · unfold maxLen; omega
    · omega
    · intro v' w' hown' hgrow _
      refine h v' w' ?_ ?_
      · rw [hcs]
        have e : (b :: l).length = 1 + l.length := by simp; omega
        rw [e]; exact hown'
      · refine hbel.grown hgrow (by simp; omega) ?_
        intro k hk
        simp [Value.ownBlock] at hk; omega

theorem own_form {w : World} {B n : Nat} {e : TypeId} {k : Nat} {v : Value} {xs : List Value} (hown : w.ownsRow B e k v n xs) : ∃ ao cap, v = .slice ao n cap := by
  rcases hown.2 with ⟨rfl, h0⟩ | ⟨g, cap, cur, rfl, _⟩
  · exact ⟨none, 0, by rw [h0]⟩
  · exact ⟨_, _, rfl⟩

theorem digit_byte (s : Nat) : (48 + (s : Int) % 10) = ((UInt8.ofNat (48 + s % 10)).toNat : Int) := by
  rw [UInt8.toNat_ofNat']; omega

set_option maxHeartbeats 1000000 in
set_option maxRecDepth 100000 in
theorem deci_any (x : Nat) (w : World) (hx : x < 9223372036854775808) :
    Calls Try.prog 7 #[.int .i64 x] w fun e w' => e = .returned (.string ⟨(Lib.decDigits x).toArray⟩) ∧ Below w.heap.size w w' := by
  have hneg : ¬ (x : Int) < 0 := by omega
  go_enter Try.func7, Try.ntmps7
  go_wp2
  go_loopg [3, 4] (x + 1) (fun m sv v wr => ∃ (s : Nat) (l : List UInt8), (∃ ao cap, v = .slice ao l.length cap) ∧ s ≤ x ∧ m = s + (if l.length = 0 then 1 else 0) ∧ Hid (DecInv x s l) ∧ sv = .int .u64 s ∧ wr.ownsRow w.heap.size 5 1 v l.length (Vi.cells l) ∧ Below w.heap.size w wr)
  case atStart => exact ⟨x, [], ⟨none, 0, rfl⟩, Nat.le_refl _, by simp, Or.inl ⟨rfl, rfl⟩, by first | rfl | go_num, World.ownsRow_nil _ _ _ _, Below.refl _ _⟩
  case round =>
    obtain ⟨s, l, ⟨ao, cap, rfl⟩, hsx, hm, HI, rfl, hown, hbel⟩ := hrel
    have hsz : w.heap.size ≤ wr.heap.size := hbel.size
    have hsh := HI.out.short hx
    have HM : Hid (gk = s + (if l.length = 0 then 1 else 0)) := hm
    clear hm
    by_cases hs0 : 0 < s
    · have hd : decide ((0 : Int) < (s : Int)) = true := by simp; omega
      go_wp2_with (at_builtin; refine wpList_prepend_byte rfl _ _ rfl (UInt8.ofNat (48 + s % 10)) (digit_byte s) rfl rfl hown hsh hsz ?_; intro v' w' hown' hbel')
      go_roundg (s / 10)
      case measure => have := HM.out; split at this <;> omega
      case rel => exact ⟨s / 10, UInt8.ofNat (48 + s % 10) :: l, own_form hown', by omega, by simp, HI.out.step (Or.inl hs0), by go_num, hown', hbel.trans hbel'⟩
    · have hs : s = 0 := by omega
      subst hs
      by_cases hl0 : l.length = 0
      · have hl : l = [] := List.eq_nil_of_length_eq_zero hl0
        subst hl
        go_wp2_with (at_builtin; refine wpList_prepend_byte rfl _ _ rfl (l := []) (UInt8.ofNat (48 + 0 % 10)) (by rfl) rfl rfl hown (by simp) hsz ?_; intro v' w' hown' hbel')
        go_roundg 0
        case measure => have := HM.out; simp at this; omega
        case rel => exact ⟨0, UInt8.ofNat (48 + 0 % 10) :: [], own_form hown', by omega, by simp, HI.out.step (Or.inr rfl), by go_num, hown', hbel.trans hbel'⟩
      · have HD : Hid (l = Lib.decDigits x) := HI.out.last (fun h => hl0 (by rw [h]; rfl))
        have hd : ((l.length : Int) == 0) = false := by simp; intro e; exact hl0 (by rw [e]; rfl)
        have hstr := run_string_own hown
        go_wp2_with fail
        go_ret
        exact ⟨by rw [← HD.out]; rfl, hbel⟩

end Go.Proofs.Ytghlegidapmpmaa
