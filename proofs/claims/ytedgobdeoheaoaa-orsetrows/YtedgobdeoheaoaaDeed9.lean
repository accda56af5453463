/-
  The laws' own dots and values: 'dot', 'value', by contracts.
-/
import Derived.Test.YtedgobdeoheaoaaOpen9
import Derived.Test.YtedgobdeoheaoaaDeci
import Derived.Test.YtedgobdeoheaoaaNum
namespace Go.Proofs.Ytedgobdeoheaoaa
open Go.RowKit Go.Shelf
set_option linter.unusedVariables false
set_option linter.unusedSimpArgs false

/-- What a function answers whose answer is a dot. -/
theorem ret_dot {fn : Func} {tmps : Array Value} {t : Tmp} {w : World} {g : Nat} {x y : Int} (h : fn.results = #[.cell t 32]) (ht : tmps[t]? = some (.pointer (some ⟨g, 0, none⟩))) (hg : Has w g [.int .i64 x, .int .i64 y]) :
    (results fn tmps).run Try.prog w = .ok (dv (x, y)) w := by
  have h2 := hg.at 0 rfl
  have h3 := hg.at 1 rfl
  simp [results, h, ht, h2, h3, go_sem]
  try rfl

/-- The i-th dot. -/
def dotN (i : Nat) : D2 := (((i % 3 : Nat) : Int), 1 + ((i / 3 : Nat) : Int))

set_option maxHeartbeats 400000 in
set_option maxRecDepth 100000 in
theorem dot_any (i : Nat) (hi : i < 64) (w : World) :
    Calls Try.prog 26 #[.int .i64 i] w fun e w' => e = .returned (dv (dotN i)) ∧ Below w.heap.size w w' := by
  have h1 : Int.tmod (i : Int) 3 = ((i % 3 : Nat) : Int) := by rw [Int.tmod_eq_emod_of_nonneg (by omega)]; omega
  have h2 : Int.tdiv (i : Int) 3 = ((i / 3 : Nat) : Int) := by rw [Int.tdiv_eq_ediv_of_nonneg (by omega)]; omega
  obtain ⟨a, ha⟩ : ∃ a, i % 3 = a := ⟨_, rfl⟩
  obtain ⟨b, hb⟩ : ∃ b, i / 3 = b := ⟨_, rfl⟩
  have ed : dotN i = ((a : Int), 1 + (b : Int)) := by unfold dotN; rw [ha, hb]
  rw [ed]
  rw [ha] at h1
  rw [hb] at h2
  have hb2 : b < 64 := by omega
  clear ha hb ed
  go_enter Try.func26, Try.ntmps26
  go_wp2
  exact bodyPost_ret (ret_dot rfl rfl (has_new w [.int .i64 (a : Int), .int .i64 (1 + (b : Int))] _)) rfl ⟨rfl, (Below.refl _ _).alloc (Nat.le_refl _) _⟩

/-- One of eight values. -/
def valN (m : Nat) : S8 := 118 :: Lib.decDigits m

theorem valN_str {m : Nat} : ((⟨#[118]⟩ : ByteArray) ++ (⟨(Lib.decDigits m).toArray⟩ : ByteArray)) = ⟨(valN m).toArray⟩ := by
  apply ByteArray.ext
  simp [valN]

theorem Deci_len {m : Nat} (h : m < 8) : (Lib.decDigits m).length ≤ 21 := by
  have : m = 0 ∨ m = 1 ∨ m = 2 ∨ m = 3 ∨ m = 4 ∨ m = 5 ∨ m = 6 ∨ m = 7 := by omega
  rcases this with rfl | rfl | rfl | rfl | rfl | rfl | rfl | rfl <;> decide +kernel

set_option maxHeartbeats 400000 in
set_option maxRecDepth 100000 in
theorem value_any (x : Int) (m : Nat) (hm : m < 8) (hand : bits .and .i64 x 7 = (m : Int)) (w : World) :
    Calls Try.prog 27 #[.int .i64 x] w fun e w' => e = .returned (.string ⟨(valN m).toArray⟩) ∧ Below w.heap.size w w' := by
  go_enter Try.func27, Try.ntmps27
  have hdl : (Lib.decDigits m).length ≤ 21 := Deci_len hm
  have e : ((⟨#[118]⟩ : ByteArray) ++ (⟨(Lib.decDigits m).toArray⟩ : ByteArray)) = ⟨(valN m).toArray⟩ := valN_str
  go_wp2_with fail
  refine (deci_any m _ (by omega)).mono ?_
  rintro e1 w1 ⟨rfl, b1⟩
  go_wp2
  go_ret
  exact ⟨by first | rfl | exact e | rw [e], b1⟩

end Go.Proofs.Ytedgobdeoheaoaa
