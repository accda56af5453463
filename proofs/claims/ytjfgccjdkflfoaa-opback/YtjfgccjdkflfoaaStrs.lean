/-
  Small equations: a string's bytes as a list; answers of a string and two numbers.
-/
import Derived.Test.YtjfgccjdkflfoaaChecked
import Derived.WalkKit
namespace Go.Proofs.Ytjfgccjdkflfoaa
open Go.RowKit
set_option linter.unusedVariables false

theorem size_list (s : ByteArray) : s.data.toList.length = s.size := by simp

theorem list_string (s : ByteArray) : (⟨s.data.toList.toArray⟩ : ByteArray) = s := by simp

theorem ret_sii {s s' : ByteArray} {a a' b b' : Int} (h1 : s = s') (h2 : a = a') (h3 : b = b') :
    Ending.returned (.tuple #[.string s, .int .i64 a, .int .i64 b]) = .returned (.tuple #[.string s', .int .i64 a', .int .i64 b']) := by rw [h1, h2, h3]

theorem join3 (a b : List UInt8) (s : ByteArray) : ((⟨a.toArray⟩ : ByteArray) ++ (⟨b.toArray⟩ : ByteArray) ++ s) = ⟨(a ++ (b ++ s.data.toList)).toArray⟩ := by
  apply ByteArray.ext
  simp [ByteArray.data_append]

theorem join2 (a b : List UInt8) : ((⟨a.toArray⟩ : ByteArray) ++ (⟨b.toArray⟩ : ByteArray)) = ⟨(a ++ b).toArray⟩ := by
  apply ByteArray.ext
  simp [ByteArray.data_append]

end Go.Proofs.Ytjfgccjdkflfoaa
