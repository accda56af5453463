/-
  No cell of these rows narrows 'for every input' (looked for: loops, veiled, ifaces, maps, wideKeys, modest, calm, conditions, laid).
  DERIVED. THE GIVEN ROWS OF THIS SEAT. 3 by the template 'for every input the law returns true; each argument reads behind the call as it read before'; 0 by the template 'total and deterministic' (their statements: YtdaakacjgkafcaaTotals.lean).
  GIVEN WITH THE SEED: the statements are not yours to turn. If you find one false, say at which input.
  Laid BY PROGRAM, IN A SANDBOX (cutbox-rows.mjs): the forced cells as the released guide's own fill.sh prints them over the translation 468a011a02dfcabb… (all of the seat's roots in one cut). By AI agents, Wed Nov 11 2026. No macro, syntax, notation, axiom, sorry.
-/
import Derived.Test.YtdaakacjgkafcaaChecked
import GoSem.Claim
import GoSem.ClaimJoined
import GoSem.ClaimMapViews
import Derived.JoinedTies
import Derived.KernelRfl
namespace Go.Proofs.Ytdaakacjgkafcaa
/- THE CELL 'sum', in the pinned program and in every row, IS THE sha256 OF THE DUMP (.gsa) THAT YtdaakacjgkafcaaProg.lean LOADS. Nothing in Lean hashes anything: it is a label: what it is worth is what the hold of that sum in a sandbox is worth. -/
noncomputable def Try.pinned : Pinned := { name := "ytdaakacjgkafcaa", sum := "468a011a02dfcabbaba2829de1ae80175720d9ff33d57947eb267d6cf63aff5a", checked := Try.checked }
namespace Rows
def none {H : Type} : Left H := { results := [], args := [] }

/-- 'tattlelaw5.Matrices': WHATEVER THE INPUT: true; the input reads as it did. -/
def matricesSpec : ChangeSpec := { name := "matrices", fn := fun _ => fun
  | [d1, d2] => { results := [.lit (.bool true)], args := [d1, d2] }
  | _ => none }
def matricesRow : OpenClaim := { program := "ytdaakacjgkafcaa", sum := "468a011a02dfcabbaba2829de1ae80175720d9ff33d57947eb267d6cf63aff5a", func := "tattle/tattlelaw5.Matrices", spec := "matrices", unfollowed := true, recurses := true, apart := false }
def MatricesSaid : Prop := matricesRow.holds Try.pinned (OpenSpec.ofChange matricesSpec)

/-- ITS FALSE NEIGHBOUR: 'it returns false'. Refute it at one input. -/
def matricesWrong : ChangeSpec := { name := "matrices", fn := fun _ => fun
  | [d1, d2] => { results := [.lit (.bool false)], args := [d1, d2] }
  | _ => none }
def MatricesWrongFalsely : Prop := matricesRow.holds Try.pinned (OpenSpec.ofChange matricesWrong)

/-- 'tattlelaw5.MatrixLeast': WHATEVER THE INPUT: true; the input reads as it did. -/
def matrixLeastSpec : ChangeSpec := { name := "matrixLeast", fn := fun _ => fun
  | [d1, d2] => { results := [.lit (.bool true)], args := [d1, d2] }
  | _ => none }
def matrixLeastRow : OpenClaim := { program := "ytdaakacjgkafcaa", sum := "468a011a02dfcabbaba2829de1ae80175720d9ff33d57947eb267d6cf63aff5a", func := "tattle/tattlelaw5.MatrixLeast", spec := "matrixLeast", unfollowed := true, recurses := true, apart := false }
def MatrixLeastSaid : Prop := matrixLeastRow.holds Try.pinned (OpenSpec.ofChange matrixLeastSpec)

/-- ITS FALSE NEIGHBOUR: 'it returns false'. Refute it at one input. -/
def matrixLeastWrong : ChangeSpec := { name := "matrixLeast", fn := fun _ => fun
  | [d1, d2] => { results := [.lit (.bool false)], args := [d1, d2] }
  | _ => none }
def MatrixLeastWrongFalsely : Prop := matrixLeastRow.holds Try.pinned (OpenSpec.ofChange matrixLeastWrong)

/-- 'tattlelaw5.MatrixForms': WHATEVER THE INPUT: true; the input reads as it did. -/
def matrixFormsSpec : ChangeSpec := { name := "matrixForms", fn := fun _ => fun
  | [d1, d2] => { results := [.lit (.bool true)], args := [d1, d2] }
  | _ => none }
def matrixFormsRow : OpenClaim := { program := "ytdaakacjgkafcaa", sum := "468a011a02dfcabbaba2829de1ae80175720d9ff33d57947eb267d6cf63aff5a", func := "tattle/tattlelaw5.MatrixForms", spec := "matrixForms", unfollowed := true, recurses := true, apart := false }
def MatrixFormsSaid : Prop := matrixFormsRow.holds Try.pinned (OpenSpec.ofChange matrixFormsSpec)

/-- ITS FALSE NEIGHBOUR: 'it returns false'. Refute it at one input. -/
def matrixFormsWrong : ChangeSpec := { name := "matrixForms", fn := fun _ => fun
  | [d1, d2] => { results := [.lit (.bool false)], args := [d1, d2] }
  | _ => none }
def MatrixFormsWrongFalsely : Prop := matrixFormsRow.holds Try.pinned (OpenSpec.ofChange matrixFormsWrong)

/- THE SECOND FORM. 'bulk': how many values and letters a reading holds, each counted each time it is reached (what is shared counts as often as it is met; a slice's spare places count too). A statement '..UptoSaid' is the law's where the arguments, and the package variables that the reading takes, are together of bulk at most 1048576: NARROWER than '..Said'. Prove '..Said' where nothing that the law and all that it calls make is longer than what came in: it says more and counts as full. Else prove '..UptoSaid'. A law counts once. -/
mutual
def uptoBulk {H : Type} : DataW H → Nat
  | .lit (.string bytes) => bytes.length + 1
  | .lit _ => 1
  | .nil => 1
  | .ptr d => uptoBulk d + 1
  | .slice elems spare => uptoBulkAll elems + uptoBulkAll spare + 1
  | .agg parts => uptoBulkAll parts + 1
  | .iface _ d => uptoBulk d + 1
  | .map entries => uptoBulkEntries entries + 1
  | .held _ => 1
def uptoBulkAll {H : Type} : List (DataW H) → Nat
  | [] => 0
  | d :: r => uptoBulk d + uptoBulkAll r
def uptoBulkEntries {H : Type} : List (Lit × DataW H) → Nat
  | [] => 0
  | x :: r => uptoBulkEntry x + uptoBulkEntries r
def uptoBulkEntry {H : Type} : Lit × DataW H → Nat
  | (.string bytes, d) => bytes.length + uptoBulk d + 1
  | (_, d) => uptoBulk d + 1
 end
def uptoSmall : (H : Type) → List (DataW H) → Bool := fun _ ds => decide (uptoBulkAll ds ≤ 1048576)
def OpenSpec.upto (s : _root_.Go.ChangeSpec) : _root_.Go.OpenSpec := { _root_.Go.OpenSpec.ofChange s with cond := some uptoSmall }

/-- 'tattlelaw5.Matrices', WHERE WHAT IT READS IS OF BULK AT MOST 1048576: true; the input reads as it did. -/
def matricesUptoRow : OpenClaim := { program := "ytdaakacjgkafcaa", sum := "468a011a02dfcabbaba2829de1ae80175720d9ff33d57947eb267d6cf63aff5a", func := "tattle/tattlelaw5.Matrices", spec := "matrices", unfollowed := true, recurses := true, apart := false, narrowed := true }
def MatricesUptoSaid : Prop := matricesUptoRow.holds Try.pinned (OpenSpec.upto matricesSpec)

/-- 'tattlelaw5.MatrixLeast', WHERE WHAT IT READS IS OF BULK AT MOST 1048576: true; the input reads as it did. -/
def matrixLeastUptoRow : OpenClaim := { program := "ytdaakacjgkafcaa", sum := "468a011a02dfcabbaba2829de1ae80175720d9ff33d57947eb267d6cf63aff5a", func := "tattle/tattlelaw5.MatrixLeast", spec := "matrixLeast", unfollowed := true, recurses := true, apart := false, narrowed := true }
def MatrixLeastUptoSaid : Prop := matrixLeastUptoRow.holds Try.pinned (OpenSpec.upto matrixLeastSpec)

/-- 'tattlelaw5.MatrixForms', WHERE WHAT IT READS IS OF BULK AT MOST 1048576: true; the input reads as it did. -/
def matrixFormsUptoRow : OpenClaim := { program := "ytdaakacjgkafcaa", sum := "468a011a02dfcabbaba2829de1ae80175720d9ff33d57947eb267d6cf63aff5a", func := "tattle/tattlelaw5.MatrixForms", spec := "matrixForms", unfollowed := true, recurses := true, apart := false, narrowed := true }
def MatrixFormsUptoSaid : Prop := matrixFormsUptoRow.holds Try.pinned (OpenSpec.upto matrixFormsSpec)

end Rows
end Go.Proofs.Ytdaakacjgkafcaa
