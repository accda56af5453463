/-
  No cell of these rows narrows 'for every input' (looked for: loops, veiled, ifaces, maps, wideKeys, modest, calm, conditions, laid).
  DERIVED. THE GIVEN ROWS OF THIS SEAT. 3 by the template 'for every input the law returns true; each argument reads behind the call as it read before'; 0 by the template 'total and deterministic' (their statements: YtmojkjhmacnndaaTotals.lean).
  GIVEN WITH THE SEED: the statements are not yours to turn. If you find one false, say at which input.
  Laid BY PROGRAM, IN A SANDBOX (cutbox-rows.mjs): the forced cells as the released guide's own fill.sh prints them over the translation 2cd8158a942a3731… (all of the seat's roots in one cut). By AI agents, Wed Nov 11 2026. No macro, syntax, notation, axiom, sorry.
-/
import Derived.Test.YtmojkjhmacnndaaChecked
import GoSem.Claim
import GoSem.ClaimJoined
import GoSem.ClaimMapViews
import Derived.JoinedTies
import Derived.KernelRfl
namespace Go.Proofs.Ytmojkjhmacnndaa
/- THE CELL 'sum', in the pinned program and in every row, IS THE sha256 OF THE DUMP (.gsa) THAT YtmojkjhmacnndaaProg.lean LOADS. Nothing in Lean hashes anything: it is a label: what it is worth is what the hold of that sum in a sandbox is worth. -/
noncomputable def Try.pinned : Pinned := { name := "ytmojkjhmacnndaa", sum := "2cd8158a942a373178b0d5fa483a8cc4a765776e382c97d6f61e335ab8c2afec", checked := Try.checked }
namespace Rows
def none {H : Type} : Left H := { results := [], args := [] }

/-- 'tattlelaw8.Counts': WHATEVER THE INPUT: true; the input reads as it did. -/
def countsSpec : ChangeSpec := { name := "counts", fn := fun _ => fun
  | [d1, d2] => { results := [.lit (.bool true)], args := [d1, d2] }
  | _ => none }
def countsRow : OpenClaim := { program := "ytmojkjhmacnndaa", sum := "2cd8158a942a373178b0d5fa483a8cc4a765776e382c97d6f61e335ab8c2afec", func := "tattle/tattlelaw8.Counts", spec := "counts", apart := false }
def CountsSaid : Prop := countsRow.holds Try.pinned (OpenSpec.ofChange countsSpec)

/-- ITS FALSE NEIGHBOUR: 'it returns false'. Refute it at one input. -/
def countsWrong : ChangeSpec := { name := "counts", fn := fun _ => fun
  | [d1, d2] => { results := [.lit (.bool false)], args := [d1, d2] }
  | _ => none }
def CountsWrongFalsely : Prop := countsRow.holds Try.pinned (OpenSpec.ofChange countsWrong)

/-- 'tattlelaw8.CountRows': WHATEVER THE INPUT: true; the input reads as it did. -/
def countRowsSpec : ChangeSpec := { name := "countRows", fn := fun _ => fun
  | [d] => { results := [.lit (.bool true)], args := [d] }
  | _ => none }
def countRowsRow : OpenClaim := { program := "ytmojkjhmacnndaa", sum := "2cd8158a942a373178b0d5fa483a8cc4a765776e382c97d6f61e335ab8c2afec", func := "tattle/tattlelaw8.CountRows", spec := "countRows", apart := false }
def CountRowsSaid : Prop := countRowsRow.holds Try.pinned (OpenSpec.ofChange countRowsSpec)

/-- ITS FALSE NEIGHBOUR: 'it returns false'. Refute it at one input. -/
def countRowsWrong : ChangeSpec := { name := "countRows", fn := fun _ => fun
  | [d] => { results := [.lit (.bool false)], args := [d] }
  | _ => none }
def CountRowsWrongFalsely : Prop := countRowsRow.holds Try.pinned (OpenSpec.ofChange countRowsWrong)

/-- 'tattlelaw8.CountForms': WHATEVER THE INPUT: true; the input reads as it did. -/
def countFormsSpec : ChangeSpec := { name := "countForms", fn := fun _ => fun
  | [d1, d2] => { results := [.lit (.bool true)], args := [d1, d2] }
  | _ => none }
def countFormsRow : OpenClaim := { program := "ytmojkjhmacnndaa", sum := "2cd8158a942a373178b0d5fa483a8cc4a765776e382c97d6f61e335ab8c2afec", func := "tattle/tattlelaw8.CountForms", spec := "countForms", apart := false }
def CountFormsSaid : Prop := countFormsRow.holds Try.pinned (OpenSpec.ofChange countFormsSpec)

/-- ITS FALSE NEIGHBOUR: 'it returns false'. Refute it at one input. -/
def countFormsWrong : ChangeSpec := { name := "countForms", fn := fun _ => fun
  | [d1, d2] => { results := [.lit (.bool false)], args := [d1, d2] }
  | _ => none }
def CountFormsWrongFalsely : Prop := countFormsRow.holds Try.pinned (OpenSpec.ofChange countFormsWrong)

/- THE SECOND FORM. 'bulk': how many values and letters a reading holds, each counted each time it is reached (what is shared counts as often as it is met; a slice's spare places count too). A statement '..UptoSaid' is the law's where the arguments, and the package variables that the reading takes, are together of bulk at most 1048576: NARROWER than '..Said'. Prove '..Said' where nothing that the law and all that it calls make is longer than what came in: it says more and counts as full. Else prove '..UptoSaid'. A law counts once. -/
mutual
def uptoBulk {H : Type} : DataW H → Nat
  | .lit (.string bytes) => bytes.length + 1
  | .lit _ => 1
  | .nil => 1
  | .ptr d => uptoBulk d + 1
  | .slice elems spare => uptoBulkAll elems + uptoBulkAll spare + 1
  | .agg parts => uptoBulkAll parts + 1
  | .iface _ d => uptoBulk d + 1
  | .map entries => uptoBulkEntries entries + 1
  | .held _ => 1
def uptoBulkAll {H : Type} : List (DataW H) → Nat
  | [] => 0
  | d :: r => uptoBulk d + uptoBulkAll r
def uptoBulkEntries {H : Type} : List (Lit × DataW H) → Nat
  | [] => 0
  | x :: r => uptoBulkEntry x + uptoBulkEntries r
def uptoBulkEntry {H : Type} : Lit × DataW H → Nat
  | (.string bytes, d) => bytes.length + uptoBulk d + 1
  | (_, d) => uptoBulk d + 1
 end
def uptoSmall : (H : Type) → List (DataW H) → Bool := fun _ ds => decide (uptoBulkAll ds ≤ 1048576)
def OpenSpec.upto (s : _root_.Go.ChangeSpec) : _root_.Go.OpenSpec := { _root_.Go.OpenSpec.ofChange s with cond := some uptoSmall }

/-- 'tattlelaw8.Counts', WHERE WHAT IT READS IS OF BULK AT MOST 1048576: true; the input reads as it did. -/
def countsUptoRow : OpenClaim := { program := "ytmojkjhmacnndaa", sum := "2cd8158a942a373178b0d5fa483a8cc4a765776e382c97d6f61e335ab8c2afec", func := "tattle/tattlelaw8.Counts", spec := "counts", apart := false, narrowed := true }
def CountsUptoSaid : Prop := countsUptoRow.holds Try.pinned (OpenSpec.upto countsSpec)

/-- 'tattlelaw8.CountRows', WHERE WHAT IT READS IS OF BULK AT MOST 1048576: true; the input reads as it did. -/
def countRowsUptoRow : OpenClaim := { program := "ytmojkjhmacnndaa", sum := "2cd8158a942a373178b0d5fa483a8cc4a765776e382c97d6f61e335ab8c2afec", func := "tattle/tattlelaw8.CountRows", spec := "countRows", apart := false, narrowed := true }
def CountRowsUptoSaid : Prop := countRowsUptoRow.holds Try.pinned (OpenSpec.upto countRowsSpec)

/-- 'tattlelaw8.CountForms', WHERE WHAT IT READS IS OF BULK AT MOST 1048576: true; the input reads as it did. -/
def countFormsUptoRow : OpenClaim := { program := "ytmojkjhmacnndaa", sum := "2cd8158a942a373178b0d5fa483a8cc4a765776e382c97d6f61e335ab8c2afec", func := "tattle/tattlelaw8.CountForms", spec := "countForms", apart := false, narrowed := true }
def CountFormsUptoSaid : Prop := countFormsUptoRow.holds Try.pinned (OpenSpec.upto countFormsSpec)

end Rows
end Go.Proofs.Ytmojkjhmacnndaa
