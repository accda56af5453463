/-
  No cell of these rows narrows 'for every input' (looked for: loops, veiled, ifaces, maps, wideKeys, modest, calm, conditions, laid).
  DERIVED. THE GIVEN ROWS OF THIS SEAT. 5 by the template 'for every input the law returns true; each argument reads behind the call as it read before'; 0 by the template 'total and deterministic' (their statements: YtbindfgjdocpoaaTotals.lean).
  GIVEN WITH THE SEED: the statements are not yours to turn. If you find one false, say at which input.
  Laid BY PROGRAM, IN A SANDBOX (cutbox-rows.mjs): the forced cells as the released guide's own fill.sh prints them over the translation 98bca88fd45cacd2… (all of the seat's roots in one cut). By AI agents, Wed Nov 11 2026. No macro, syntax, notation, axiom, sorry.
-/
import Derived.Test.YtbindfgjdocpoaaChecked
import GoSem.Claim
import GoSem.ClaimJoined
import GoSem.ClaimMapViews
import Derived.JoinedTies
import Derived.KernelRfl
namespace Go.Proofs.Ytbindfgjdocpoaa
/- THE CELL 'sum', in the pinned program and in every row, IS THE sha256 OF THE DUMP (.gsa) THAT YtbindfgjdocpoaaProg.lean LOADS. Nothing in Lean hashes anything: it is a label: what it is worth is what the hold of that sum in a sandbox is worth. -/
noncomputable def Try.pinned : Pinned := { name := "ytbindfgjdocpoaa", sum := "98bca88fd45cacd2956dd82ef7255ab281ba7dcbc2db45e25ea0561c1aa2b786", checked := Try.checked }
namespace Rows
def none {H : Type} : Left H := { results := [], args := [] }

/-- 'tattlelaw4.Vecs': WHATEVER THE INPUT: true; the input reads as it did. -/
def vecsSpec : ChangeSpec := { name := "vecs", fn := fun _ => fun
  | [d1, d2, d3, d4] => { results := [.lit (.bool true)], args := [d1, d2, d3, d4] }
  | _ => none }
def vecsRow : OpenClaim := { program := "ytbindfgjdocpoaa", sum := "98bca88fd45cacd2956dd82ef7255ab281ba7dcbc2db45e25ea0561c1aa2b786", func := "tattle/tattlelaw4.Vecs", spec := "vecs", unfollowed := true, recurses := true, apart := false }
def VecsSaid : Prop := vecsRow.holds Try.pinned (OpenSpec.ofChange vecsSpec)

/-- ITS FALSE NEIGHBOUR: 'it returns false'. Refute it at one input. -/
def vecsWrong : ChangeSpec := { name := "vecs", fn := fun _ => fun
  | [d1, d2, d3, d4] => { results := [.lit (.bool false)], args := [d1, d2, d3, d4] }
  | _ => none }
def VecsWrongFalsely : Prop := vecsRow.holds Try.pinned (OpenSpec.ofChange vecsWrong)

/-- 'tattlelaw4.VecLattice': WHATEVER THE INPUT: true; the input reads as it did. -/
def vecLatticeSpec : ChangeSpec := { name := "vecLattice", fn := fun _ => fun
  | [d1, d2, d3] => { results := [.lit (.bool true)], args := [d1, d2, d3] }
  | _ => none }
def vecLatticeRow : OpenClaim := { program := "ytbindfgjdocpoaa", sum := "98bca88fd45cacd2956dd82ef7255ab281ba7dcbc2db45e25ea0561c1aa2b786", func := "tattle/tattlelaw4.VecLattice", spec := "vecLattice", unfollowed := true, recurses := true, apart := false }
def VecLatticeSaid : Prop := vecLatticeRow.holds Try.pinned (OpenSpec.ofChange vecLatticeSpec)

/-- ITS FALSE NEIGHBOUR: 'it returns false'. Refute it at one input. -/
def vecLatticeWrong : ChangeSpec := { name := "vecLattice", fn := fun _ => fun
  | [d1, d2, d3] => { results := [.lit (.bool false)], args := [d1, d2, d3] }
  | _ => none }
def VecLatticeWrongFalsely : Prop := vecLatticeRow.holds Try.pinned (OpenSpec.ofChange vecLatticeWrong)

/-- 'tattlelaw4.VecHas': WHATEVER THE INPUT: true; the input reads as it did. -/
def vecHasSpec : ChangeSpec := { name := "vecHas", fn := fun _ => fun
  | [d1, d2, d3] => { results := [.lit (.bool true)], args := [d1, d2, d3] }
  | _ => none }
def vecHasRow : OpenClaim := { program := "ytbindfgjdocpoaa", sum := "98bca88fd45cacd2956dd82ef7255ab281ba7dcbc2db45e25ea0561c1aa2b786", func := "tattle/tattlelaw4.VecHas", spec := "vecHas", unfollowed := true, recurses := true, apart := false }
def VecHasSaid : Prop := vecHasRow.holds Try.pinned (OpenSpec.ofChange vecHasSpec)

/-- ITS FALSE NEIGHBOUR: 'it returns false'. Refute it at one input. -/
def vecHasWrong : ChangeSpec := { name := "vecHas", fn := fun _ => fun
  | [d1, d2, d3] => { results := [.lit (.bool false)], args := [d1, d2, d3] }
  | _ => none }
def VecHasWrongFalsely : Prop := vecHasRow.holds Try.pinned (OpenSpec.ofChange vecHasWrong)

/-- 'tattlelaw4.VecForms': WHATEVER THE INPUT: true; the input reads as it did. -/
def vecFormsSpec : ChangeSpec := { name := "vecForms", fn := fun _ => fun
  | [d1, d2, d3] => { results := [.lit (.bool true)], args := [d1, d2, d3] }
  | _ => none }
def vecFormsRow : OpenClaim := { program := "ytbindfgjdocpoaa", sum := "98bca88fd45cacd2956dd82ef7255ab281ba7dcbc2db45e25ea0561c1aa2b786", func := "tattle/tattlelaw4.VecForms", spec := "vecForms", unfollowed := true, recurses := true, apart := false }
def VecFormsSaid : Prop := vecFormsRow.holds Try.pinned (OpenSpec.ofChange vecFormsSpec)

/-- ITS FALSE NEIGHBOUR: 'it returns false'. Refute it at one input. -/
def vecFormsWrong : ChangeSpec := { name := "vecForms", fn := fun _ => fun
  | [d1, d2, d3] => { results := [.lit (.bool false)], args := [d1, d2, d3] }
  | _ => none }
def VecFormsWrongFalsely : Prop := vecFormsRow.holds Try.pinned (OpenSpec.ofChange vecFormsWrong)

/-- 'tattlelaw4.VecSteps': WHATEVER THE INPUT: true; the input reads as it did. -/
def vecStepsSpec : ChangeSpec := { name := "vecSteps", fn := fun _ => fun
  | [d] => { results := [.lit (.bool true)], args := [d] }
  | _ => none }
def vecStepsRow : OpenClaim := { program := "ytbindfgjdocpoaa", sum := "98bca88fd45cacd2956dd82ef7255ab281ba7dcbc2db45e25ea0561c1aa2b786", func := "tattle/tattlelaw4.VecSteps", spec := "vecSteps", unfollowed := true, recurses := true, apart := false }
def VecStepsSaid : Prop := vecStepsRow.holds Try.pinned (OpenSpec.ofChange vecStepsSpec)

/-- ITS FALSE NEIGHBOUR: 'it returns false'. Refute it at one input. -/
def vecStepsWrong : ChangeSpec := { name := "vecSteps", fn := fun _ => fun
  | [d] => { results := [.lit (.bool false)], args := [d] }
  | _ => none }
def VecStepsWrongFalsely : Prop := vecStepsRow.holds Try.pinned (OpenSpec.ofChange vecStepsWrong)

/- THE SECOND FORM. 'bulk': how many values and letters a reading holds, each counted each time it is reached (what is shared counts as often as it is met; a slice's spare places count too). A statement '..UptoSaid' is the law's where the arguments, and the package variables that the reading takes, are together of bulk at most 1048576: NARROWER than '..Said'. Prove '..Said' where nothing that the law and all that it calls make is longer than what came in: it says more and counts as full. Else prove '..UptoSaid'. A law counts once. -/
mutual
def uptoBulk {H : Type} : DataW H → Nat
  | .lit (.string bytes) => bytes.length + 1
  | .lit _ => 1
  | .nil => 1
  | .ptr d => uptoBulk d + 1
  | .slice elems spare => uptoBulkAll elems + uptoBulkAll spare + 1
  | .agg parts => uptoBulkAll parts + 1
  | .iface _ d => uptoBulk d + 1
  | .map entries => uptoBulkEntries entries + 1
  | .held _ => 1
def uptoBulkAll {H : Type} : List (DataW H) → Nat
  | [] => 0
  | d :: r => uptoBulk d + uptoBulkAll r
def uptoBulkEntries {H : Type} : List (Lit × DataW H) → Nat
  | [] => 0
  | x :: r => uptoBulkEntry x + uptoBulkEntries r
def uptoBulkEntry {H : Type} : Lit × DataW H → Nat
  | (.string bytes, d) => bytes.length + uptoBulk d + 1
  | (_, d) => uptoBulk d + 1
 end
def uptoSmall : (H : Type) → List (DataW H) → Bool := fun _ ds => decide (uptoBulkAll ds ≤ 1048576)
def OpenSpec.upto (s : _root_.Go.ChangeSpec) : _root_.Go.OpenSpec := { _root_.Go.OpenSpec.ofChange s with cond := some uptoSmall }

/-- 'tattlelaw4.Vecs', WHERE WHAT IT READS IS OF BULK AT MOST 1048576: true; the input reads as it did. -/
def vecsUptoRow : OpenClaim := { program := "ytbindfgjdocpoaa", sum := "98bca88fd45cacd2956dd82ef7255ab281ba7dcbc2db45e25ea0561c1aa2b786", func := "tattle/tattlelaw4.Vecs", spec := "vecs", unfollowed := true, recurses := true, apart := false, narrowed := true }
def VecsUptoSaid : Prop := vecsUptoRow.holds Try.pinned (OpenSpec.upto vecsSpec)

/-- 'tattlelaw4.VecLattice', WHERE WHAT IT READS IS OF BULK AT MOST 1048576: true; the input reads as it did. -/
def vecLatticeUptoRow : OpenClaim := { program := "ytbindfgjdocpoaa", sum := "98bca88fd45cacd2956dd82ef7255ab281ba7dcbc2db45e25ea0561c1aa2b786", func := "tattle/tattlelaw4.VecLattice", spec := "vecLattice", unfollowed := true, recurses := true, apart := false, narrowed := true }
def VecLatticeUptoSaid : Prop := vecLatticeUptoRow.holds Try.pinned (OpenSpec.upto vecLatticeSpec)

/-- 'tattlelaw4.VecHas', WHERE WHAT IT READS IS OF BULK AT MOST 1048576: true; the input reads as it did. -/
def vecHasUptoRow : OpenClaim := { program := "ytbindfgjdocpoaa", sum := "98bca88fd45cacd2956dd82ef7255ab281ba7dcbc2db45e25ea0561c1aa2b786", func := "tattle/tattlelaw4.VecHas", spec := "vecHas", unfollowed := true, recurses := true, apart := false, narrowed := true }
def VecHasUptoSaid : Prop := vecHasUptoRow.holds Try.pinned (OpenSpec.upto vecHasSpec)

/-- 'tattlelaw4.VecForms', WHERE WHAT IT READS IS OF BULK AT MOST 1048576: true; the input reads as it did. -/
def vecFormsUptoRow : OpenClaim := { program := "ytbindfgjdocpoaa", sum := "98bca88fd45cacd2956dd82ef7255ab281ba7dcbc2db45e25ea0561c1aa2b786", func := "tattle/tattlelaw4.VecForms", spec := "vecForms", unfollowed := true, recurses := true, apart := false, narrowed := true }
def VecFormsUptoSaid : Prop := vecFormsUptoRow.holds Try.pinned (OpenSpec.upto vecFormsSpec)

/-- 'tattlelaw4.VecSteps', WHERE WHAT IT READS IS OF BULK AT MOST 1048576: true; the input reads as it did. -/
def vecStepsUptoRow : OpenClaim := { program := "ytbindfgjdocpoaa", sum := "98bca88fd45cacd2956dd82ef7255ab281ba7dcbc2db45e25ea0561c1aa2b786", func := "tattle/tattlelaw4.VecSteps", spec := "vecSteps", unfollowed := true, recurses := true, apart := false, narrowed := true }
def VecStepsUptoSaid : Prop := vecStepsUptoRow.holds Try.pinned (OpenSpec.upto vecStepsSpec)

end Rows
end Go.Proofs.Ytbindfgjdocpoaa
