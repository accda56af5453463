/-
  No cell of these rows narrows 'for every input' (looked for: loops, veiled, ifaces, maps, wideKeys, modest, calm, conditions, laid).
  DERIVED. THE GIVEN ROWS OF THIS SEAT. 4 by the template 'for every input the law returns true; each argument reads behind the call as it read before'; 0 by the template 'total and deterministic' (their statements: YtdcfahkcgedegaaTotals.lean).
  GIVEN WITH THE SEED: the statements are not yours to turn. If you find one false, say at which input.
  Laid BY PROGRAM, IN A SANDBOX (cutbox-rows.mjs): the forced cells as the released guide's own fill.sh prints them over the translation 3ad70d4659746c51… (all of the seat's roots in one cut). By AI agents, Wed Nov 11 2026. No macro, syntax, notation, axiom, sorry.
-/
import Derived.Test.YtdcfahkcgedegaaChecked
import GoSem.Claim
import GoSem.ClaimJoined
import GoSem.ClaimMapViews
import Derived.JoinedTies
import Derived.KernelRfl
namespace Go.Proofs.Ytdcfahkcgedegaa
/- THE CELL 'sum', in the pinned program and in every row, IS THE sha256 OF THE DUMP (.gsa) THAT YtdcfahkcgedegaaProg.lean LOADS. Nothing in Lean hashes anything: it is a label: what it is worth is what the hold of that sum in a sandbox is worth. -/
noncomputable def Try.pinned : Pinned := { name := "ytdcfahkcgedegaa", sum := "3ad70d4659746c51b91dc46c41dc9321b7eac2ab8491b9a13a1f8ec34ef95487", checked := Try.checked }
namespace Rows
def none {H : Type} : Left H := { results := [], args := [] }

/-- 'tattlelaw7.Lwws': WHATEVER THE INPUT: true; the input reads as it did. -/
def lwwsSpec : ChangeSpec := { name := "lwws", fn := fun _ => fun
  | [d1, d2, d3] => { results := [.lit (.bool true)], args := [d1, d2, d3] }
  | _ => none }
def lwwsRow : OpenClaim := { program := "ytdcfahkcgedegaa", sum := "3ad70d4659746c51b91dc46c41dc9321b7eac2ab8491b9a13a1f8ec34ef95487", func := "tattle/tattlelaw7.Lwws", spec := "lwws", apart := false }
def LwwsSaid : Prop := lwwsRow.holds Try.pinned (OpenSpec.ofChange lwwsSpec)

/-- ITS FALSE NEIGHBOUR: 'it returns false'. Refute it at one input. -/
def lwwsWrong : ChangeSpec := { name := "lwws", fn := fun _ => fun
  | [d1, d2, d3] => { results := [.lit (.bool false)], args := [d1, d2, d3] }
  | _ => none }
def LwwsWrongFalsely : Prop := lwwsRow.holds Try.pinned (OpenSpec.ofChange lwwsWrong)

/-- 'tattlelaw7.LwwRows': WHATEVER THE INPUT: true; the input reads as it did. -/
def lwwRowsSpec : ChangeSpec := { name := "lwwRows", fn := fun _ => fun
  | [d] => { results := [.lit (.bool true)], args := [d] }
  | _ => none }
def lwwRowsRow : OpenClaim := { program := "ytdcfahkcgedegaa", sum := "3ad70d4659746c51b91dc46c41dc9321b7eac2ab8491b9a13a1f8ec34ef95487", func := "tattle/tattlelaw7.LwwRows", spec := "lwwRows", apart := false }
def LwwRowsSaid : Prop := lwwRowsRow.holds Try.pinned (OpenSpec.ofChange lwwRowsSpec)

/-- ITS FALSE NEIGHBOUR: 'it returns false'. Refute it at one input. -/
def lwwRowsWrong : ChangeSpec := { name := "lwwRows", fn := fun _ => fun
  | [d] => { results := [.lit (.bool false)], args := [d] }
  | _ => none }
def LwwRowsWrongFalsely : Prop := lwwRowsRow.holds Try.pinned (OpenSpec.ofChange lwwRowsWrong)

/-- 'tattlelaw7.LwwForms': WHATEVER THE INPUT: true; the input reads as it did. -/
def lwwFormsSpec : ChangeSpec := { name := "lwwForms", fn := fun _ => fun
  | [d1, d2] => { results := [.lit (.bool true)], args := [d1, d2] }
  | _ => none }
def lwwFormsRow : OpenClaim := { program := "ytdcfahkcgedegaa", sum := "3ad70d4659746c51b91dc46c41dc9321b7eac2ab8491b9a13a1f8ec34ef95487", func := "tattle/tattlelaw7.LwwForms", spec := "lwwForms", apart := false }
def LwwFormsSaid : Prop := lwwFormsRow.holds Try.pinned (OpenSpec.ofChange lwwFormsSpec)

/-- ITS FALSE NEIGHBOUR: 'it returns false'. Refute it at one input. -/
def lwwFormsWrong : ChangeSpec := { name := "lwwForms", fn := fun _ => fun
  | [d1, d2] => { results := [.lit (.bool false)], args := [d1, d2] }
  | _ => none }
def LwwFormsWrongFalsely : Prop := lwwFormsRow.holds Try.pinned (OpenSpec.ofChange lwwFormsWrong)

/-- 'tattlelaw7.LwwSame': WHATEVER THE INPUT: true; the input reads as it did. -/
def lwwSameSpec : ChangeSpec := { name := "lwwSame", fn := fun _ => fun
  | [d1, d2, d3, d4] => { results := [.lit (.bool true)], args := [d1, d2, d3, d4] }
  | _ => none }
def lwwSameRow : OpenClaim := { program := "ytdcfahkcgedegaa", sum := "3ad70d4659746c51b91dc46c41dc9321b7eac2ab8491b9a13a1f8ec34ef95487", func := "tattle/tattlelaw7.LwwSame", spec := "lwwSame", apart := false }
def LwwSameSaid : Prop := lwwSameRow.holds Try.pinned (OpenSpec.ofChange lwwSameSpec)

/-- ITS FALSE NEIGHBOUR: 'it returns false'. Refute it at one input. -/
def lwwSameWrong : ChangeSpec := { name := "lwwSame", fn := fun _ => fun
  | [d1, d2, d3, d4] => { results := [.lit (.bool false)], args := [d1, d2, d3, d4] }
  | _ => none }
def LwwSameWrongFalsely : Prop := lwwSameRow.holds Try.pinned (OpenSpec.ofChange lwwSameWrong)

/- THE SECOND FORM. 'bulk': how many values and letters a reading holds, each counted each time it is reached (what is shared counts as often as it is met; a slice's spare places count too). A statement '..UptoSaid' is the law's where the arguments, and the package variables that the reading takes, are together of bulk at most 1048576: NARROWER than '..Said'. Prove '..Said' where nothing that the law and all that it calls make is longer than what came in: it says more and counts as full. Else prove '..UptoSaid'. A law counts once. -/
mutual
def uptoBulk {H : Type} : DataW H → Nat
  | .lit (.string bytes) => bytes.length + 1
  | .lit _ => 1
  | .nil => 1
  | .ptr d => uptoBulk d + 1
  | .slice elems spare => uptoBulkAll elems + uptoBulkAll spare + 1
  | .agg parts => uptoBulkAll parts + 1
  | .iface _ d => uptoBulk d + 1
  | .map entries => uptoBulkEntries entries + 1
  | .held _ => 1
def uptoBulkAll {H : Type} : List (DataW H) → Nat
  | [] => 0
  | d :: r => uptoBulk d + uptoBulkAll r
def uptoBulkEntries {H : Type} : List (Lit × DataW H) → Nat
  | [] => 0
  | x :: r => uptoBulkEntry x + uptoBulkEntries r
def uptoBulkEntry {H : Type} : Lit × DataW H → Nat
  | (.string bytes, d) => bytes.length + uptoBulk d + 1
  | (_, d) => uptoBulk d + 1
 end
def uptoSmall : (H : Type) → List (DataW H) → Bool := fun _ ds => decide (uptoBulkAll ds ≤ 1048576)
def OpenSpec.upto (s : _root_.Go.ChangeSpec) : _root_.Go.OpenSpec := { _root_.Go.OpenSpec.ofChange s with cond := some uptoSmall }

/-- 'tattlelaw7.Lwws', WHERE WHAT IT READS IS OF BULK AT MOST 1048576: true; the input reads as it did. -/
def lwwsUptoRow : OpenClaim := { program := "ytdcfahkcgedegaa", sum := "3ad70d4659746c51b91dc46c41dc9321b7eac2ab8491b9a13a1f8ec34ef95487", func := "tattle/tattlelaw7.Lwws", spec := "lwws", apart := false, narrowed := true }
def LwwsUptoSaid : Prop := lwwsUptoRow.holds Try.pinned (OpenSpec.upto lwwsSpec)

/-- 'tattlelaw7.LwwRows', WHERE WHAT IT READS IS OF BULK AT MOST 1048576: true; the input reads as it did. -/
def lwwRowsUptoRow : OpenClaim := { program := "ytdcfahkcgedegaa", sum := "3ad70d4659746c51b91dc46c41dc9321b7eac2ab8491b9a13a1f8ec34ef95487", func := "tattle/tattlelaw7.LwwRows", spec := "lwwRows", apart := false, narrowed := true }
def LwwRowsUptoSaid : Prop := lwwRowsUptoRow.holds Try.pinned (OpenSpec.upto lwwRowsSpec)

/-- 'tattlelaw7.LwwForms', WHERE WHAT IT READS IS OF BULK AT MOST 1048576: true; the input reads as it did. -/
def lwwFormsUptoRow : OpenClaim := { program := "ytdcfahkcgedegaa", sum := "3ad70d4659746c51b91dc46c41dc9321b7eac2ab8491b9a13a1f8ec34ef95487", func := "tattle/tattlelaw7.LwwForms", spec := "lwwForms", apart := false, narrowed := true }
def LwwFormsUptoSaid : Prop := lwwFormsUptoRow.holds Try.pinned (OpenSpec.upto lwwFormsSpec)

/-- 'tattlelaw7.LwwSame', WHERE WHAT IT READS IS OF BULK AT MOST 1048576: true; the input reads as it did. -/
def lwwSameUptoRow : OpenClaim := { program := "ytdcfahkcgedegaa", sum := "3ad70d4659746c51b91dc46c41dc9321b7eac2ab8491b9a13a1f8ec34ef95487", func := "tattle/tattlelaw7.LwwSame", spec := "lwwSame", apart := false, narrowed := true }
def LwwSameUptoSaid : Prop := lwwSameUptoRow.holds Try.pinned (OpenSpec.upto lwwSameSpec)

end Rows
end Go.Proofs.Ytdcfahkcgedegaa
