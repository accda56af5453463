/-
  No cell of these rows narrows 'for every input' (looked for: loops, veiled, ifaces, maps, wideKeys, modest, calm, conditions, laid).
  DERIVED. THE GIVEN ROWS OF THIS SEAT. 6 by the template 'for every input the law returns true; each argument reads behind the call as it read before'; 0 by the template 'total and deterministic' (their statements: YtaakhpibdpgjpaaTotals.lean).
  GIVEN WITH THE SEED: the statements are not yours to turn. If you find one false, say at which input.
  Laid BY PROGRAM, IN A SANDBOX (cutbox-rows.mjs): the forced cells as the released guide's own fill.sh prints them over the translation f9fac66485b3b626… (all of the seat's roots in one cut). By AI agents, Wed Nov 11 2026. No macro, syntax, notation, axiom, sorry.
-/
import Derived.Test.YtaakhpibdpgjpaaChecked
import GoSem.Claim
import GoSem.ClaimJoined
import GoSem.ClaimMapViews
import Derived.JoinedTies
import Derived.KernelRfl
namespace Go.Proofs.Ytaakhpibdpgjpaa
/- THE CELL 'sum', in the pinned program and in every row, IS THE sha256 OF THE DUMP (.gsa) THAT YtaakhpibdpgjpaaProg.lean LOADS. Nothing in Lean hashes anything: it is a label: what it is worth is what the hold of that sum in a sandbox is worth. -/
noncomputable def Try.pinned : Pinned := { name := "ytaakhpibdpgjpaa", sum := "f9fac66485b3b626a69da03e6491ca5689b9d977bcd9643519dff0153702c1c9", checked := Try.checked }
namespace Rows
def none {H : Type} : Left H := { results := [], args := [] }

/-- 'tattlelaw10.Rgas': WHATEVER THE INPUT: true; the input reads as it did. -/
def rgasSpec : ChangeSpec := { name := "rgas", fn := fun _ => fun
  | [d1, d2, d3, d4] => { results := [.lit (.bool true)], args := [d1, d2, d3, d4] }
  | _ => none }
def rgasRow : OpenClaim := { program := "ytaakhpibdpgjpaa", sum := "f9fac66485b3b626a69da03e6491ca5689b9d977bcd9643519dff0153702c1c9", func := "tattle/tattlelaw10.Rgas", spec := "rgas", inPlace := ["slices.overlaps[tattle/api.Elem]"], unfollowed := true, recurses := true, apart := false }
def RgasSaid : Prop := rgasRow.holds Try.pinned (OpenSpec.ofChange rgasSpec)

/-- ITS FALSE NEIGHBOUR: 'it returns false'. Refute it at one input. -/
def rgasWrong : ChangeSpec := { name := "rgas", fn := fun _ => fun
  | [d1, d2, d3, d4] => { results := [.lit (.bool false)], args := [d1, d2, d3, d4] }
  | _ => none }
def RgasWrongFalsely : Prop := rgasRow.holds Try.pinned (OpenSpec.ofChange rgasWrong)

/-- 'tattlelaw10.RgaTwo': WHATEVER THE INPUT: true; the input reads as it did. -/
def rgaTwoSpec : ChangeSpec := { name := "rgaTwo", fn := fun _ => fun
  | [d1, d2, d3] => { results := [.lit (.bool true)], args := [d1, d2, d3] }
  | _ => none }
def rgaTwoRow : OpenClaim := { program := "ytaakhpibdpgjpaa", sum := "f9fac66485b3b626a69da03e6491ca5689b9d977bcd9643519dff0153702c1c9", func := "tattle/tattlelaw10.RgaTwo", spec := "rgaTwo", inPlace := ["slices.overlaps[tattle/api.Elem]"], unfollowed := true, recurses := true, apart := false }
def RgaTwoSaid : Prop := rgaTwoRow.holds Try.pinned (OpenSpec.ofChange rgaTwoSpec)

/-- ITS FALSE NEIGHBOUR: 'it returns false'. Refute it at one input. -/
def rgaTwoWrong : ChangeSpec := { name := "rgaTwo", fn := fun _ => fun
  | [d1, d2, d3] => { results := [.lit (.bool false)], args := [d1, d2, d3] }
  | _ => none }
def RgaTwoWrongFalsely : Prop := rgaTwoRow.holds Try.pinned (OpenSpec.ofChange rgaTwoWrong)

/-- 'tattlelaw10.RgaSerial': WHATEVER THE INPUT: true; the input reads as it did. -/
def rgaSerialSpec : ChangeSpec := { name := "rgaSerial", fn := fun _ => fun
  | [d] => { results := [.lit (.bool true)], args := [d] }
  | _ => none }
def rgaSerialRow : OpenClaim := { program := "ytaakhpibdpgjpaa", sum := "f9fac66485b3b626a69da03e6491ca5689b9d977bcd9643519dff0153702c1c9", func := "tattle/tattlelaw10.RgaSerial", spec := "rgaSerial", inPlace := ["slices.overlaps[tattle/api.Elem]"], unfollowed := true, recurses := true, apart := false }
def RgaSerialSaid : Prop := rgaSerialRow.holds Try.pinned (OpenSpec.ofChange rgaSerialSpec)

/-- ITS FALSE NEIGHBOUR: 'it returns false'. Refute it at one input. -/
def rgaSerialWrong : ChangeSpec := { name := "rgaSerial", fn := fun _ => fun
  | [d] => { results := [.lit (.bool false)], args := [d] }
  | _ => none }
def RgaSerialWrongFalsely : Prop := rgaSerialRow.holds Try.pinned (OpenSpec.ofChange rgaSerialWrong)

/-- 'tattlelaw10.RgaForms': WHATEVER THE INPUT: true; the input reads as it did. -/
def rgaFormsSpec : ChangeSpec := { name := "rgaForms", fn := fun _ => fun
  | [d1, d2] => { results := [.lit (.bool true)], args := [d1, d2] }
  | _ => none }
def rgaFormsRow : OpenClaim := { program := "ytaakhpibdpgjpaa", sum := "f9fac66485b3b626a69da03e6491ca5689b9d977bcd9643519dff0153702c1c9", func := "tattle/tattlelaw10.RgaForms", spec := "rgaForms", inPlace := ["slices.overlaps[tattle/api.Elem]"], unfollowed := true, recurses := true, apart := false }
def RgaFormsSaid : Prop := rgaFormsRow.holds Try.pinned (OpenSpec.ofChange rgaFormsSpec)

/-- ITS FALSE NEIGHBOUR: 'it returns false'. Refute it at one input. -/
def rgaFormsWrong : ChangeSpec := { name := "rgaForms", fn := fun _ => fun
  | [d1, d2] => { results := [.lit (.bool false)], args := [d1, d2] }
  | _ => none }
def RgaFormsWrongFalsely : Prop := rgaFormsRow.holds Try.pinned (OpenSpec.ofChange rgaFormsWrong)

/-- 'tattlelaw10.RgaMarks': WHATEVER THE INPUT: true; the input reads as it did. -/
def rgaMarksSpec : ChangeSpec := { name := "rgaMarks", fn := fun _ => fun
  | [d1, d2] => { results := [.lit (.bool true)], args := [d1, d2] }
  | _ => none }
def rgaMarksRow : OpenClaim := { program := "ytaakhpibdpgjpaa", sum := "f9fac66485b3b626a69da03e6491ca5689b9d977bcd9643519dff0153702c1c9", func := "tattle/tattlelaw10.RgaMarks", spec := "rgaMarks", inPlace := ["slices.overlaps[tattle/api.Elem]"], unfollowed := true, recurses := true, apart := false }
def RgaMarksSaid : Prop := rgaMarksRow.holds Try.pinned (OpenSpec.ofChange rgaMarksSpec)

/-- ITS FALSE NEIGHBOUR: 'it returns false'. Refute it at one input. -/
def rgaMarksWrong : ChangeSpec := { name := "rgaMarks", fn := fun _ => fun
  | [d1, d2] => { results := [.lit (.bool false)], args := [d1, d2] }
  | _ => none }
def RgaMarksWrongFalsely : Prop := rgaMarksRow.holds Try.pinned (OpenSpec.ofChange rgaMarksWrong)

/-- 'tattlelaw10.RgaMany': WHATEVER THE INPUT: true; the input reads as it did. -/
def rgaManySpec : ChangeSpec := { name := "rgaMany", fn := fun _ => fun
  | [d1, d2] => { results := [.lit (.bool true)], args := [d1, d2] }
  | _ => none }
def rgaManyRow : OpenClaim := { program := "ytaakhpibdpgjpaa", sum := "f9fac66485b3b626a69da03e6491ca5689b9d977bcd9643519dff0153702c1c9", func := "tattle/tattlelaw10.RgaMany", spec := "rgaMany", inPlace := ["slices.overlaps[tattle/api.Elem]"], unfollowed := true, recurses := true, apart := false }
def RgaManySaid : Prop := rgaManyRow.holds Try.pinned (OpenSpec.ofChange rgaManySpec)

/-- ITS FALSE NEIGHBOUR: 'it returns false'. Refute it at one input. -/
def rgaManyWrong : ChangeSpec := { name := "rgaMany", fn := fun _ => fun
  | [d1, d2] => { results := [.lit (.bool false)], args := [d1, d2] }
  | _ => none }
def RgaManyWrongFalsely : Prop := rgaManyRow.holds Try.pinned (OpenSpec.ofChange rgaManyWrong)

/- THE SECOND FORM. 'bulk': how many values and letters a reading holds, each counted each time it is reached (what is shared counts as often as it is met; a slice's spare places count too). A statement '..UptoSaid' is the law's where the arguments, and the package variables that the reading takes, are together of bulk at most 1048576: NARROWER than '..Said'. Prove '..Said' where nothing that the law and all that it calls make is longer than what came in: it says more and counts as full. Else prove '..UptoSaid'. A law counts once. -/
mutual
def uptoBulk {H : Type} : DataW H → Nat
  | .lit (.string bytes) => bytes.length + 1
  | .lit _ => 1
  | .nil => 1
  | .ptr d => uptoBulk d + 1
  | .slice elems spare => uptoBulkAll elems + uptoBulkAll spare + 1
  | .agg parts => uptoBulkAll parts + 1
  | .iface _ d => uptoBulk d + 1
  | .map entries => uptoBulkEntries entries + 1
  | .held _ => 1
def uptoBulkAll {H : Type} : List (DataW H) → Nat
  | [] => 0
  | d :: r => uptoBulk d + uptoBulkAll r
def uptoBulkEntries {H : Type} : List (Lit × DataW H) → Nat
  | [] => 0
  | x :: r => uptoBulkEntry x + uptoBulkEntries r
def uptoBulkEntry {H : Type} : Lit × DataW H → Nat
  | (.string bytes, d) => bytes.length + uptoBulk d + 1
  | (_, d) => uptoBulk d + 1
 end
def uptoSmall : (H : Type) → List (DataW H) → Bool := fun _ ds => decide (uptoBulkAll ds ≤ 1048576)
def OpenSpec.upto (s : _root_.Go.ChangeSpec) : _root_.Go.OpenSpec := { _root_.Go.OpenSpec.ofChange s with cond := some uptoSmall }

/-- 'tattlelaw10.Rgas', WHERE WHAT IT READS IS OF BULK AT MOST 1048576: true; the input reads as it did. -/
def rgasUptoRow : OpenClaim := { program := "ytaakhpibdpgjpaa", sum := "f9fac66485b3b626a69da03e6491ca5689b9d977bcd9643519dff0153702c1c9", func := "tattle/tattlelaw10.Rgas", spec := "rgas", inPlace := ["slices.overlaps[tattle/api.Elem]"], unfollowed := true, recurses := true, apart := false, narrowed := true }
def RgasUptoSaid : Prop := rgasUptoRow.holds Try.pinned (OpenSpec.upto rgasSpec)

/-- 'tattlelaw10.RgaTwo', WHERE WHAT IT READS IS OF BULK AT MOST 1048576: true; the input reads as it did. -/
def rgaTwoUptoRow : OpenClaim := { program := "ytaakhpibdpgjpaa", sum := "f9fac66485b3b626a69da03e6491ca5689b9d977bcd9643519dff0153702c1c9", func := "tattle/tattlelaw10.RgaTwo", spec := "rgaTwo", inPlace := ["slices.overlaps[tattle/api.Elem]"], unfollowed := true, recurses := true, apart := false, narrowed := true }
def RgaTwoUptoSaid : Prop := rgaTwoUptoRow.holds Try.pinned (OpenSpec.upto rgaTwoSpec)

/-- 'tattlelaw10.RgaSerial', WHERE WHAT IT READS IS OF BULK AT MOST 1048576: true; the input reads as it did. -/
def rgaSerialUptoRow : OpenClaim := { program := "ytaakhpibdpgjpaa", sum := "f9fac66485b3b626a69da03e6491ca5689b9d977bcd9643519dff0153702c1c9", func := "tattle/tattlelaw10.RgaSerial", spec := "rgaSerial", inPlace := ["slices.overlaps[tattle/api.Elem]"], unfollowed := true, recurses := true, apart := false, narrowed := true }
def RgaSerialUptoSaid : Prop := rgaSerialUptoRow.holds Try.pinned (OpenSpec.upto rgaSerialSpec)

/-- 'tattlelaw10.RgaForms', WHERE WHAT IT READS IS OF BULK AT MOST 1048576: true; the input reads as it did. -/
def rgaFormsUptoRow : OpenClaim := { program := "ytaakhpibdpgjpaa", sum := "f9fac66485b3b626a69da03e6491ca5689b9d977bcd9643519dff0153702c1c9", func := "tattle/tattlelaw10.RgaForms", spec := "rgaForms", inPlace := ["slices.overlaps[tattle/api.Elem]"], unfollowed := true, recurses := true, apart := false, narrowed := true }
def RgaFormsUptoSaid : Prop := rgaFormsUptoRow.holds Try.pinned (OpenSpec.upto rgaFormsSpec)

/-- 'tattlelaw10.RgaMarks', WHERE WHAT IT READS IS OF BULK AT MOST 1048576: true; the input reads as it did. -/
def rgaMarksUptoRow : OpenClaim := { program := "ytaakhpibdpgjpaa", sum := "f9fac66485b3b626a69da03e6491ca5689b9d977bcd9643519dff0153702c1c9", func := "tattle/tattlelaw10.RgaMarks", spec := "rgaMarks", inPlace := ["slices.overlaps[tattle/api.Elem]"], unfollowed := true, recurses := true, apart := false, narrowed := true }
def RgaMarksUptoSaid : Prop := rgaMarksUptoRow.holds Try.pinned (OpenSpec.upto rgaMarksSpec)

/-- 'tattlelaw10.RgaMany', WHERE WHAT IT READS IS OF BULK AT MOST 1048576: true; the input reads as it did. -/
def rgaManyUptoRow : OpenClaim := { program := "ytaakhpibdpgjpaa", sum := "f9fac66485b3b626a69da03e6491ca5689b9d977bcd9643519dff0153702c1c9", func := "tattle/tattlelaw10.RgaMany", spec := "rgaMany", inPlace := ["slices.overlaps[tattle/api.Elem]"], unfollowed := true, recurses := true, apart := false, narrowed := true }
def RgaManyUptoSaid : Prop := rgaManyUptoRow.holds Try.pinned (OpenSpec.upto rgaManySpec)

end Rows
end Go.Proofs.Ytaakhpibdpgjpaa
