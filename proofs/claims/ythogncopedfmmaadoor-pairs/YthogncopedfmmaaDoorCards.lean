/-
  DERIVED. GIVEN WITH THE SEED: THE CARDS: each row of YthogncopedfmmaaDoorRows.lean that lists a variable, with what it lists TIED to the program's text (the seventh form; the later family's looks); each row that meets fmt, with fmt's text TOLD by the authors' own Lean function (tested against real Go, not proved from fmt's source: count such statements apart). THE CARD IS WHAT COUNTS. Prove the row's statement (the work); the ties are given (YthogncopedfmmaaDoorTie.lean); close each card by the builder's one call (the guide's Derived/Test/ToyasCard.lean, 'card_holds'). Laid BY PROGRAM, IN A SANDBOX (cutbox-door.mjs). By AI agents, Wed Nov 11 2026. No macro, syntax, notation, axiom, sorry.
-/
import Derived.Test.YthogncopedfmmaaDoorRows
import GoSem.ClaimSeven
namespace Go.Proofs.YthogncopedfmmaaDoor
namespace Rows

/-- THE TIED CARD OF 'tattlelaw6.Pairs'. -/
def pairsCard : Claim7 := { stood := { row := pairsRow, standIns := [], harness := (true, "f14bdb74280df616f65e2e88c66d2728097bfdb8db90ca0eb4e0f44c6f161b8a"), looks := false }, kinds := [], alts := [], laidByText := true, laidKinds := [.data, .data, .data], laidTests := true, laidLooks := .later }
def PairsCardSaid : Prop := Claim7.holds Tryd.pinned (.plain (OpenSpec.ofChange pairsSpec)) pairsCard

/-- THE TIED CARD OF 'tattlelaw6.PairSums'. -/
def pairSumsCard : Claim7 := { stood := { row := pairSumsRow, standIns := [], harness := (true, "f14bdb74280df616f65e2e88c66d2728097bfdb8db90ca0eb4e0f44c6f161b8a"), looks := false }, kinds := [], alts := [], laidByText := true, laidKinds := [.data, .data, .data], laidTests := true, laidLooks := .later }
def PairSumsCardSaid : Prop := Claim7.holds Tryd.pinned (.plain (OpenSpec.ofChange pairSumsSpec)) pairSumsCard

/-- THE TIED CARD OF 'tattlelaw6.PairForms'. -/
def pairFormsCard : Claim7 := { stood := { row := pairFormsRow, standIns := [], harness := (true, "f14bdb74280df616f65e2e88c66d2728097bfdb8db90ca0eb4e0f44c6f161b8a"), looks := false }, kinds := [], alts := [], laidByText := true, laidKinds := [.data, .data, .data], laidTests := true, laidLooks := .later }
def PairFormsCardSaid : Prop := Claim7.holds Tryd.pinned (.plain (OpenSpec.ofChange pairFormsSpec)) pairFormsCard

/-- THE TIED CARD OF 'tattlelaw6.PairTexts'. -/
def pairTextsCard : Claim7 := { stood := { row := pairTextsRow, standIns := [], harness := (true, "f14bdb74280df616f65e2e88c66d2728097bfdb8db90ca0eb4e0f44c6f161b8a"), looks := false }, kinds := [], alts := [], laidByText := true, laidKinds := [.data, .data, .data], laidTests := true, laidLooks := .later }
def PairTextsCardSaid : Prop := Claim7.holds Tryd.pinned (.plain (OpenSpec.ofChange pairTextsSpec)) pairTextsCard

/-- THE TIED CARD OF 'tattlelaw6.PairRing'. -/
def pairRingCard : Claim7 := { stood := { row := pairRingRow, standIns := [], harness := (true, "f14bdb74280df616f65e2e88c66d2728097bfdb8db90ca0eb4e0f44c6f161b8a"), looks := false }, kinds := [], alts := [], laidByText := true, laidKinds := [.data, .data, .data], laidTests := true, laidLooks := .later }
def PairRingCardSaid : Prop := Claim7.holds Tryd.pinned (.plain (OpenSpec.ofChange pairRingSpec)) pairRingCard

/-- THE SECOND FORM's CARD OF 'tattlelaw6.Pairs'. -/
def pairsUptoCard : Claim7 := { stood := { row := pairsUptoRow, standIns := [], harness := (true, "f14bdb74280df616f65e2e88c66d2728097bfdb8db90ca0eb4e0f44c6f161b8a"), looks := false }, kinds := [], alts := [], laidByText := true, laidKinds := [.data, .data, .data], laidTests := true, laidLooks := .later }
def PairsUptoCardSaid : Prop := Claim7.holds Tryd.pinned (.plain (OpenSpec.upto pairsSpec)) pairsUptoCard

/-- THE SECOND FORM's CARD OF 'tattlelaw6.PairSums'. -/
def pairSumsUptoCard : Claim7 := { stood := { row := pairSumsUptoRow, standIns := [], harness := (true, "f14bdb74280df616f65e2e88c66d2728097bfdb8db90ca0eb4e0f44c6f161b8a"), looks := false }, kinds := [], alts := [], laidByText := true, laidKinds := [.data, .data, .data], laidTests := true, laidLooks := .later }
def PairSumsUptoCardSaid : Prop := Claim7.holds Tryd.pinned (.plain (OpenSpec.upto pairSumsSpec)) pairSumsUptoCard

/-- THE SECOND FORM's CARD OF 'tattlelaw6.PairForms'. -/
def pairFormsUptoCard : Claim7 := { stood := { row := pairFormsUptoRow, standIns := [], harness := (true, "f14bdb74280df616f65e2e88c66d2728097bfdb8db90ca0eb4e0f44c6f161b8a"), looks := false }, kinds := [], alts := [], laidByText := true, laidKinds := [.data, .data, .data], laidTests := true, laidLooks := .later }
def PairFormsUptoCardSaid : Prop := Claim7.holds Tryd.pinned (.plain (OpenSpec.upto pairFormsSpec)) pairFormsUptoCard

/-- THE SECOND FORM's CARD OF 'tattlelaw6.PairTexts'. -/
def pairTextsUptoCard : Claim7 := { stood := { row := pairTextsUptoRow, standIns := [], harness := (true, "f14bdb74280df616f65e2e88c66d2728097bfdb8db90ca0eb4e0f44c6f161b8a"), looks := false }, kinds := [], alts := [], laidByText := true, laidKinds := [.data, .data, .data], laidTests := true, laidLooks := .later }
def PairTextsUptoCardSaid : Prop := Claim7.holds Tryd.pinned (.plain (OpenSpec.upto pairTextsSpec)) pairTextsUptoCard

/-- THE SECOND FORM's CARD OF 'tattlelaw6.PairRing'. -/
def pairRingUptoCard : Claim7 := { stood := { row := pairRingUptoRow, standIns := [], harness := (true, "f14bdb74280df616f65e2e88c66d2728097bfdb8db90ca0eb4e0f44c6f161b8a"), looks := false }, kinds := [], alts := [], laidByText := true, laidKinds := [.data, .data, .data], laidTests := true, laidLooks := .later }
def PairRingUptoCardSaid : Prop := Claim7.holds Tryd.pinned (.plain (OpenSpec.upto pairRingSpec)) pairRingUptoCard
end Rows
end Go.Proofs.YthogncopedfmmaaDoor
