/-
  DERIVED. GIVEN WITH THE SEED: THE CARDS: each row of YtlhklpnkelcnbaaGreatDoorRows.lean that lists a variable, with what it lists TIED to the program's text (the seventh form; the later family's looks); each row that meets fmt, with fmt's text TOLD by the authors' own Lean function (tested against real Go, not proved from fmt's source: count such statements apart). THE CARD IS WHAT COUNTS. Prove the row's statement (the work); the ties are given (YtlhklpnkelcnbaaGreatDoorTie.lean); close each card by the builder's one call (the guide's Derived/Test/ToyasCard.lean, 'card_holds'). Laid BY PROGRAM, IN A SANDBOX (cutbox-door.mjs). By AI agents, Wed Nov 11 2026. No macro, syntax, notation, axiom, sorry.
-/
import Derived.Test.YtlhklpnkelcnbaaGreatDoorRows
import GoSem.ClaimSeven
namespace Go.Proofs.YtlhklpnkelcnbaaGreatDoor
namespace Rows

/-- THE TIED CARD OF 'parallaxlaw03.SynBrackets'. -/
def synBracketsCard : Claim7 := { stood := { row := synBracketsRow, standIns := [], harness := (true, "a504a93144179ddb5e5d76e6e107b54a751c7aa8707e9db778ea5b3f6de35580"), looks := true }, kinds := [], alts := [], laidByText := true, laidKinds := [.data, .data, .data, .data, .data], laidTests := true, laidLooks := .later }
def SynBracketsCardSaid : Prop := Claim7.holds Tryz.pinned (.plain (OpenSpec.ofChange synBracketsSpec)) synBracketsCard

/-- THE TIED CARD OF 'parallaxlaw03.SynDeep'. -/
def synDeepCard : Claim7 := { stood := { row := synDeepRow, standIns := [], harness := (true, "a504a93144179ddb5e5d76e6e107b54a751c7aa8707e9db778ea5b3f6de35580"), looks := true }, kinds := [], alts := [], laidByText := true, laidKinds := [.data, .data, .data, .data, .data], laidTests := true, laidLooks := .later }
def SynDeepCardSaid : Prop := Claim7.holds Tryz.pinned (.plain (OpenSpec.ofChange synDeepSpec)) synDeepCard

/-- THE TIED CARD OF 'parallaxlaw03.SynFrom'. -/
def synFromCard : Claim7 := { stood := { row := synFromRow, standIns := [], harness := (true, "a504a93144179ddb5e5d76e6e107b54a751c7aa8707e9db778ea5b3f6de35580"), looks := true }, kinds := [], alts := [], laidByText := true, laidKinds := [.data, .data, .data, .data, .data], laidTests := true, laidLooks := .later }
def SynFromCardSaid : Prop := Claim7.holds Tryz.pinned (.plain (OpenSpec.ofChange synFromSpec)) synFromCard

/-- THE SECOND FORM's CARD OF 'parallaxlaw03.SynBrackets'. -/
def synBracketsUptoCard : Claim7 := { stood := { row := synBracketsUptoRow, standIns := [], harness := (true, "a504a93144179ddb5e5d76e6e107b54a751c7aa8707e9db778ea5b3f6de35580"), looks := true }, kinds := [], alts := [], laidByText := true, laidKinds := [.data, .data, .data, .data, .data], laidTests := true, laidLooks := .later }
def SynBracketsUptoCardSaid : Prop := Claim7.holds Tryz.pinned (.plain (OpenSpec.upto synBracketsSpec)) synBracketsUptoCard

/-- THE SECOND FORM's CARD OF 'parallaxlaw03.SynDeep'. -/
def synDeepUptoCard : Claim7 := { stood := { row := synDeepUptoRow, standIns := [], harness := (true, "a504a93144179ddb5e5d76e6e107b54a751c7aa8707e9db778ea5b3f6de35580"), looks := true }, kinds := [], alts := [], laidByText := true, laidKinds := [.data, .data, .data, .data, .data], laidTests := true, laidLooks := .later }
def SynDeepUptoCardSaid : Prop := Claim7.holds Tryz.pinned (.plain (OpenSpec.upto synDeepSpec)) synDeepUptoCard

/-- THE SECOND FORM's CARD OF 'parallaxlaw03.SynFrom'. -/
def synFromUptoCard : Claim7 := { stood := { row := synFromUptoRow, standIns := [], harness := (true, "a504a93144179ddb5e5d76e6e107b54a751c7aa8707e9db778ea5b3f6de35580"), looks := true }, kinds := [], alts := [], laidByText := true, laidKinds := [.data, .data, .data, .data, .data], laidTests := true, laidLooks := .later }
def SynFromUptoCardSaid : Prop := Claim7.holds Tryz.pinned (.plain (OpenSpec.upto synFromSpec)) synFromUptoCard
end Rows
end Go.Proofs.YtlhklpnkelcnbaaGreatDoor
