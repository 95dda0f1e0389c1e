/-
  DERIVED. GIVEN WITH THE SEED: THE CARDS: each row of YtpfkoglmfbaadabDoorRows.lean that lists a variable, with what it lists TIED to the program's text (the seventh form; the later family's looks); each row that meets fmt, with fmt's text TOLD by the authors' own Lean function (tested against real Go, not proved from fmt's source: count such statements apart). THE CARD IS WHAT COUNTS. Prove the row's statement (the work); the ties are given (YtpfkoglmfbaadabDoorTie.lean); close each card by the builder's one call (the guide's Derived/Test/ToyasCard.lean, 'card_holds'). Laid BY PROGRAM, IN A SANDBOX (cutbox-door.mjs). By AI agents, Wed Nov 11 2026. No macro, syntax, notation, axiom, sorry.
-/
import Derived.Test.YtpfkoglmfbaadabDoorRows
import GoSem.ClaimSeven
namespace Go.Proofs.YtpfkoglmfbaadabDoor
namespace Rows

/-- THE TIED CARD OF 'parallaxlaw15.AlignTurned'. -/
def alignTurnedCard : Claim7 := { stood := { row := alignTurnedRow, standIns := [], harness := (true, "2f72f1085b94432aee1ad410b102698ce651a9f19e5c5fde5afbd593fafac896"), looks := false }, kinds := [], alts := [], laidByText := true, laidKinds := [.data, .data, .data], laidTests := true, laidLooks := .later }
def AlignTurnedCardSaid : Prop := Claim7.holds Tryd.pinned (.plain (OpenSpec.ofChange alignTurnedSpec)) alignTurnedCard

/-- THE TIED CARD OF 'parallaxlaw15.AlignGrows'. -/
def alignGrowsCard : Claim7 := { stood := { row := alignGrowsRow, standIns := [], harness := (true, "2f72f1085b94432aee1ad410b102698ce651a9f19e5c5fde5afbd593fafac896"), looks := false }, kinds := [], alts := [], laidByText := true, laidKinds := [.data, .data, .data], laidTests := true, laidLooks := .later }
def AlignGrowsCardSaid : Prop := Claim7.holds Tryd.pinned (.plain (OpenSpec.ofChange alignGrowsSpec)) alignGrowsCard

/-- THE TIED CARD OF 'parallaxlaw15.AlignAll'. -/
def alignAllCard : Claim7 := { stood := { row := alignAllRow, standIns := [], harness := (true, "2f72f1085b94432aee1ad410b102698ce651a9f19e5c5fde5afbd593fafac896"), looks := false }, kinds := [], alts := [], laidByText := true, laidKinds := [.data, .data, .data], laidTests := true, laidLooks := .later }
def AlignAllCardSaid : Prop := Claim7.holds Tryd.pinned (.plain (OpenSpec.ofChange alignAllSpec)) alignAllCard

/-- THE SECOND FORM's CARD OF 'parallaxlaw15.AlignTurned'. -/
def alignTurnedUptoCard : Claim7 := { stood := { row := alignTurnedUptoRow, standIns := [], harness := (true, "2f72f1085b94432aee1ad410b102698ce651a9f19e5c5fde5afbd593fafac896"), looks := false }, kinds := [], alts := [], laidByText := true, laidKinds := [.data, .data, .data], laidTests := true, laidLooks := .later }
def AlignTurnedUptoCardSaid : Prop := Claim7.holds Tryd.pinned (.plain (OpenSpec.upto alignTurnedSpec)) alignTurnedUptoCard

/-- THE SECOND FORM's CARD OF 'parallaxlaw15.AlignGrows'. -/
def alignGrowsUptoCard : Claim7 := { stood := { row := alignGrowsUptoRow, standIns := [], harness := (true, "2f72f1085b94432aee1ad410b102698ce651a9f19e5c5fde5afbd593fafac896"), looks := false }, kinds := [], alts := [], laidByText := true, laidKinds := [.data, .data, .data], laidTests := true, laidLooks := .later }
def AlignGrowsUptoCardSaid : Prop := Claim7.holds Tryd.pinned (.plain (OpenSpec.upto alignGrowsSpec)) alignGrowsUptoCard

/-- THE SECOND FORM's CARD OF 'parallaxlaw15.AlignAll'. -/
def alignAllUptoCard : Claim7 := { stood := { row := alignAllUptoRow, standIns := [], harness := (true, "2f72f1085b94432aee1ad410b102698ce651a9f19e5c5fde5afbd593fafac896"), looks := false }, kinds := [], alts := [], laidByText := true, laidKinds := [.data, .data, .data], laidTests := true, laidLooks := .later }
def AlignAllUptoCardSaid : Prop := Claim7.holds Tryd.pinned (.plain (OpenSpec.upto alignAllSpec)) alignAllUptoCard
end Rows
end Go.Proofs.YtpfkoglmfbaadabDoor
