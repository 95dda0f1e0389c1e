/-
  DERIVED. GIVEN WITH THE SEED: THE CARDS: each row of YthglhcabdadlpaaDoorRows.lean that lists a variable, with what it lists TIED to the program's text (the seventh form; the later family's looks); each row that meets fmt, with fmt's text TOLD by the authors' own Lean function (tested against real Go, not proved from fmt's source: count such statements apart). THE CARD IS WHAT COUNTS. Prove the row's statement (the work); the ties are given (YthglhcabdadlpaaDoorTie.lean); close each card by the builder's one call (the guide's Derived/Test/ToyasCard.lean, 'card_holds'). Laid BY PROGRAM, IN A SANDBOX (cutbox-door.mjs). By AI agents, Wed Nov 11 2026. No macro, syntax, notation, axiom, sorry.
-/
import Derived.Test.YthglhcabdadlpaaDoorRows
import GoSem.ClaimSeven
namespace Go.Proofs.YthglhcabdadlpaaDoor
namespace Rows

/-- THE TIED CARD OF 'parallaxlaw15.AlignParts'. -/
def alignPartsCard : Claim7 := { stood := { row := alignPartsRow, standIns := [], harness := (true, "589166e48da8542c14bb778e43a9dc9b59c6895073823fc3e4ae148ef933abbf"), looks := false }, kinds := [], alts := [], laidByText := true, laidKinds := [.data, .data, .data], laidTests := true, laidLooks := .later }
def AlignPartsCardSaid : Prop := Claim7.holds Tryd.pinned (.plain (OpenSpec.ofChange alignPartsSpec)) alignPartsCard

/-- THE TIED CARD OF 'parallaxlaw15.AlignMatches'. -/
def alignMatchesCard : Claim7 := { stood := { row := alignMatchesRow, standIns := [], harness := (true, "589166e48da8542c14bb778e43a9dc9b59c6895073823fc3e4ae148ef933abbf"), looks := false }, kinds := [], alts := [], laidByText := true, laidKinds := [.data, .data, .data], laidTests := true, laidLooks := .later }
def AlignMatchesCardSaid : Prop := Claim7.holds Tryd.pinned (.plain (OpenSpec.ofChange alignMatchesSpec)) alignMatchesCard

/-- THE TIED CARD OF 'parallaxlaw15.AlignFits'. -/
def alignFitsCard : Claim7 := { stood := { row := alignFitsRow, standIns := [], harness := (true, "589166e48da8542c14bb778e43a9dc9b59c6895073823fc3e4ae148ef933abbf"), looks := false }, kinds := [], alts := [], laidByText := true, laidKinds := [.data, .data, .data], laidTests := true, laidLooks := .later }
def AlignFitsCardSaid : Prop := Claim7.holds Tryd.pinned (.plain (OpenSpec.ofChange alignFitsSpec)) alignFitsCard

/-- THE TIED CARD OF 'parallaxlaw15.AlignRegions'. -/
def alignRegionsCard : Claim7 := { stood := { row := alignRegionsRow, standIns := [], harness := (true, "589166e48da8542c14bb778e43a9dc9b59c6895073823fc3e4ae148ef933abbf"), looks := false }, kinds := [], alts := [], laidByText := true, laidKinds := [.data, .data, .data], laidTests := true, laidLooks := .later }
def AlignRegionsCardSaid : Prop := Claim7.holds Tryd.pinned (.plain (OpenSpec.ofChange alignRegionsSpec)) alignRegionsCard

/-- THE TIED CARD OF 'parallaxlaw15.AlignLines'. -/
def alignLinesCard : Claim7 := { stood := { row := alignLinesRow, standIns := [], harness := (true, "589166e48da8542c14bb778e43a9dc9b59c6895073823fc3e4ae148ef933abbf"), looks := false }, kinds := [], alts := [], laidByText := true, laidKinds := [.data, .data, .data], laidTests := true, laidLooks := .later }
def AlignLinesCardSaid : Prop := Claim7.holds Tryd.pinned (.plain (OpenSpec.ofChange alignLinesSpec)) alignLinesCard

/-- THE TIED CARD OF 'parallaxlaw15.AlignBest'. -/
def alignBestCard : Claim7 := { stood := { row := alignBestRow, standIns := [], harness := (true, "589166e48da8542c14bb778e43a9dc9b59c6895073823fc3e4ae148ef933abbf"), looks := false }, kinds := [], alts := [], laidByText := true, laidKinds := [.data, .data, .data], laidTests := true, laidLooks := .later }
def AlignBestCardSaid : Prop := Claim7.holds Tryd.pinned (.plain (OpenSpec.ofChange alignBestSpec)) alignBestCard

/-- THE SECOND FORM's CARD OF 'parallaxlaw15.AlignParts'. -/
def alignPartsUptoCard : Claim7 := { stood := { row := alignPartsUptoRow, standIns := [], harness := (true, "589166e48da8542c14bb778e43a9dc9b59c6895073823fc3e4ae148ef933abbf"), looks := false }, kinds := [], alts := [], laidByText := true, laidKinds := [.data, .data, .data], laidTests := true, laidLooks := .later }
def AlignPartsUptoCardSaid : Prop := Claim7.holds Tryd.pinned (.plain (OpenSpec.upto alignPartsSpec)) alignPartsUptoCard

/-- THE SECOND FORM's CARD OF 'parallaxlaw15.AlignMatches'. -/
def alignMatchesUptoCard : Claim7 := { stood := { row := alignMatchesUptoRow, standIns := [], harness := (true, "589166e48da8542c14bb778e43a9dc9b59c6895073823fc3e4ae148ef933abbf"), looks := false }, kinds := [], alts := [], laidByText := true, laidKinds := [.data, .data, .data], laidTests := true, laidLooks := .later }
def AlignMatchesUptoCardSaid : Prop := Claim7.holds Tryd.pinned (.plain (OpenSpec.upto alignMatchesSpec)) alignMatchesUptoCard

/-- THE SECOND FORM's CARD OF 'parallaxlaw15.AlignFits'. -/
def alignFitsUptoCard : Claim7 := { stood := { row := alignFitsUptoRow, standIns := [], harness := (true, "589166e48da8542c14bb778e43a9dc9b59c6895073823fc3e4ae148ef933abbf"), looks := false }, kinds := [], alts := [], laidByText := true, laidKinds := [.data, .data, .data], laidTests := true, laidLooks := .later }
def AlignFitsUptoCardSaid : Prop := Claim7.holds Tryd.pinned (.plain (OpenSpec.upto alignFitsSpec)) alignFitsUptoCard

/-- THE SECOND FORM's CARD OF 'parallaxlaw15.AlignRegions'. -/
def alignRegionsUptoCard : Claim7 := { stood := { row := alignRegionsUptoRow, standIns := [], harness := (true, "589166e48da8542c14bb778e43a9dc9b59c6895073823fc3e4ae148ef933abbf"), looks := false }, kinds := [], alts := [], laidByText := true, laidKinds := [.data, .data, .data], laidTests := true, laidLooks := .later }
def AlignRegionsUptoCardSaid : Prop := Claim7.holds Tryd.pinned (.plain (OpenSpec.upto alignRegionsSpec)) alignRegionsUptoCard

/-- THE SECOND FORM's CARD OF 'parallaxlaw15.AlignLines'. -/
def alignLinesUptoCard : Claim7 := { stood := { row := alignLinesUptoRow, standIns := [], harness := (true, "589166e48da8542c14bb778e43a9dc9b59c6895073823fc3e4ae148ef933abbf"), looks := false }, kinds := [], alts := [], laidByText := true, laidKinds := [.data, .data, .data], laidTests := true, laidLooks := .later }
def AlignLinesUptoCardSaid : Prop := Claim7.holds Tryd.pinned (.plain (OpenSpec.upto alignLinesSpec)) alignLinesUptoCard

/-- THE SECOND FORM's CARD OF 'parallaxlaw15.AlignBest'. -/
def alignBestUptoCard : Claim7 := { stood := { row := alignBestUptoRow, standIns := [], harness := (true, "589166e48da8542c14bb778e43a9dc9b59c6895073823fc3e4ae148ef933abbf"), looks := false }, kinds := [], alts := [], laidByText := true, laidKinds := [.data, .data, .data], laidTests := true, laidLooks := .later }
def AlignBestUptoCardSaid : Prop := Claim7.holds Tryd.pinned (.plain (OpenSpec.upto alignBestSpec)) alignBestUptoCard
end Rows
end Go.Proofs.YthglhcabdadlpaaDoor
