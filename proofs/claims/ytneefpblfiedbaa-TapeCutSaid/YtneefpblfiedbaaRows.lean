/-
  No cell of these rows narrows 'for every input' (looked for: loops, veiled, ifaces, maps, wideKeys, modest, calm, conditions, laid).
  DERIVED. THE GIVEN ROWS OF THIS SEAT. 3 by the template 'for every input the law returns true; each argument reads behind the call as it read before'; 0 by the template 'total and deterministic' (their statements: YtneefpblfiedbaaTotals.lean).
  GIVEN WITH THE SEED: the statements are not yours to turn. If you find one false, say at which input.
  Laid BY PROGRAM, IN A SANDBOX (cutbox-rows.mjs): the forced cells as the released guide's own fill.sh prints them over the translation 09eef87f3728e2f0… (all of the seat's roots in one cut). By AI agents, Wed Nov 11 2026. No macro, syntax, notation, axiom, sorry.
-/
import Derived.Test.YtneefpblfiedbaaChecked
import GoSem.Claim
import GoSem.ClaimJoined
import GoSem.ClaimMapViews
import Derived.JoinedTies
import Derived.KernelRfl
namespace Go.Proofs.Ytneefpblfiedbaa
/- THE CELL 'sum', in the pinned program and in every row, IS THE sha256 OF THE DUMP (.gsa) THAT YtneefpblfiedbaaProg.lean LOADS. Nothing in Lean hashes anything: it is a label: what it is worth is what the hold of that sum in a sandbox is worth. -/
noncomputable def Try.pinned : Pinned := { name := "ytneefpblfiedbaa", sum := "09eef87f3728e2f098a818ce3c947320b667c378186877393e85938867fc502f", checked := Try.checked }
namespace Rows
def none {H : Type} : Left H := { results := [], args := [] }

/-- 'parallaxlaw13.TapeTraces': WHATEVER THE INPUT: true; the input reads as it did. -/
def tapeTracesSpec : ChangeSpec := { name := "tapeTraces", fn := fun _ => fun
  | [d1, d2] => { results := [.lit (.bool true)], args := [d1, d2] }
  | _ => none }
def tapeTracesRow : OpenClaim := { program := "ytneefpblfiedbaa", sum := "09eef87f3728e2f098a818ce3c947320b667c378186877393e85938867fc502f", func := "parallax/parallaxlaw13.TapeTraces", spec := "tapeTraces", unfollowed := true, recurses := true, apart := false }
def TapeTracesSaid : Prop := tapeTracesRow.holds Try.pinned (OpenSpec.ofChange tapeTracesSpec)

/-- ITS FALSE NEIGHBOUR: 'it returns false'. Refute it at one input. -/
def tapeTracesWrong : ChangeSpec := { name := "tapeTraces", fn := fun _ => fun
  | [d1, d2] => { results := [.lit (.bool false)], args := [d1, d2] }
  | _ => none }
def TapeTracesWrongFalsely : Prop := tapeTracesRow.holds Try.pinned (OpenSpec.ofChange tapeTracesWrong)

/-- 'parallaxlaw13.TapeBack': WHATEVER THE INPUT: true; the input reads as it did. -/
def tapeBackSpec : ChangeSpec := { name := "tapeBack", fn := fun _ => fun
  | [d1, d2, d3] => { results := [.lit (.bool true)], args := [d1, d2, d3] }
  | _ => none }
def tapeBackRow : OpenClaim := { program := "ytneefpblfiedbaa", sum := "09eef87f3728e2f098a818ce3c947320b667c378186877393e85938867fc502f", func := "parallax/parallaxlaw13.TapeBack", spec := "tapeBack", unfollowed := true, recurses := true, apart := false }
def TapeBackSaid : Prop := tapeBackRow.holds Try.pinned (OpenSpec.ofChange tapeBackSpec)

/-- ITS FALSE NEIGHBOUR: 'it returns false'. Refute it at one input. -/
def tapeBackWrong : ChangeSpec := { name := "tapeBack", fn := fun _ => fun
  | [d1, d2, d3] => { results := [.lit (.bool false)], args := [d1, d2, d3] }
  | _ => none }
def TapeBackWrongFalsely : Prop := tapeBackRow.holds Try.pinned (OpenSpec.ofChange tapeBackWrong)

/-- 'parallaxlaw13.TapeCut': WHATEVER THE INPUT: true; the input reads as it did. -/
def tapeCutSpec : ChangeSpec := { name := "tapeCut", fn := fun _ => fun
  | [d1, d2] => { results := [.lit (.bool true)], args := [d1, d2] }
  | _ => none }
def tapeCutRow : OpenClaim := { program := "ytneefpblfiedbaa", sum := "09eef87f3728e2f098a818ce3c947320b667c378186877393e85938867fc502f", func := "parallax/parallaxlaw13.TapeCut", spec := "tapeCut", unfollowed := true, recurses := true, apart := false }
def TapeCutSaid : Prop := tapeCutRow.holds Try.pinned (OpenSpec.ofChange tapeCutSpec)

/-- ITS FALSE NEIGHBOUR: 'it returns false'. Refute it at one input. -/
def tapeCutWrong : ChangeSpec := { name := "tapeCut", fn := fun _ => fun
  | [d1, d2] => { results := [.lit (.bool false)], args := [d1, d2] }
  | _ => none }
def TapeCutWrongFalsely : Prop := tapeCutRow.holds Try.pinned (OpenSpec.ofChange tapeCutWrong)

/- THE SECOND FORM. 'bulk': how many values and letters a reading holds, each counted each time it is reached (what is shared counts as often as it is met; a slice's spare places count too). A statement '..UptoSaid' is the law's where the arguments, and the package variables that the reading takes, are together of bulk at most 1048576: NARROWER than '..Said'. Prove '..Said' where nothing that the law and all that it calls make is longer than what came in: it says more and counts as full. Else prove '..UptoSaid'. A law counts once. -/
mutual
def uptoBulk {H : Type} : DataW H → Nat
  | .lit (.string bytes) => bytes.length + 1
  | .lit _ => 1
  | .nil => 1
  | .ptr d => uptoBulk d + 1
  | .slice elems spare => uptoBulkAll elems + uptoBulkAll spare + 1
  | .agg parts => uptoBulkAll parts + 1
  | .iface _ d => uptoBulk d + 1
  | .map entries => uptoBulkEntries entries + 1
  | .held _ => 1
def uptoBulkAll {H : Type} : List (DataW H) → Nat
  | [] => 0
  | d :: r => uptoBulk d + uptoBulkAll r
def uptoBulkEntries {H : Type} : List (Lit × DataW H) → Nat
  | [] => 0
  | x :: r => uptoBulkEntry x + uptoBulkEntries r
def uptoBulkEntry {H : Type} : Lit × DataW H → Nat
  | (.string bytes, d) => bytes.length + uptoBulk d + 1
  | (_, d) => uptoBulk d + 1
 end
def uptoSmall : (H : Type) → List (DataW H) → Bool := fun _ ds => decide (uptoBulkAll ds ≤ 1048576)
def OpenSpec.upto (s : _root_.Go.ChangeSpec) : _root_.Go.OpenSpec := { _root_.Go.OpenSpec.ofChange s with cond := some uptoSmall }

/-- 'parallaxlaw13.TapeTraces', WHERE WHAT IT READS IS OF BULK AT MOST 1048576: true; the input reads as it did. -/
def tapeTracesUptoRow : OpenClaim := { program := "ytneefpblfiedbaa", sum := "09eef87f3728e2f098a818ce3c947320b667c378186877393e85938867fc502f", func := "parallax/parallaxlaw13.TapeTraces", spec := "tapeTraces", unfollowed := true, recurses := true, apart := false, narrowed := true }
def TapeTracesUptoSaid : Prop := tapeTracesUptoRow.holds Try.pinned (OpenSpec.upto tapeTracesSpec)

/-- 'parallaxlaw13.TapeBack', WHERE WHAT IT READS IS OF BULK AT MOST 1048576: true; the input reads as it did. -/
def tapeBackUptoRow : OpenClaim := { program := "ytneefpblfiedbaa", sum := "09eef87f3728e2f098a818ce3c947320b667c378186877393e85938867fc502f", func := "parallax/parallaxlaw13.TapeBack", spec := "tapeBack", unfollowed := true, recurses := true, apart := false, narrowed := true }
def TapeBackUptoSaid : Prop := tapeBackUptoRow.holds Try.pinned (OpenSpec.upto tapeBackSpec)

/-- 'parallaxlaw13.TapeCut', WHERE WHAT IT READS IS OF BULK AT MOST 1048576: true; the input reads as it did. -/
def tapeCutUptoRow : OpenClaim := { program := "ytneefpblfiedbaa", sum := "09eef87f3728e2f098a818ce3c947320b667c378186877393e85938867fc502f", func := "parallax/parallaxlaw13.TapeCut", spec := "tapeCut", unfollowed := true, recurses := true, apart := false, narrowed := true }
def TapeCutUptoSaid : Prop := tapeCutUptoRow.holds Try.pinned (OpenSpec.upto tapeCutSpec)

end Rows
end Go.Proofs.Ytneefpblfiedbaa
