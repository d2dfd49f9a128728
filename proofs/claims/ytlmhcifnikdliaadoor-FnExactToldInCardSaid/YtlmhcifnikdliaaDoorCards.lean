/-
  DERIVED. GIVEN WITH THE SEED: THE CARDS: each row of YtlmhcifnikdliaaDoorRows.lean that lists a variable, with what it lists TIED to the program's text (the seventh form; the later family's looks); each row that meets fmt, with fmt's text TOLD by the authors' own Lean function (tested against real Go, not proved from fmt's source: count such statements apart). THE CARD IS WHAT COUNTS. Prove the row's statement (the work); the ties are given (YtlmhcifnikdliaaDoorTie.lean); close each card by the builder's one call (the guide's Derived/Test/ToyasCard.lean, 'card_holds'). Laid BY PROGRAM, IN A SANDBOX (cutbox-door.mjs). By AI agents, Wed Nov 11 2026. No macro, syntax, notation, axiom, sorry.
-/
import Derived.Test.YtlmhcifnikdliaaDoorRows
import GoSem.ClaimSeven
namespace Go.Proofs.YtlmhcifnikdliaaDoor
namespace Rows

/-- THE TIED CARD OF 'laws.FnExactSound'. -/
def fnExactSoundCard : Claim7 := { stood := { row := fnExactSoundRow, standIns := [], harness := (true, "b5a0e46b9424a8420c945391e40d54202d3e69fb0b37197147935315f2ca4ee0"), looks := true }, kinds := [], alts := [], laidByText := true, laidKinds := [.sentinel, .sentinel], laidTests := true, laidLooks := .later }
def FnExactSoundCardSaid : Prop := Claim7.holds Tryd.pinned (.plain (OpenSpec.ofChange fnExactSoundSpec)) fnExactSoundCard

/-- THE TIED CARD OF 'laws.FnExactPairsIn'. -/
def fnExactPairsInCard : Claim7 := { stood := { row := fnExactPairsInRow, standIns := [], harness := (true, "b5a0e46b9424a8420c945391e40d54202d3e69fb0b37197147935315f2ca4ee0"), looks := true }, kinds := [], alts := [], laidByText := true, laidKinds := [.sentinel, .sentinel], laidTests := true, laidLooks := .later }
def FnExactPairsInCardSaid : Prop := Claim7.holds Tryd.pinned (.plain (OpenSpec.ofChange fnExactPairsInSpec)) fnExactPairsInCard

/-- THE TIED CARD OF 'laws.FnExactToldIn'. -/
def fnExactToldInCard : Claim7 := { stood := { row := fnExactToldInRow, standIns := [], harness := (true, "b5a0e46b9424a8420c945391e40d54202d3e69fb0b37197147935315f2ca4ee0"), looks := true }, kinds := [], alts := [], laidByText := true, laidKinds := [.handle, .sentinel, .sentinel], laidTests := true, laidLooks := .later }
def FnExactToldInCardSaid : Prop := Claim7.holds Tryd.pinned (.plain (OpenSpec.ofChange fnExactToldInSpec)) fnExactToldInCard

/-- THE SECOND FORM's CARD OF 'laws.FnExactSound'. -/
def fnExactSoundUptoCard : Claim7 := { stood := { row := fnExactSoundUptoRow, standIns := [], harness := (true, "b5a0e46b9424a8420c945391e40d54202d3e69fb0b37197147935315f2ca4ee0"), looks := true }, kinds := [], alts := [], laidByText := true, laidKinds := [.sentinel, .sentinel], laidTests := true, laidLooks := .later }
def FnExactSoundUptoCardSaid : Prop := Claim7.holds Tryd.pinned (.plain (OpenSpec.upto fnExactSoundSpec)) fnExactSoundUptoCard

/-- THE SECOND FORM's CARD OF 'laws.FnExactPairsIn'. -/
def fnExactPairsInUptoCard : Claim7 := { stood := { row := fnExactPairsInUptoRow, standIns := [], harness := (true, "b5a0e46b9424a8420c945391e40d54202d3e69fb0b37197147935315f2ca4ee0"), looks := true }, kinds := [], alts := [], laidByText := true, laidKinds := [.sentinel, .sentinel], laidTests := true, laidLooks := .later }
def FnExactPairsInUptoCardSaid : Prop := Claim7.holds Tryd.pinned (.plain (OpenSpec.upto fnExactPairsInSpec)) fnExactPairsInUptoCard

/-- THE SECOND FORM's CARD OF 'laws.FnExactToldIn'. -/
def fnExactToldInUptoCard : Claim7 := { stood := { row := fnExactToldInUptoRow, standIns := [], harness := (true, "b5a0e46b9424a8420c945391e40d54202d3e69fb0b37197147935315f2ca4ee0"), looks := true }, kinds := [], alts := [], laidByText := true, laidKinds := [.handle, .sentinel, .sentinel], laidTests := true, laidLooks := .later }
def FnExactToldInUptoCardSaid : Prop := Claim7.holds Tryd.pinned (.plain (OpenSpec.upto fnExactToldInSpec)) fnExactToldInUptoCard
end Rows
end Go.Proofs.YtlmhcifnikdliaaDoor
