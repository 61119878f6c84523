/-
  DERIVED. GIVEN WITH THE SEED: THE CARDS: each row of YtmpkcioeodlbcaaGreatDoorRows.lean that lists a variable, with what it lists TIED to the program's text (the seventh form; the later family's looks); each row that meets fmt, with fmt's text TOLD by the authors' own Lean function (tested against real Go, not proved from fmt's source: count such statements apart). THE CARD IS WHAT COUNTS. Prove the row's statement (the work); the ties are given (YtmpkcioeodlbcaaGreatDoorTie.lean); close each card by the builder's one call (the guide's Derived/Test/ToyasCard.lean, 'card_holds'). Laid BY PROGRAM, IN A SANDBOX (cutbox-door.mjs). By AI agents, Wed Nov 11 2026. No macro, syntax, notation, axiom, sorry.
-/
import Derived.Test.YtmpkcioeodlbcaaGreatDoorRows
import GoSem.ClaimSeven
namespace Go.Proofs.YtmpkcioeodlbcaaGreatDoor
namespace Rows

/-- THE TIED CARD OF 'gridworklaw20.PhasorAsks'. -/
def phasorAsksCard : Claim7 := { stood := { row := phasorAsksRow, standIns := [], harness := (true, "260155bfa3e8d00a1aa0391e21cdaae3d9e83fe85982e51aef7dd64fcc91b7ef"), looks := true }, kinds := [], alts := [], laidByText := true, laidKinds := [.data, .data, .data, .data, .sentinel, .sentinel, .pinned], laidTests := true, laidLooks := .later }
def PhasorAsksCardSaid : Prop := Claim7.holds Tryz.pinned (.plain (OpenSpec.ofChange phasorAsksSpec)) phasorAsksCard

/-- THE TIED CARD OF 'gridworklaw20.PhasorScales'. -/
def phasorScalesCard : Claim7 := { stood := { row := phasorScalesRow, standIns := [], harness := (true, "260155bfa3e8d00a1aa0391e21cdaae3d9e83fe85982e51aef7dd64fcc91b7ef"), looks := true }, kinds := [], alts := [], laidByText := true, laidKinds := [.data, .data, .data, .data, .sentinel, .sentinel, .pinned], laidTests := true, laidLooks := .later }
def PhasorScalesCardSaid : Prop := Claim7.holds Tryz.pinned (.plain (OpenSpec.ofChange phasorScalesSpec)) phasorScalesCard

/-- THE TIED CARD OF 'gridworklaw20.PhasorNil'. -/
def phasorNilCard : Claim7 := { stood := { row := phasorNilRow, standIns := [], harness := (true, "260155bfa3e8d00a1aa0391e21cdaae3d9e83fe85982e51aef7dd64fcc91b7ef"), looks := true }, kinds := [], alts := [], laidByText := true, laidKinds := [.data, .data, .data, .data, .sentinel, .sentinel, .pinned], laidTests := true, laidLooks := .later }
def PhasorNilCardSaid : Prop := Claim7.holds Tryz.pinned (.plain (OpenSpec.ofChange phasorNilSpec)) phasorNilCard

/-- THE TIED CARD OF 'gridworklaw20.PhasorNames'. -/
def phasorNamesCard : Claim7 := { stood := { row := phasorNamesRow, standIns := [], harness := (true, "260155bfa3e8d00a1aa0391e21cdaae3d9e83fe85982e51aef7dd64fcc91b7ef"), looks := true }, kinds := [], alts := [], laidByText := true, laidKinds := [.data, .data, .data, .data, .sentinel, .sentinel, .pinned], laidTests := true, laidLooks := .later }
def PhasorNamesCardSaid : Prop := Claim7.holds Tryz.pinned (.plain (OpenSpec.ofChange phasorNamesSpec)) phasorNamesCard

/-- THE SECOND FORM's CARD OF 'gridworklaw20.PhasorAsks'. -/
def phasorAsksUptoCard : Claim7 := { stood := { row := phasorAsksUptoRow, standIns := [], harness := (true, "260155bfa3e8d00a1aa0391e21cdaae3d9e83fe85982e51aef7dd64fcc91b7ef"), looks := true }, kinds := [], alts := [], laidByText := true, laidKinds := [.data, .data, .data, .data, .sentinel, .sentinel, .pinned], laidTests := true, laidLooks := .later }
def PhasorAsksUptoCardSaid : Prop := Claim7.holds Tryz.pinned (.plain (OpenSpec.upto phasorAsksSpec)) phasorAsksUptoCard

/-- THE SECOND FORM's CARD OF 'gridworklaw20.PhasorScales'. -/
def phasorScalesUptoCard : Claim7 := { stood := { row := phasorScalesUptoRow, standIns := [], harness := (true, "260155bfa3e8d00a1aa0391e21cdaae3d9e83fe85982e51aef7dd64fcc91b7ef"), looks := true }, kinds := [], alts := [], laidByText := true, laidKinds := [.data, .data, .data, .data, .sentinel, .sentinel, .pinned], laidTests := true, laidLooks := .later }
def PhasorScalesUptoCardSaid : Prop := Claim7.holds Tryz.pinned (.plain (OpenSpec.upto phasorScalesSpec)) phasorScalesUptoCard

/-- THE SECOND FORM's CARD OF 'gridworklaw20.PhasorNil'. -/
def phasorNilUptoCard : Claim7 := { stood := { row := phasorNilUptoRow, standIns := [], harness := (true, "260155bfa3e8d00a1aa0391e21cdaae3d9e83fe85982e51aef7dd64fcc91b7ef"), looks := true }, kinds := [], alts := [], laidByText := true, laidKinds := [.data, .data, .data, .data, .sentinel, .sentinel, .pinned], laidTests := true, laidLooks := .later }
def PhasorNilUptoCardSaid : Prop := Claim7.holds Tryz.pinned (.plain (OpenSpec.upto phasorNilSpec)) phasorNilUptoCard

/-- THE SECOND FORM's CARD OF 'gridworklaw20.PhasorNames'. -/
def phasorNamesUptoCard : Claim7 := { stood := { row := phasorNamesUptoRow, standIns := [], harness := (true, "260155bfa3e8d00a1aa0391e21cdaae3d9e83fe85982e51aef7dd64fcc91b7ef"), looks := true }, kinds := [], alts := [], laidByText := true, laidKinds := [.data, .data, .data, .data, .sentinel, .sentinel, .pinned], laidTests := true, laidLooks := .later }
def PhasorNamesUptoCardSaid : Prop := Claim7.holds Tryz.pinned (.plain (OpenSpec.upto phasorNamesSpec)) phasorNamesUptoCard
end Rows
end Go.Proofs.YtmpkcioeodlbcaaGreatDoor
