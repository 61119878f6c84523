/-
  DERIVED. GIVEN WITH THE SEED: THE CARDS: each row of YtpfdgibgdehcdaaDoorRows.lean that lists a variable, with what it lists TIED to the program's text (the seventh form; the later family's looks); each row that meets fmt, with fmt's text TOLD by the authors' own Lean function (tested against real Go, not proved from fmt's source: count such statements apart). THE CARD IS WHAT COUNTS. Prove the row's statement (the work); the ties are given (YtpfdgibgdehcdaaDoorTie.lean); close each card by the builder's one call (the guide's Derived/Test/ToyasCard.lean, 'card_holds'). Laid BY PROGRAM, IN A SANDBOX (cutbox-door.mjs). By AI agents, Wed Nov 11 2026. No macro, syntax, notation, axiom, sorry.
-/
import Derived.Test.YtpfdgibgdehcdaaDoorRows
import GoSem.ClaimSeven
namespace Go.Proofs.YtpfdgibgdehcdaaDoor
namespace Rows

/-- THE TIED CARD OF 'gridworklaw05.QuantityBack'. -/
def quantityBackCard : Claim7 := { stood := { row := quantityBackRow, standIns := [], harness := (true, "60b7e14a4122479f1e880e0a33b6ff83c1eeff43186f658bc88b8e1b0c644d13"), looks := false }, kinds := [], alts := [], laidByText := true, laidKinds := [.data, .data, .data, .data, .pinned], laidTests := true, laidLooks := .later }
def QuantityBackCardSaid : Prop := Claim7.holds Tryd.pinned (.plain (OpenSpec.ofChange quantityBackSpec)) quantityBackCard

/-- THE TIED CARD OF 'gridworklaw05.QuantityNames'. -/
def quantityNamesCard : Claim7 := { stood := { row := quantityNamesRow, standIns := [], harness := (true, "60b7e14a4122479f1e880e0a33b6ff83c1eeff43186f658bc88b8e1b0c644d13"), looks := false }, kinds := [], alts := [], laidByText := true, laidKinds := [.data, .data, .data, .data, .pinned], laidTests := true, laidLooks := .later }
def QuantityNamesCardSaid : Prop := Claim7.holds Tryd.pinned (.plain (OpenSpec.ofChange quantityNamesSpec)) quantityNamesCard

/-- THE TIED CARD OF 'gridworklaw14.TokensBare'. -/
def tokensBareCard : Claim7 := { stood := { row := tokensBareRow, standIns := [], harness := (true, "60b7e14a4122479f1e880e0a33b6ff83c1eeff43186f658bc88b8e1b0c644d13"), looks := false }, kinds := [], alts := [], laidByText := true, laidKinds := [.data, .pinned], laidTests := true, laidLooks := .later }
def TokensBareCardSaid : Prop := Claim7.holds Tryd.pinned (.plain (OpenSpec.ofChange tokensBareSpec)) tokensBareCard

/-- THE SECOND FORM's CARD OF 'gridworklaw05.QuantityBack'. -/
def quantityBackUptoCard : Claim7 := { stood := { row := quantityBackUptoRow, standIns := [], harness := (true, "60b7e14a4122479f1e880e0a33b6ff83c1eeff43186f658bc88b8e1b0c644d13"), looks := false }, kinds := [], alts := [], laidByText := true, laidKinds := [.data, .data, .data, .data, .pinned], laidTests := true, laidLooks := .later }
def QuantityBackUptoCardSaid : Prop := Claim7.holds Tryd.pinned (.plain (OpenSpec.upto quantityBackSpec)) quantityBackUptoCard

/-- THE SECOND FORM's CARD OF 'gridworklaw05.QuantityNames'. -/
def quantityNamesUptoCard : Claim7 := { stood := { row := quantityNamesUptoRow, standIns := [], harness := (true, "60b7e14a4122479f1e880e0a33b6ff83c1eeff43186f658bc88b8e1b0c644d13"), looks := false }, kinds := [], alts := [], laidByText := true, laidKinds := [.data, .data, .data, .data, .pinned], laidTests := true, laidLooks := .later }
def QuantityNamesUptoCardSaid : Prop := Claim7.holds Tryd.pinned (.plain (OpenSpec.upto quantityNamesSpec)) quantityNamesUptoCard

/-- THE SECOND FORM's CARD OF 'gridworklaw14.TokensBare'. -/
def tokensBareUptoCard : Claim7 := { stood := { row := tokensBareUptoRow, standIns := [], harness := (true, "60b7e14a4122479f1e880e0a33b6ff83c1eeff43186f658bc88b8e1b0c644d13"), looks := false }, kinds := [], alts := [], laidByText := true, laidKinds := [.data, .pinned], laidTests := true, laidLooks := .later }
def TokensBareUptoCardSaid : Prop := Claim7.holds Tryd.pinned (.plain (OpenSpec.upto tokensBareSpec)) tokensBareUptoCard
end Rows
end Go.Proofs.YtpfdgibgdehcdaaDoor
