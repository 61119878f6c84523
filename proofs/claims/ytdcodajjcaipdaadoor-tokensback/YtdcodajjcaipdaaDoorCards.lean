/-
  DERIVED. GIVEN WITH THE SEED: THE CARDS: each row of YtdcodajjcaipdaaDoorRows.lean that lists a variable, with what it lists TIED to the program's text (the seventh form; the later family's looks); each row that meets fmt, with fmt's text TOLD by the authors' own Lean function (tested against real Go, not proved from fmt's source: count such statements apart). THE CARD IS WHAT COUNTS. Prove the row's statement (the work); the ties are given (YtdcodajjcaipdaaDoorTie.lean); close each card by the builder's one call (the guide's Derived/Test/ToyasCard.lean, 'card_holds'). Laid BY PROGRAM, IN A SANDBOX (cutbox-door.mjs). By AI agents, Wed Nov 11 2026. No macro, syntax, notation, axiom, sorry.
-/
import Derived.Test.YtdcodajjcaipdaaDoorRows
import GoSem.ClaimSeven
namespace Go.Proofs.YtdcodajjcaipdaaDoor
namespace Rows

/-- THE TIED CARD OF 'gridworklaw14.TokensCuts'. -/
def tokensCutsCard : Claim7 := { stood := { row := tokensCutsRow, standIns := [], harness := (true, "0dc2f3f6a3af6963aaf2e8f0921170f3fce8ec8c96af2e2347ddc931f85ff1b4"), looks := false }, kinds := [], alts := [], laidByText := true, laidKinds := [.data, .pinned], laidTests := true, laidLooks := .later }
def TokensCutsCardSaid : Prop := Claim7.holds Tryd.pinned (.plain (OpenSpec.ofChange tokensCutsSpec)) tokensCutsCard

/-- THE TIED CARD OF 'gridworklaw14.TokensJoins'. -/
def tokensJoinsCard : Claim7 := { stood := { row := tokensJoinsRow, standIns := [], harness := (true, "0dc2f3f6a3af6963aaf2e8f0921170f3fce8ec8c96af2e2347ddc931f85ff1b4"), looks := false }, kinds := [], alts := [], laidByText := true, laidKinds := [.data, .pinned], laidTests := true, laidLooks := .later }
def TokensJoinsCardSaid : Prop := Claim7.holds Tryd.pinned (.plain (OpenSpec.ofChange tokensJoinsSpec)) tokensJoinsCard

/-- THE TIED CARD OF 'gridworklaw14.TokensBack'. -/
def tokensBackCard : Claim7 := { stood := { row := tokensBackRow, standIns := [], harness := (true, "0dc2f3f6a3af6963aaf2e8f0921170f3fce8ec8c96af2e2347ddc931f85ff1b4"), looks := false }, kinds := [], alts := [], laidByText := true, laidKinds := [.data, .pinned], laidTests := true, laidLooks := .later }
def TokensBackCardSaid : Prop := Claim7.holds Tryd.pinned (.plain (OpenSpec.ofChange tokensBackSpec)) tokensBackCard

/-- THE TIED CARD OF 'gridworklaw14.TokensBare'. -/
def tokensBareCard : Claim7 := { stood := { row := tokensBareRow, standIns := [], harness := (true, "0dc2f3f6a3af6963aaf2e8f0921170f3fce8ec8c96af2e2347ddc931f85ff1b4"), looks := false }, kinds := [], alts := [], laidByText := true, laidKinds := [.data, .pinned], laidTests := true, laidLooks := .later }
def TokensBareCardSaid : Prop := Claim7.holds Tryd.pinned (.plain (OpenSpec.ofChange tokensBareSpec)) tokensBareCard

/-- THE TIED CARD OF 'gridworklaw14.TokensLong'. -/
def tokensLongCard : Claim7 := { stood := { row := tokensLongRow, standIns := [], harness := (true, "0dc2f3f6a3af6963aaf2e8f0921170f3fce8ec8c96af2e2347ddc931f85ff1b4"), looks := false }, kinds := [], alts := [], laidByText := true, laidKinds := [.data, .pinned], laidTests := true, laidLooks := .later }
def TokensLongCardSaid : Prop := Claim7.holds Tryd.pinned (.plain (OpenSpec.ofChange tokensLongSpec)) tokensLongCard

/-- THE TIED CARD OF 'gridworklaw14.TokensNames'. -/
def tokensNamesCard : Claim7 := { stood := { row := tokensNamesRow, standIns := [], harness := (true, "0dc2f3f6a3af6963aaf2e8f0921170f3fce8ec8c96af2e2347ddc931f85ff1b4"), looks := false }, kinds := [], alts := [], laidByText := true, laidKinds := [.data, .pinned], laidTests := true, laidLooks := .later }
def TokensNamesCardSaid : Prop := Claim7.holds Tryd.pinned (.plain (OpenSpec.ofChange tokensNamesSpec)) tokensNamesCard

/-- THE SECOND FORM's CARD OF 'gridworklaw14.TokensCuts'. -/
def tokensCutsUptoCard : Claim7 := { stood := { row := tokensCutsUptoRow, standIns := [], harness := (true, "0dc2f3f6a3af6963aaf2e8f0921170f3fce8ec8c96af2e2347ddc931f85ff1b4"), looks := false }, kinds := [], alts := [], laidByText := true, laidKinds := [.data, .pinned], laidTests := true, laidLooks := .later }
def TokensCutsUptoCardSaid : Prop := Claim7.holds Tryd.pinned (.plain (OpenSpec.upto tokensCutsSpec)) tokensCutsUptoCard

/-- THE SECOND FORM's CARD OF 'gridworklaw14.TokensJoins'. -/
def tokensJoinsUptoCard : Claim7 := { stood := { row := tokensJoinsUptoRow, standIns := [], harness := (true, "0dc2f3f6a3af6963aaf2e8f0921170f3fce8ec8c96af2e2347ddc931f85ff1b4"), looks := false }, kinds := [], alts := [], laidByText := true, laidKinds := [.data, .pinned], laidTests := true, laidLooks := .later }
def TokensJoinsUptoCardSaid : Prop := Claim7.holds Tryd.pinned (.plain (OpenSpec.upto tokensJoinsSpec)) tokensJoinsUptoCard

/-- THE SECOND FORM's CARD OF 'gridworklaw14.TokensBack'. -/
def tokensBackUptoCard : Claim7 := { stood := { row := tokensBackUptoRow, standIns := [], harness := (true, "0dc2f3f6a3af6963aaf2e8f0921170f3fce8ec8c96af2e2347ddc931f85ff1b4"), looks := false }, kinds := [], alts := [], laidByText := true, laidKinds := [.data, .pinned], laidTests := true, laidLooks := .later }
def TokensBackUptoCardSaid : Prop := Claim7.holds Tryd.pinned (.plain (OpenSpec.upto tokensBackSpec)) tokensBackUptoCard

/-- THE SECOND FORM's CARD OF 'gridworklaw14.TokensBare'. -/
def tokensBareUptoCard : Claim7 := { stood := { row := tokensBareUptoRow, standIns := [], harness := (true, "0dc2f3f6a3af6963aaf2e8f0921170f3fce8ec8c96af2e2347ddc931f85ff1b4"), looks := false }, kinds := [], alts := [], laidByText := true, laidKinds := [.data, .pinned], laidTests := true, laidLooks := .later }
def TokensBareUptoCardSaid : Prop := Claim7.holds Tryd.pinned (.plain (OpenSpec.upto tokensBareSpec)) tokensBareUptoCard

/-- THE SECOND FORM's CARD OF 'gridworklaw14.TokensLong'. -/
def tokensLongUptoCard : Claim7 := { stood := { row := tokensLongUptoRow, standIns := [], harness := (true, "0dc2f3f6a3af6963aaf2e8f0921170f3fce8ec8c96af2e2347ddc931f85ff1b4"), looks := false }, kinds := [], alts := [], laidByText := true, laidKinds := [.data, .pinned], laidTests := true, laidLooks := .later }
def TokensLongUptoCardSaid : Prop := Claim7.holds Tryd.pinned (.plain (OpenSpec.upto tokensLongSpec)) tokensLongUptoCard

/-- THE SECOND FORM's CARD OF 'gridworklaw14.TokensNames'. -/
def tokensNamesUptoCard : Claim7 := { stood := { row := tokensNamesUptoRow, standIns := [], harness := (true, "0dc2f3f6a3af6963aaf2e8f0921170f3fce8ec8c96af2e2347ddc931f85ff1b4"), looks := false }, kinds := [], alts := [], laidByText := true, laidKinds := [.data, .pinned], laidTests := true, laidLooks := .later }
def TokensNamesUptoCardSaid : Prop := Claim7.holds Tryd.pinned (.plain (OpenSpec.upto tokensNamesSpec)) tokensNamesUptoCard
end Rows
end Go.Proofs.YtdcodajjcaipdaaDoor
