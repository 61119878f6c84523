/-
  Kept of Gpa.
-/
import Derived.Test.YtmpkcioeodlbcaaGreatDoorK24
import Derived.Test.YtmpkcioeodlbcaaGreatDoorK23
import Derived.Test.YtmpkcioeodlbcaaGreatDoorK27
import Derived.Test.YtmpkcioeodlbcaaGreatDoorK29
import Derived.Deep.Slices
import Derived.Deep.SlicePairs
import Derived.OpenShut
import Derived.SizedLaws
import Derived.ProofKit
import Derived.ShutString
import Derived.ChangeOld
import Derived.Below
import Derived.Lib.SmallJoins
namespace Go.Proofs.YtmpkcioeodlbcaaGreatDoor
open Go.ChangeShapes Go.WideShapes Go.ChangeAt Go.RowKit Go.Joins Go.Deep Go.Maps
set_option linter.unusedVariables false
set_option maxRecDepth 100000
structure Elm.bd (x : Elm) : Prop where
  k : x.k < 256
  v : x.v < 18446744073709551616
  plo : -9223372036854775808 ≤ x.ph
  phi : x.ph < 9223372036854775808
instance : Inhabited Elm := ⟨⟨0, ⟨#[]⟩, ⟨#[]⟩, ⟨#[]⟩, ⟨#[]⟩, ⟨#[]⟩, 0, 0⟩⟩
end Go.Proofs.YtmpkcioeodlbcaaGreatDoor
