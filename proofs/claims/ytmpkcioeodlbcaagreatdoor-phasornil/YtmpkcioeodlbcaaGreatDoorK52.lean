/-
  Kept of Tfr.
-/
import Derived.Test.YtmpkcioeodlbcaaGreatDoorK05
import Derived.Test.YtmpkcioeodlbcaaGreatDoorRows
import Derived.Shelf.Vars
import Derived.SizedLaws
import Derived.ShutString
namespace Go.Proofs.YtmpkcioeodlbcaaGreatDoor
set_option linter.unusedVariables false
variable {H : Type} {enc : TypeId × Value → H}
theorem mln_shaped {w : World} (h : w.ShapedOpen Tryz.prog) : Mln w :=
  cell_of_shapedOpen_int (t := 3) (zero := #[.int .i64 0]) h (by decide +kernel) (by kernel_rfl) rfl (by kernel_rfl) (by kernel_rfl) Tryz.underlying3
end Go.Proofs.YtmpkcioeodlbcaaGreatDoor
