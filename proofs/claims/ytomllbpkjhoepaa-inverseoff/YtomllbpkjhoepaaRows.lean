/-
  No cell of these rows narrows 'for every input' (looked for: loops, veiled, ifaces, maps, wideKeys, modest, calm, conditions, laid).
  DERIVED. THE GIVEN ROWS OF THIS SEAT. 4 by the template 'for every input the law returns true; each argument reads behind the call as it read before'; 0 by the template 'total and deterministic' (their statements: YtomllbpkjhoepaaTotals.lean).
  GIVEN WITH THE SEED: the statements are not yours to turn. If you find one false, say at which input.
  Laid BY PROGRAM, IN A SANDBOX (cutbox-rows.mjs): the forced cells as the released guide's own fill.sh prints them over the translation ec284aa0a9335b6c… (all of the seat's roots in one cut). By AI agents, Wed Nov 11 2026. No macro, syntax, notation, axiom, sorry.
-/
import Derived.Test.YtomllbpkjhoepaaChecked
import GoSem.Claim
import GoSem.ClaimJoined
import GoSem.ClaimMapViews
import Derived.JoinedTies
import Derived.KernelRfl
namespace Go.Proofs.Ytomllbpkjhoepaa
/- THE CELL 'sum', in the pinned program and in every row, IS THE sha256 OF THE DUMP (.gsa) THAT YtomllbpkjhoepaaProg.lean LOADS. Nothing in Lean hashes anything: it is a label: what it is worth is what the hold of that sum in a sandbox is worth. -/
noncomputable def Try.pinned : Pinned := { name := "ytomllbpkjhoepaa", sum := "ec284aa0a9335b6c458dd4add257c03491103bf0893e7b41490fa25291739e84", checked := Try.checked }
namespace Rows
def none {H : Type} : Left H := { results := [], args := [] }

/-- 'gridworklaw12.InverseOff': WHATEVER THE INPUT: true; the input reads as it did. -/
def inverseOffSpec : ChangeSpec := { name := "inverseOff", fn := fun _ => fun
  | [d1, d2] => { results := [.lit (.bool true)], args := [d1, d2] }
  | _ => none }
def inverseOffRow : OpenClaim := { program := "ytomllbpkjhoepaa", sum := "ec284aa0a9335b6c458dd4add257c03491103bf0893e7b41490fa25291739e84", func := "gridwork/gridworklaw12.InverseOff", spec := "inverseOff", inPlace := ["math.Float64frombits", "math.Float64bits"], unfollowed := true, recurses := true, apart := false }
def InverseOffSaid : Prop := inverseOffRow.holds Try.pinned (OpenSpec.ofChange inverseOffSpec)

/-- ITS FALSE NEIGHBOUR: 'it returns false'. Refute it at one input. -/
def inverseOffWrong : ChangeSpec := { name := "inverseOff", fn := fun _ => fun
  | [d1, d2] => { results := [.lit (.bool false)], args := [d1, d2] }
  | _ => none }
def InverseOffWrongFalsely : Prop := inverseOffRow.holds Try.pinned (OpenSpec.ofChange inverseOffWrong)

/-- 'gridworklaw12.InverseNames': WHATEVER THE INPUT: true; the input reads as it did. -/
def inverseNamesSpec : ChangeSpec := { name := "inverseNames", fn := fun _ => fun
  | [] => { results := [.lit (.bool true)], args := [] }
  | _ => none }
def inverseNamesRow : OpenClaim := { program := "ytomllbpkjhoepaa", sum := "ec284aa0a9335b6c458dd4add257c03491103bf0893e7b41490fa25291739e84", func := "gridwork/gridworklaw12.InverseNames", spec := "inverseNames", inPlace := ["math.Float64bits", "math.Float64frombits"], unfollowed := true, recurses := true, apart := false }
def InverseNamesSaid : Prop := inverseNamesRow.holds Try.pinned (OpenSpec.ofChange inverseNamesSpec)

/-- ITS FALSE NEIGHBOUR: 'it returns false'. Refute it at one input. -/
def inverseNamesWrong : ChangeSpec := { name := "inverseNames", fn := fun _ => fun
  | [] => { results := [.lit (.bool false)], args := [] }
  | _ => none }
def InverseNamesWrongFalsely : Prop := inverseNamesRow.holds Try.pinned (OpenSpec.ofChange inverseNamesWrong)

/-- 'gridworklaw12.InversePermutes': WHATEVER THE INPUT: true; the input reads as it did. -/
def inversePermutesSpec : ChangeSpec := { name := "inversePermutes", fn := fun _ => fun
  | [d1, d2, d3] => { results := [.lit (.bool true)], args := [d1, d2, d3] }
  | _ => none }
def inversePermutesRow : OpenClaim := { program := "ytomllbpkjhoepaa", sum := "ec284aa0a9335b6c458dd4add257c03491103bf0893e7b41490fa25291739e84", func := "gridwork/gridworklaw12.InversePermutes", spec := "inversePermutes", inPlace := ["math.Float64bits", "math.Float64frombits"], unfollowed := true, recurses := true, apart := false }
def InversePermutesSaid : Prop := inversePermutesRow.holds Try.pinned (OpenSpec.ofChange inversePermutesSpec)

/-- ITS FALSE NEIGHBOUR: 'it returns false'. Refute it at one input. -/
def inversePermutesWrong : ChangeSpec := { name := "inversePermutes", fn := fun _ => fun
  | [d1, d2, d3] => { results := [.lit (.bool false)], args := [d1, d2, d3] }
  | _ => none }
def InversePermutesWrongFalsely : Prop := inversePermutesRow.holds Try.pinned (OpenSpec.ofChange inversePermutesWrong)

/-- 'gridworklaw12.InverseMirror': WHATEVER THE INPUT: true; the input reads as it did. -/
def inverseMirrorSpec : ChangeSpec := { name := "inverseMirror", fn := fun _ => fun
  | [d1, d2] => { results := [.lit (.bool true)], args := [d1, d2] }
  | _ => none }
def inverseMirrorRow : OpenClaim := { program := "ytomllbpkjhoepaa", sum := "ec284aa0a9335b6c458dd4add257c03491103bf0893e7b41490fa25291739e84", func := "gridwork/gridworklaw12.InverseMirror", spec := "inverseMirror", inPlace := ["math.Float64frombits", "math.Float64bits"], unfollowed := true, recurses := true, apart := false }
def InverseMirrorSaid : Prop := inverseMirrorRow.holds Try.pinned (OpenSpec.ofChange inverseMirrorSpec)

/-- ITS FALSE NEIGHBOUR: 'it returns false'. Refute it at one input. -/
def inverseMirrorWrong : ChangeSpec := { name := "inverseMirror", fn := fun _ => fun
  | [d1, d2] => { results := [.lit (.bool false)], args := [d1, d2] }
  | _ => none }
def InverseMirrorWrongFalsely : Prop := inverseMirrorRow.holds Try.pinned (OpenSpec.ofChange inverseMirrorWrong)

/- THE SECOND FORM. 'bulk': how many values and letters a reading holds, each counted each time it is reached (what is shared counts as often as it is met; a slice's spare places count too). A statement '..UptoSaid' is the law's where the arguments, and the package variables that the reading takes, are together of bulk at most 1048576: NARROWER than '..Said'. Prove '..Said' where nothing that the law and all that it calls make is longer than what came in: it says more and counts as full. Else prove '..UptoSaid'. A law counts once. -/
mutual
def uptoBulk {H : Type} : DataW H → Nat
  | .lit (.string bytes) => bytes.length + 1
  | .lit _ => 1
  | .nil => 1
  | .ptr d => uptoBulk d + 1
  | .slice elems spare => uptoBulkAll elems + uptoBulkAll spare + 1
  | .agg parts => uptoBulkAll parts + 1
  | .iface _ d => uptoBulk d + 1
  | .map entries => uptoBulkEntries entries + 1
  | .held _ => 1
def uptoBulkAll {H : Type} : List (DataW H) → Nat
  | [] => 0
  | d :: r => uptoBulk d + uptoBulkAll r
def uptoBulkEntries {H : Type} : List (Lit × DataW H) → Nat
  | [] => 0
  | x :: r => uptoBulkEntry x + uptoBulkEntries r
def uptoBulkEntry {H : Type} : Lit × DataW H → Nat
  | (.string bytes, d) => bytes.length + uptoBulk d + 1
  | (_, d) => uptoBulk d + 1
 end
def uptoSmall : (H : Type) → List (DataW H) → Bool := fun _ ds => decide (uptoBulkAll ds ≤ 1048576)
def OpenSpec.upto (s : _root_.Go.ChangeSpec) : _root_.Go.OpenSpec := { _root_.Go.OpenSpec.ofChange s with cond := some uptoSmall }

/-- 'gridworklaw12.InverseOff', WHERE WHAT IT READS IS OF BULK AT MOST 1048576: true; the input reads as it did. -/
def inverseOffUptoRow : OpenClaim := { program := "ytomllbpkjhoepaa", sum := "ec284aa0a9335b6c458dd4add257c03491103bf0893e7b41490fa25291739e84", func := "gridwork/gridworklaw12.InverseOff", spec := "inverseOff", inPlace := ["math.Float64frombits", "math.Float64bits"], unfollowed := true, recurses := true, apart := false, narrowed := true }
def InverseOffUptoSaid : Prop := inverseOffUptoRow.holds Try.pinned (OpenSpec.upto inverseOffSpec)

/-- 'gridworklaw12.InverseNames', WHERE WHAT IT READS IS OF BULK AT MOST 1048576: true; the input reads as it did. -/
def inverseNamesUptoRow : OpenClaim := { program := "ytomllbpkjhoepaa", sum := "ec284aa0a9335b6c458dd4add257c03491103bf0893e7b41490fa25291739e84", func := "gridwork/gridworklaw12.InverseNames", spec := "inverseNames", inPlace := ["math.Float64bits", "math.Float64frombits"], unfollowed := true, recurses := true, apart := false, narrowed := true }
def InverseNamesUptoSaid : Prop := inverseNamesUptoRow.holds Try.pinned (OpenSpec.upto inverseNamesSpec)

/-- 'gridworklaw12.InversePermutes', WHERE WHAT IT READS IS OF BULK AT MOST 1048576: true; the input reads as it did. -/
def inversePermutesUptoRow : OpenClaim := { program := "ytomllbpkjhoepaa", sum := "ec284aa0a9335b6c458dd4add257c03491103bf0893e7b41490fa25291739e84", func := "gridwork/gridworklaw12.InversePermutes", spec := "inversePermutes", inPlace := ["math.Float64bits", "math.Float64frombits"], unfollowed := true, recurses := true, apart := false, narrowed := true }
def InversePermutesUptoSaid : Prop := inversePermutesUptoRow.holds Try.pinned (OpenSpec.upto inversePermutesSpec)

/-- 'gridworklaw12.InverseMirror', WHERE WHAT IT READS IS OF BULK AT MOST 1048576: true; the input reads as it did. -/
def inverseMirrorUptoRow : OpenClaim := { program := "ytomllbpkjhoepaa", sum := "ec284aa0a9335b6c458dd4add257c03491103bf0893e7b41490fa25291739e84", func := "gridwork/gridworklaw12.InverseMirror", spec := "inverseMirror", inPlace := ["math.Float64frombits", "math.Float64bits"], unfollowed := true, recurses := true, apart := false, narrowed := true }
def InverseMirrorUptoSaid : Prop := inverseMirrorUptoRow.holds Try.pinned (OpenSpec.upto inverseMirrorSpec)

end Rows
end Go.Proofs.Ytomllbpkjhoepaa
