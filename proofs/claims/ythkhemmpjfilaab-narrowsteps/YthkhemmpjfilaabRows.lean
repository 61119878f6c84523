/-
  No cell of these rows narrows 'for every input' (looked for: loops, veiled, ifaces, maps, wideKeys, modest, calm, conditions, laid).
  DERIVED. THE GIVEN ROWS OF THIS SEAT. 3 by the template 'for every input the law returns true; each argument reads behind the call as it read before'; 0 by the template 'total and deterministic' (their statements: YthkhemmpjfilaabTotals.lean).
  GIVEN WITH THE SEED: the statements are not yours to turn. If you find one false, say at which input.
  Laid BY PROGRAM, IN A SANDBOX (cutbox-rows.mjs): the forced cells as the released guide's own fill.sh prints them over the translation c041d4d8831d3003… (all of the seat's roots in one cut). By AI agents, Wed Nov 11 2026. No macro, syntax, notation, axiom, sorry.
-/
import Derived.Test.YthkhemmpjfilaabChecked
import GoSem.Claim
import GoSem.ClaimJoined
import GoSem.ClaimMapViews
import Derived.JoinedTies
import Derived.KernelRfl
namespace Go.Proofs.Ythkhemmpjfilaab
/- THE CELL 'sum', in the pinned program and in every row, IS THE sha256 OF THE DUMP (.gsa) THAT YthkhemmpjfilaabProg.lean LOADS. Nothing in Lean hashes anything: it is a label: what it is worth is what the hold of that sum in a sandbox is worth. -/
noncomputable def Try.pinned : Pinned := { name := "ythkhemmpjfilaab", sum := "c041d4d8831d3003d465d01556fea38b31ec84267ad8ef25e35495bb9c7619f2", checked := Try.checked }
namespace Rows
def none {H : Type} : Left H := { results := [], args := [] }

/-- 'gridworklaw03.NarrowNames': WHATEVER THE INPUT: true; the input reads as it did. -/
def narrowNamesSpec : ChangeSpec := { name := "narrowNames", fn := fun _ => fun
  | [] => { results := [.lit (.bool true)], args := [] }
  | _ => none }
def narrowNamesRow : OpenClaim := { program := "ythkhemmpjfilaab", sum := "c041d4d8831d3003d465d01556fea38b31ec84267ad8ef25e35495bb9c7619f2", func := "gridwork/gridworklaw03.NarrowNames", spec := "narrowNames", inPlace := ["math.Float64frombits", "math.Float64bits", "math.Float32bits", "math.Float32frombits", "math.sqrt"], apart := false }
def NarrowNamesSaid : Prop := narrowNamesRow.holds Try.pinned (OpenSpec.ofChange narrowNamesSpec)

/-- ITS FALSE NEIGHBOUR: 'it returns false'. Refute it at one input. -/
def narrowNamesWrong : ChangeSpec := { name := "narrowNames", fn := fun _ => fun
  | [] => { results := [.lit (.bool false)], args := [] }
  | _ => none }
def NarrowNamesWrongFalsely : Prop := narrowNamesRow.holds Try.pinned (OpenSpec.ofChange narrowNamesWrong)

/-- 'gridworklaw03.NarrowBack': WHATEVER THE INPUT: true; the input reads as it did. -/
def narrowBackSpec : ChangeSpec := { name := "narrowBack", fn := fun _ => fun
  | [d1, d2, d3] => { results := [.lit (.bool true)], args := [d1, d2, d3] }
  | _ => none }
def narrowBackRow : OpenClaim := { program := "ythkhemmpjfilaab", sum := "c041d4d8831d3003d465d01556fea38b31ec84267ad8ef25e35495bb9c7619f2", func := "gridwork/gridworklaw03.NarrowBack", spec := "narrowBack", inPlace := ["math.Float32frombits", "math.Float64bits", "math.Float64frombits", "math.Float32bits", "math.sqrt"], apart := false }
def NarrowBackSaid : Prop := narrowBackRow.holds Try.pinned (OpenSpec.ofChange narrowBackSpec)

/-- ITS FALSE NEIGHBOUR: 'it returns false'. Refute it at one input. -/
def narrowBackWrong : ChangeSpec := { name := "narrowBack", fn := fun _ => fun
  | [d1, d2, d3] => { results := [.lit (.bool false)], args := [d1, d2, d3] }
  | _ => none }
def NarrowBackWrongFalsely : Prop := narrowBackRow.holds Try.pinned (OpenSpec.ofChange narrowBackWrong)

/-- 'gridworklaw03.NarrowSteps': WHATEVER THE INPUT: true; the input reads as it did. -/
def narrowStepsSpec : ChangeSpec := { name := "narrowSteps", fn := fun _ => fun
  | [d] => { results := [.lit (.bool true)], args := [d] }
  | _ => none }
def narrowStepsRow : OpenClaim := { program := "ythkhemmpjfilaab", sum := "c041d4d8831d3003d465d01556fea38b31ec84267ad8ef25e35495bb9c7619f2", func := "gridwork/gridworklaw03.NarrowSteps", spec := "narrowSteps", inPlace := ["math.Float32frombits", "math.Float32bits", "math.Float64bits", "math.Float64frombits", "math.sqrt"], apart := false }
def NarrowStepsSaid : Prop := narrowStepsRow.holds Try.pinned (OpenSpec.ofChange narrowStepsSpec)

/-- ITS FALSE NEIGHBOUR: 'it returns false'. Refute it at one input. -/
def narrowStepsWrong : ChangeSpec := { name := "narrowSteps", fn := fun _ => fun
  | [d] => { results := [.lit (.bool false)], args := [d] }
  | _ => none }
def NarrowStepsWrongFalsely : Prop := narrowStepsRow.holds Try.pinned (OpenSpec.ofChange narrowStepsWrong)

/- THE SECOND FORM. 'bulk': how many values and letters a reading holds, each counted each time it is reached (what is shared counts as often as it is met; a slice's spare places count too). A statement '..UptoSaid' is the law's where the arguments, and the package variables that the reading takes, are together of bulk at most 1048576: NARROWER than '..Said'. Prove '..Said' where nothing that the law and all that it calls make is longer than what came in: it says more and counts as full. Else prove '..UptoSaid'. A law counts once. -/
mutual
def uptoBulk {H : Type} : DataW H → Nat
  | .lit (.string bytes) => bytes.length + 1
  | .lit _ => 1
  | .nil => 1
  | .ptr d => uptoBulk d + 1
  | .slice elems spare => uptoBulkAll elems + uptoBulkAll spare + 1
  | .agg parts => uptoBulkAll parts + 1
  | .iface _ d => uptoBulk d + 1
  | .map entries => uptoBulkEntries entries + 1
  | .held _ => 1
def uptoBulkAll {H : Type} : List (DataW H) → Nat
  | [] => 0
  | d :: r => uptoBulk d + uptoBulkAll r
def uptoBulkEntries {H : Type} : List (Lit × DataW H) → Nat
  | [] => 0
  | x :: r => uptoBulkEntry x + uptoBulkEntries r
def uptoBulkEntry {H : Type} : Lit × DataW H → Nat
  | (.string bytes, d) => bytes.length + uptoBulk d + 1
  | (_, d) => uptoBulk d + 1
 end
def uptoSmall : (H : Type) → List (DataW H) → Bool := fun _ ds => decide (uptoBulkAll ds ≤ 1048576)
def OpenSpec.upto (s : _root_.Go.ChangeSpec) : _root_.Go.OpenSpec := { _root_.Go.OpenSpec.ofChange s with cond := some uptoSmall }

/-- 'gridworklaw03.NarrowNames', WHERE WHAT IT READS IS OF BULK AT MOST 1048576: true; the input reads as it did. -/
def narrowNamesUptoRow : OpenClaim := { program := "ythkhemmpjfilaab", sum := "c041d4d8831d3003d465d01556fea38b31ec84267ad8ef25e35495bb9c7619f2", func := "gridwork/gridworklaw03.NarrowNames", spec := "narrowNames", inPlace := ["math.Float64frombits", "math.Float64bits", "math.Float32bits", "math.Float32frombits", "math.sqrt"], apart := false, narrowed := true }
def NarrowNamesUptoSaid : Prop := narrowNamesUptoRow.holds Try.pinned (OpenSpec.upto narrowNamesSpec)

/-- 'gridworklaw03.NarrowBack', WHERE WHAT IT READS IS OF BULK AT MOST 1048576: true; the input reads as it did. -/
def narrowBackUptoRow : OpenClaim := { program := "ythkhemmpjfilaab", sum := "c041d4d8831d3003d465d01556fea38b31ec84267ad8ef25e35495bb9c7619f2", func := "gridwork/gridworklaw03.NarrowBack", spec := "narrowBack", inPlace := ["math.Float32frombits", "math.Float64bits", "math.Float64frombits", "math.Float32bits", "math.sqrt"], apart := false, narrowed := true }
def NarrowBackUptoSaid : Prop := narrowBackUptoRow.holds Try.pinned (OpenSpec.upto narrowBackSpec)

/-- 'gridworklaw03.NarrowSteps', WHERE WHAT IT READS IS OF BULK AT MOST 1048576: true; the input reads as it did. -/
def narrowStepsUptoRow : OpenClaim := { program := "ythkhemmpjfilaab", sum := "c041d4d8831d3003d465d01556fea38b31ec84267ad8ef25e35495bb9c7619f2", func := "gridwork/gridworklaw03.NarrowSteps", spec := "narrowSteps", inPlace := ["math.Float32frombits", "math.Float32bits", "math.Float64bits", "math.Float64frombits", "math.sqrt"], apart := false, narrowed := true }
def NarrowStepsUptoSaid : Prop := narrowStepsUptoRow.holds Try.pinned (OpenSpec.upto narrowStepsSpec)

end Rows
end Go.Proofs.Ythkhemmpjfilaab
