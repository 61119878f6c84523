/-
  Conjugates of long lists.
-/
import Derived.Test.YtklbgibhbnijaaaLkc
import Derived.Test.YtklbgibhbnijaaaLkb
namespace Go.Proofs.Ytklbgibhbnijaaa
open Fl RowKit

end Go.Proofs.Ytklbgibhbnijaaa
