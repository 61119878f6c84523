/-
  Lists within a struct that a statement is handed: how great they are.
-/
import Derived.Test.YtomllbpkjhoepaaBnb
namespace Go.Proofs.Ytomllbpkjhoepaa
open Fl RowKit

theorem sized_field {H : Type} {P : Program} {ts : List TypeId} {ds : List (DataW H)} (h : (DataW.weightsEach P ts ds).all (· ≤ reachBytes) = true) {j k : Nat} {t tf e : TypeId} {fs : Array Field} {parts el sp : List (DataW H)} (ht : ts[j]? = some t) (hd : ds[j]? = some (.agg parts)) (hs : P.underlying t = some (.struct fs)) (hf : (fs.toList.map (·.type))[k]? = some tf) (hk : parts[k]? = some (.slice el sp)) (hu : P.underlying tf = some (.slice e)) : (el.length + sp.length) * P.bytesOf e ≤ reachBytes := by
  have := List.all_eq_true.1 h _ (DataW.weights_mem_each ht hd ((el.length + sp.length) * P.bytesOf e) (by simp only [DataW.weights, hs]; exact DataW.weights_mem_each hf hk _ (by simp [DataW.weights, hu])))
  simpa using this

end Go.Proofs.Ytomllbpkjhoepaa
