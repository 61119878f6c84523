/-
  The document's Lower: what its smaller calls hand back.
-/
import Derived.Test.YtklbgibhbnijaaaLrc
namespace Go.Proofs.Ytklbgibhbnijaaa
open Fl RowKit

/-- what the document's Lower holds: nothing was made (nil, or the struct says so), or there is such a struct -/
def Hr (w : World) (v : Value) (made : Bool) (n : Nat) (A B : Value) (odd : Bool) : Prop :=
  (v = .pointer none ∧ made = false) ∨ ∃ p ties, v = .pointer (some ⟨p, 0, none⟩) ∧ V6 p (.int .i64 n) A B (.bool odd) (.bool ties) (.bool made) w
theorem Hr.below {w w' : World} {v : Value} {made : Bool} {n : Nat} {A B : Value} {odd : Bool} (h : Hr w v made n A B odd) (hb : Below w.heap.size w w') : Hr w' v made n A B odd := by
  rcases h with h | ⟨p, t, h1, h2⟩
  · exact .inl h
  · exact .inr ⟨p, t, h1, h2.at hb.size (hb.block p h2.lt)⟩
theorem Lr.hr {w : World} {b p n gr go cr co : Nat} {bl cp : Nat → Nat} {M : Nat → Nat → Cw} {o : Nat → Nat} {odd ties : Bool} (h : Lr w b p n gr go cr co bl cp M o odd ties) : Hr w (.pointer (some ⟨p, 0, none⟩)) true n (.slice (some ⟨gr, 0, none⟩) n cr) (.slice (some ⟨go, 0, none⟩) n co) odd := .inr ⟨p, ties, rfl, h.v⟩
set_option maxHeartbeats 1000000 in
theorem r9none_any {v : Value} {made : Bool} {n : Nat} {A B : Value} {odd : Bool} {w : World} (h : Hr w v made n A B odd) :
    Calls Try.prog 109 #[v] w fun e w' => e = .returned (.bool (!made)) ∧ w' = w := by
  rcases h with ⟨rfl, rfl⟩ | ⟨p, t, rfl, hv⟩
  · go_enter Try.func109, Try.ntmps109
    go_wp2
    go_ret
    exact ⟨rfl, rfl⟩
  · have c5 := hv.c5
    have pl := hv.lt
    clear hv
    go_enter Try.func109, Try.ntmps109
    go_wp2
    go_ret
    exact ⟨rfl, rfl⟩
set_option maxHeartbeats 1000000 in
theorem r9size_any {v : Value} {made : Bool} {n : Nat} {A B : Value} {odd : Bool} {w : World} (h : Hr w v made n A B odd) :
    Calls Try.prog 67 #[v] w fun e w' => e = .returned (.int .i64 (if made then n else 0 : Nat)) ∧ w' = w := by
  have HH := hid_o h
  rcases h with ⟨rfl, rfl⟩ | ⟨p, t, rfl, hv⟩
  · go_enter Try.func67, Try.ntmps67
    go_wp2_with (go_at_call 109; (with_reducible refine (r9none_any HH.out).mono ?_); rintro e w1 ⟨rfl, rfl⟩)
    go_ret
    exact ⟨rfl, rfl⟩
  · have c0 := hv.c0
    have pl := hv.lt
    clear hv
    go_enter Try.func67, Try.ntmps67
    cases made
    · go_wp2_with (go_at_call 109; (with_reducible refine (r9none_any HH.out).mono ?_); rintro e w1 ⟨rfl, rfl⟩)
      go_ret
      exact ⟨rfl, rfl⟩
    · go_wp2_with (go_at_call 109; (with_reducible refine (r9none_any HH.out).mono ?_); rintro e w1 ⟨rfl, rfl⟩)
      go_ret
      exact ⟨rfl, rfl⟩
set_option maxHeartbeats 1000000 in
theorem r9sign_any {v : Value} {made : Bool} {n : Nat} {A B : Value} {odd : Bool} {w : World} (h : Hr w v made n A B odd) :
    Calls Try.prog 68 #[v] w fun e w' => e = .returned (.int .i64 (if made then (if odd then -1 else 1) else 0)) ∧ w' = w := by
  have HH := hid_o h
  rcases h with ⟨rfl, rfl⟩ | ⟨p, t, rfl, hv⟩
  · go_enter Try.func68, Try.ntmps68
    go_wp2_with (go_at_call 109; (with_reducible refine (r9none_any HH.out).mono ?_); rintro e w1 ⟨rfl, rfl⟩)
    go_ret
    exact ⟨rfl, rfl⟩
  · have c3 := hv.c3
    have pl := hv.lt
    clear hv
    go_enter Try.func68, Try.ntmps68
    cases made
    · go_wp2_with (go_at_call 109; (with_reducible refine (r9none_any HH.out).mono ?_); rintro e w1 ⟨rfl, rfl⟩)
      go_ret
      exact ⟨rfl, rfl⟩
    · cases odd
      · go_wp2_with (go_at_call 109; (with_reducible refine (r9none_any HH.out).mono ?_); rintro e w1 ⟨rfl, rfl⟩)
        go_ret
        exact ⟨rfl, rfl⟩
      · go_wp2_with (go_at_call 109; (with_reducible refine (r9none_any HH.out).mono ?_); rintro e w1 ⟨rfl, rfl⟩)
        go_ret
        exact ⟨rfl, rfl⟩
end Go.Proofs.Ytklbgibhbnijaaa
