/-
  The document's Lower that nobody made: its lower and its upper matrix.
-/
import Derived.Test.YtklbgibhbnijaaaLrh
namespace Go.Proofs.Ytklbgibhbnijaaa
open Fl RowKit

set_option maxRecDepth 4000 in
set_option maxHeartbeats 2000000 in
theorem r9u_none {v : Value} {n : Nat} {A B : Value} {odd : Bool} {w : World} (h : Hr w v false n A B odd) :
    Calls Try.prog 70 #[v] w fun e w' => e = .returned (.agg #[.int .i64 0, .int .i64 0, .slice none 0 0]) ∧ Below w.heap.size w w' := by
  have B0 : Below w.heap.size w (w.alloc (.cells #[.int .i64 0, .int .i64 0, .slice none 0 0] 26)) := bal _ _
  have HL := hid_o h
  have HR := hid_o (h.below B0)
  clear h B0
  go_enter Try.func70, Try.ntmps70
  go_wp2_with (go_at_call 67; (with_reducible refine (r9size_any HR.out).mono ?_); rintro e w1 ⟨rfl, hw1⟩; subst hw1; simp only [Bool.false_eq_true, if_false])
  clear HR
  go_loopw [4] (fun iv wr => iv = .int .i64 0 ∧ Gm w wr 0 0 (fun _ => (0, 0)) (.slice none 0 0)) (fun _ _ => 0)
  case atStart => exact ⟨rfl, gm_new _ 0 _⟩
  case round =>
    obtain ⟨rfl, hg⟩ := hrel
    have HR := hid_o (HL.out.below hg.bel)
    have HG := hid_o hg
    have q0 := hg.v.c0
    have q1 := hg.v.c1
    have q2 := hg.v.c2
    have ql := hg.v.lt
    have p0 := hg.r.c0
    have p1 := hg.r.c1
    have p2 := hg.r.c2
    have p3 := hg.r.f0
    have p4 := hg.r.f1
    have p5 := hg.r.f2
    have pl := hg.r.lt
    clear hg
    go_wp2_with (go_at_call 67; (with_reducible refine (r9size_any HR.out).mono ?_); rintro e w1 ⟨rfl, hw1⟩; subst hw1; simp only [Bool.false_eq_true, if_false])
    obtain ⟨m0, m1, m2⟩ := HG.out.r.reads
    refine bodyPost_ret (by simp [results, Try.results70, go_sem, m0, m1, m2]; try rfl) rfl ?_
    exact ⟨rfl, below_set3 HG.out.bel (Nat.le_refl _) _ _ _⟩
set_option maxRecDepth 4000 in
set_option maxHeartbeats 2000000 in
theorem r9l_none {v : Value} {n : Nat} {A B : Value} {odd : Bool} {w : World} (h : Hr w v false n A B odd) :
    Calls Try.prog 69 #[v] w fun e w' => e = .returned (.agg #[.int .i64 0, .int .i64 0, .slice none 0 0]) ∧ Below w.heap.size w w' := by
  have B0 : Below w.heap.size w (w.alloc (.cells #[.int .i64 0, .int .i64 0, .slice none 0 0] 26)) := bal _ _
  have HL := hid_o h
  have HR := hid_o (h.below B0)
  clear h B0
  go_enter Try.func69, Try.ntmps69
  go_wp2_with (go_at_call 67; (with_reducible refine (r9size_any HR.out).mono ?_); rintro e w1 ⟨rfl, hw1⟩; subst hw1; simp only [Bool.false_eq_true, if_false])
  clear HR
  go_loopw [4] (fun iv wr => iv = .int .i64 0 ∧ Gm w wr 0 0 (fun _ => (0, 0)) (.slice none 0 0)) (fun _ _ => 0)
  case atStart => exact ⟨rfl, gm_new _ 0 _⟩
  case round =>
    obtain ⟨rfl, hg⟩ := hrel
    have HR := hid_o (HL.out.below hg.bel)
    have HG := hid_o hg
    have q0 := hg.v.c0
    have q1 := hg.v.c1
    have q2 := hg.v.c2
    have ql := hg.v.lt
    have p0 := hg.r.c0
    have p1 := hg.r.c1
    have p2 := hg.r.c2
    have p3 := hg.r.f0
    have p4 := hg.r.f1
    have p5 := hg.r.f2
    have pl := hg.r.lt
    clear hg
    go_wp2_with (go_at_call 67; (with_reducible refine (r9size_any HR.out).mono ?_); rintro e w1 ⟨rfl, hw1⟩; subst hw1; simp only [Bool.false_eq_true, if_false])
    obtain ⟨m0, m1, m2⟩ := HG.out.r.reads
    refine bodyPost_ret (by simp [results, Try.results69, go_sem, m0, m1, m2]; try rfl) rfl ?_
    exact ⟨rfl, below_set3 HG.out.bel (Nat.le_refl _) _ _ _⟩
end Go.Proofs.Ytklbgibhbnijaaa
