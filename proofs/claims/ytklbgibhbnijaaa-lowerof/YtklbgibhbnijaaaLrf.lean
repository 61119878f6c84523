/-
  The document's Lower: its pivots.
-/
import Derived.Test.YtklbgibhbnijaaaLre
namespace Go.Proofs.Ytklbgibhbnijaaa
open Fl RowKit

theorem ro_snf {i : Nat} (f : Nat → Cw) : (ro i f).map cx ++ [cx (f i)] = (ro (i + 1) f).map cx := by
  simp [ro, List.range_succ]
set_option maxHeartbeats 2000000 in
theorem r9pivots_any {w : World} {b p n gr go cr co : Nat} {bl cp : Nat → Nat} {M : Nat → Nat → Cw} {o : Nat → Nat} {odd ties : Bool} (hn : n ≤ 64) (h : Lr w b p n gr go cr co bl cp M o odd ties) :
    Calls Try.prog 71 #[.pointer (some ⟨p, 0, none⟩)] w fun e w' => ∃ v, e = .returned v ∧ Rw w' w.heap.size v n (ro n (fun i => M i i)) ∧ Below w.heap.size w w' := by
  obtain ⟨i0, hi, hz0, hz1, hz2⟩ := info_parts Try.infoC
  have HL := hid_o h
  clear h
  go_enter Try.func71, Try.ntmps71
  go_wp2
  go_loopw [3, 4] (fun v i wr => ∃ (k : Nat) (v0 : Value), k ≤ n ∧ i = .int .i64 k ∧ v0 = v ∧ wr.ownsRow w.heap.size 52 1 v0 k ((ro k (fun i => M i i)).map cx) ∧ Below w.heap.size w wr) (fun _ i _ => n - (intOf i).toNat)
  case atStart => exact ⟨0, _, Nat.zero_le _, rfl, rfl, World.ownsRow_nil _ _ _ _, Below.refl _ _⟩
  case round =>
    obtain ⟨k, v0, hk, rfl, rfl, hown, hbel⟩ := hrel
    have hS := hbel.size
    have HR := hid_o (HL.out.below hbel).hr
    by_cases hlt : k < n
    · have c1 := (HL.out.below hbel).v.c1
      have pl := (HL.out.below hbel).v.lt
      have d1 := (HL.out.below hbel).cell hlt
      have d2 : wr.cell? ⟨bl k, k, none⟩ = some (.complex .f64 (M k k).1 (M k k).2) := (HL.out.below hbel).cellM hlt hlt
      have HB : Hid (Below w.heap.size w wr) := hbel
      clear hbel
      go_wp2_with (first
        | (go_at_call 67; (with_reducible refine (r9size_any HR.out).mono ?_); rintro e w1 ⟨rfl, rfl⟩; simp only [if_true])
        | (at_builtin; refine wpList_append_own _ rfl _ _ 24 rfl w.heap.size 52 i0 (.complex .f64 0 0) 1 16 Try.underlying24 hi hz0 hz1 hz2 rfl (by decide) _ _ _ rfl (hown.alloc _) ⟨_, 0, none⟩ 1 1 [.complex .f64 (M k k).1 (M k k).2] rfl rfl ?c1 ?c2 ?c3 ?c4 ?c5 ?_))
      case c1 =>
        intro j u hj
        match j, hj with
        | 0, hj =>
          simp at hj; subst hj
          simp [Addr.add]
      case c2 => intro u hu; simp at hu; subst hu; rfl
      case c3 => unfold maxLen; omega
      case c4 => omega
      case c5 => simp; omega
      · intro v' w2 hown' hgrow _
        have R2 : Below w.heap.size w w2 := (HB.out.alloc hS _).grown hgrow (by simp; omega) (fun j hj => own_ge hown hj)
        have R : w2.ownsRow w.heap.size 52 1 v' (k + 1) ((ro (k + 1) (fun i => M i i)).map cx) := by
          rw [← ro_snf]; exact hown'
        clear hown' hgrow hown
        go_wp2
        go_roundw
        case rel => exact ⟨k + 1, v', by omega, by go_num, rfl, R, R2⟩
        case measure => simp [intOf]; omega
    · have e : k = n := by omega
      subst e
      go_wp2_with (go_at_call 67; (with_reducible refine (r9size_any HR.out).mono ?_); rintro e w1 ⟨rfl, rfl⟩; simp only [if_true])
      go_ret
      exact ⟨_, rfl, ⟨ro_len _ _, hown⟩, hbel⟩
set_option maxHeartbeats 1000000 in
theorem r9pivots_none {v : Value} {n : Nat} {A B : Value} {odd : Bool} {w : World} (h : Hr w v false n A B odd) :
    Calls Try.prog 71 #[v] w fun e w' => e = .returned (.slice none 0 0) ∧ w' = w := by
  have HH := hid_o h
  clear h
  go_enter Try.func71, Try.ntmps71
  go_wp2
  go_loopw [3, 4] (fun v i wr => v = .slice none 0 0 ∧ i = .int .i64 0 ∧ wr = w) (fun _ _ _ => 0)
  case atStart => exact ⟨rfl, rfl, rfl⟩
  case round =>
    obtain ⟨rfl, rfl, rfl⟩ := hrel
    go_wp2_with (go_at_call 67; (with_reducible refine (r9size_any HH.out).mono ?_); rintro e w1 ⟨rfl, rfl⟩; simp only [Bool.false_eq_true, if_false])
    go_ret
    exact ⟨rfl, rfl⟩
end Go.Proofs.Ytklbgibhbnijaaa
