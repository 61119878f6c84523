/-
  What a Lower's L, U and Pivots hand back.
-/
import Derived.Test.YtomllbpkjhoepaaLwi
namespace Go.Proofs.Ytomllbpkjhoepaa
open Fl RowKit

def lF (i j : Nat) (z : Cw) : Cw := if j < i then z else if j = i then (4607182418800017408, 0) else (0, 0)
def uF (i j : Nat) (z : Cw) : Cw := if j < i then (0, 0) else z
theorem says_l (n : Nat) (_hn : n ≤ 64) : Says3 108 n lF := by
  intro i j z W hi hj
  by_cases h1 : j < i
  · have e : lF i j z = z := if_pos h1
    rw [e]
    clear e
    go_enter Try.func108, Try.ntmps108
    go_wp2
    go_ret
    exact ⟨rfl, rfl⟩
  · by_cases h2 : j = i
    · have e : lF i j z = (4607182418800017408, 0) := by unfold lF; rw [if_neg h1, if_pos h2]
      rw [e]
      subst h2
      clear e h1
      go_enter Try.func108, Try.ntmps108
      go_wp2
      go_ret
      exact ⟨rfl, rfl⟩
    · have e : lF i j z = (0, 0) := by unfold lF; rw [if_neg h1, if_neg h2]
      rw [e]
      clear e
      go_enter Try.func108, Try.ntmps108
      go_wp2
      go_ret
      exact ⟨rfl, rfl⟩
theorem says_u (n : Nat) (_hn : n ≤ 64) : Says3 109 n uF := by
  intro i j z W hi hj
  by_cases h1 : j < i
  · have e : uF i j z = (0, 0) := if_pos h1
    rw [e]
    clear e
    go_enter Try.func109, Try.ntmps109
    go_wp2
    go_ret
    exact ⟨rfl, rfl⟩
  · have e : uF i j z = z := if_neg h1
    rw [e]
    clear e
    go_enter Try.func109, Try.ntmps109
    go_wp2
    go_ret
    exact ⟨rfl, rfl⟩
theorem ent_l : Ent 108 := by unfold Ent; intro args w; go_simp
theorem ent_u : Ent 109 := by unfold Ent; intro args w; go_simp
def lE (M : Nat → Nat → Cw) (i j : Nat) : Cw := lF i j (M i j)
def uE (M : Nat → Nat → Cw) (i j : Nat) : Cw := uF i j (M i j)
section call
variable {v : Value} {A B : Option Addr} {n c m d : Nat} {s : Int} {M : Nat → Nat → Cw} {w : World} (hn : n ≤ 64) (h : Hs w v A n c B m d s) (hR : Rws w A n M)
include hn h hR
set_option maxHeartbeats 1000000 in
theorem l_any : Calls Try.prog 79 #[v] w fun e w' => ∃ g, e = .returned (.agg #[.int .i64 n, .int .i64 n, .slice (some ⟨g, 0, none⟩) (n * n) (n * n)]) ∧ Rw w' w.heap.size (.slice (some ⟨g, 0, none⟩) (n * n) (n * n)) (n * n) (ro (n * n) (flw n (lE M))) ∧ Below w.heap.size w w' := by
  have V0 : V3 w.heap.size (.int .i64 0) (.int .i64 0) (.slice none 0 0) (w.alloc (.cells #[.int .i64 0, .int .i64 0, .slice none 0 0] 28)) := v3_new w _ _ _ _
  have B0 : Below w.heap.size w (w.alloc (.cells #[.int .i64 0, .int .i64 0, .slice none 0 0] 28)) := bal _ _
  have LA := hid_o (laid_any 108 lF hn ent_l (says_l n hn) (h.below B0) (hR.below B0))
  have HV := hid_o V0
  have HB := hid_o B0
  clear h hR V0 B0
  go_enter Try.func79, Try.ntmps79
  go_wp2_with (go_at_call 107; (with_reducible refine LA.out.mono ?_); rintro e w1 ⟨g, rfl, hrw, hb⟩; (have V1 := HV.out.below hb); (have q0 := V1.c0); (have q1 := V1.c1); (have q2 := V1.c2); (have q3 := V1.f0); (have q4 := V1.f1); (have q5 := V1.f2); (have ql := V1.lt); (have HV1 := hid_o V1); (have HRW := hid_o hrw); (have HB1 := hid_o (HB.out.trans (hb.mono (by simp)))); clear hb hrw V1 LA)
  obtain ⟨m0, m1, m2⟩ := HV1.out.reads
  refine bodyPost_ret (by simp [results, Try.results79, go_sem, m0, m1, m2]; try rfl) rfl ?_
  have hge := HRW.out.lt
  simp only [size_al] at hge
  refine ⟨g, rfl, ⟨HRW.out.len, own_at (own_base HRW.out.own (by simp)) (fun q hq => by cases hq; exact set3_block (show w.heap.size ≠ g by omega))⟩, below_set3 HB1.out (Nat.le_refl _) _ _ _⟩
set_option maxHeartbeats 1000000 in
theorem u_any : Calls Try.prog 80 #[v] w fun e w' => ∃ g, e = .returned (.agg #[.int .i64 n, .int .i64 n, .slice (some ⟨g, 0, none⟩) (n * n) (n * n)]) ∧ Rw w' w.heap.size (.slice (some ⟨g, 0, none⟩) (n * n) (n * n)) (n * n) (ro (n * n) (flw n (uE M))) ∧ Below w.heap.size w w' := by
  have V0 : V3 w.heap.size (.int .i64 0) (.int .i64 0) (.slice none 0 0) (w.alloc (.cells #[.int .i64 0, .int .i64 0, .slice none 0 0] 28)) := v3_new w _ _ _ _
  have B0 : Below w.heap.size w (w.alloc (.cells #[.int .i64 0, .int .i64 0, .slice none 0 0] 28)) := bal _ _
  have LA := hid_o (laid_any 109 uF hn ent_u (says_u n hn) (h.below B0) (hR.below B0))
  have HV := hid_o V0
  have HB := hid_o B0
  clear h hR V0 B0
  go_enter Try.func80, Try.ntmps80
  go_wp2_with (go_at_call 107; (with_reducible refine LA.out.mono ?_); rintro e w1 ⟨g, rfl, hrw, hb⟩; (have V1 := HV.out.below hb); (have q0 := V1.c0); (have q1 := V1.c1); (have q2 := V1.c2); (have q3 := V1.f0); (have q4 := V1.f1); (have q5 := V1.f2); (have ql := V1.lt); (have HV1 := hid_o V1); (have HRW := hid_o hrw); (have HB1 := hid_o (HB.out.trans (hb.mono (by simp)))); clear hb hrw V1 LA)
  obtain ⟨m0, m1, m2⟩ := HV1.out.reads
  refine bodyPost_ret (by simp [results, Try.results80, go_sem, m0, m1, m2]; try rfl) rfl ?_
  have hge := HRW.out.lt
  simp only [size_al] at hge
  refine ⟨g, rfl, ⟨HRW.out.len, own_at (own_base HRW.out.own (by simp)) (fun q hq => by cases hq; exact set3_block (show w.heap.size ≠ g by omega))⟩, below_set3 HB1.out (Nat.le_refl _) _ _ _⟩
end call

end Go.Proofs.Ytomllbpkjhoepaa
