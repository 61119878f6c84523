/-
  What a Lower's L, U and Pivots hand back.
-/
import Derived.Test.YtklbgibhbnijaaaLwi
namespace Go.Proofs.Ytklbgibhbnijaaa
open Fl RowKit

def lF (i j : Nat) (z : Cw) : Cw := if j < i then z else if j = i then (4607182418800017408, 0) else (0, 0)
def uF (i j : Nat) (z : Cw) : Cw := if j < i then (0, 0) else z
theorem says_l (n : Nat) (_hn : n ≤ 64) : Says3 47 n lF := by
  intro i j z W hi hj
  by_cases h1 : j < i
  · have e : lF i j z = z := if_pos h1
    rw [e]
    clear e
    go_enter Try.func47, Try.ntmps47
    go_wp2
    go_ret
    exact ⟨rfl, rfl⟩
  · by_cases h2 : j = i
    · have e : lF i j z = (4607182418800017408, 0) := by unfold lF; rw [if_neg h1, if_pos h2]
      rw [e]
      subst h2
      clear e h1
      go_enter Try.func47, Try.ntmps47
      go_wp2
      go_ret
      exact ⟨rfl, rfl⟩
    · have e : lF i j z = (0, 0) := by unfold lF; rw [if_neg h1, if_neg h2]
      rw [e]
      clear e
      go_enter Try.func47, Try.ntmps47
      go_wp2
      go_ret
      exact ⟨rfl, rfl⟩
theorem says_u (n : Nat) (_hn : n ≤ 64) : Says3 48 n uF := by
  intro i j z W hi hj
  by_cases h1 : j < i
  · have e : uF i j z = (0, 0) := if_pos h1
    rw [e]
    clear e
    go_enter Try.func48, Try.ntmps48
    go_wp2
    go_ret
    exact ⟨rfl, rfl⟩
  · have e : uF i j z = z := if_neg h1
    rw [e]
    clear e
    go_enter Try.func48, Try.ntmps48
    go_wp2
    go_ret
    exact ⟨rfl, rfl⟩
theorem ent_l : Ent 47 := by unfold Ent; intro args w; go_simp
theorem ent_u : Ent 48 := by unfold Ent; intro args w; go_simp
def lE (M : Nat → Nat → Cw) (i j : Nat) : Cw := lF i j (M i j)
def uE (M : Nat → Nat → Cw) (i j : Nat) : Cw := uF i j (M i j)
section call
variable {v : Value} {A B : Option Addr} {n c m d : Nat} {s : Int} {M : Nat → Nat → Cw} {w : World} (hn : n ≤ 64) (h : Hs w v A n c B m d s) (hR : Rws w A n M)
include hn h hR
set_option maxHeartbeats 1000000 in
theorem l_any : Calls Try.prog 16 #[v] w fun e w' => ∃ g, e = .returned (.agg #[.int .i64 n, .int .i64 n, .slice (some ⟨g, 0, none⟩) (n * n) (n * n)]) ∧ Rw w' w.heap.size (.slice (some ⟨g, 0, none⟩) (n * n) (n * n)) (n * n) (ro (n * n) (flw n (lE M))) ∧ Below w.heap.size w w' := by
  have V0 : V3 w.heap.size (.int .i64 0) (.int .i64 0) (.slice none 0 0) (w.alloc (.cells #[.int .i64 0, .int .i64 0, .slice none 0 0] 26)) := v3_new w _ _ _ _
  have B0 : Below w.heap.size w (w.alloc (.cells #[.int .i64 0, .int .i64 0, .slice none 0 0] 26)) := bal _ _
  have LA := hid_o (laid_any 47 lF hn ent_l (says_l n hn) (h.below B0) (hR.below B0))
  have HV := hid_o V0
  have HB := hid_o B0
  clear h hR V0 B0
  go_enter Try.func16, Try.ntmps16
  go_wp2_with (go_at_call 46; (with_reducible refine LA.out.mono ?_); rintro e w1 ⟨g, rfl, hrw, hb⟩; (have V1 := HV.out.below hb); (have q0 := V1.c0); (have q1 := V1.c1); (have q2 := V1.c2); (have q3 := V1.f0); (have q4 := V1.f1); (have q5 := V1.f2); (have ql := V1.lt); (have HV1 := hid_o V1); (have HRW := hid_o hrw); (have HB1 := hid_o (HB.out.trans (hb.mono (by simp)))); clear hb hrw V1 LA)
  obtain ⟨m0, m1, m2⟩ := HV1.out.reads
  refine bodyPost_ret (by simp [results, Try.results16, go_sem, m0, m1, m2]; try rfl) rfl ?_
  have hge := HRW.out.lt
  simp only [size_al] at hge
  refine ⟨g, rfl, ⟨HRW.out.len, own_at (own_base HRW.out.own (by simp)) (fun q hq => by cases hq; exact set3_block (show w.heap.size ≠ g by omega))⟩, below_set3 HB1.out (Nat.le_refl _) _ _ _⟩
set_option maxHeartbeats 1000000 in
theorem u_any : Calls Try.prog 17 #[v] w fun e w' => ∃ g, e = .returned (.agg #[.int .i64 n, .int .i64 n, .slice (some ⟨g, 0, none⟩) (n * n) (n * n)]) ∧ Rw w' w.heap.size (.slice (some ⟨g, 0, none⟩) (n * n) (n * n)) (n * n) (ro (n * n) (flw n (uE M))) ∧ Below w.heap.size w w' := by
  have V0 : V3 w.heap.size (.int .i64 0) (.int .i64 0) (.slice none 0 0) (w.alloc (.cells #[.int .i64 0, .int .i64 0, .slice none 0 0] 26)) := v3_new w _ _ _ _
  have B0 : Below w.heap.size w (w.alloc (.cells #[.int .i64 0, .int .i64 0, .slice none 0 0] 26)) := bal _ _
  have LA := hid_o (laid_any 48 uF hn ent_u (says_u n hn) (h.below B0) (hR.below B0))
  have HV := hid_o V0
  have HB := hid_o B0
  clear h hR V0 B0
  go_enter Try.func17, Try.ntmps17
  go_wp2_with (go_at_call 46; (with_reducible refine LA.out.mono ?_); rintro e w1 ⟨g, rfl, hrw, hb⟩; (have V1 := HV.out.below hb); (have q0 := V1.c0); (have q1 := V1.c1); (have q2 := V1.c2); (have q3 := V1.f0); (have q4 := V1.f1); (have q5 := V1.f2); (have ql := V1.lt); (have HV1 := hid_o V1); (have HRW := hid_o hrw); (have HB1 := hid_o (HB.out.trans (hb.mono (by simp)))); clear hb hrw V1 LA)
  obtain ⟨m0, m1, m2⟩ := HV1.out.reads
  refine bodyPost_ret (by simp [results, Try.results17, go_sem, m0, m1, m2]; try rfl) rfl ?_
  have hge := HRW.out.lt
  simp only [size_al] at hge
  refine ⟨g, rfl, ⟨HRW.out.len, own_at (own_base HRW.out.own (by simp)) (fun q hq => by cases hq; exact set3_block (show w.heap.size ≠ g by omega))⟩, below_set3 HB1.out (Nat.le_refl _) _ _ _⟩
set_option maxHeartbeats 2000000 in
theorem pivots_any : Calls Try.prog 21 #[v] w fun e w' => ∃ g, e = .returned (.slice (some ⟨g, 0, none⟩) n n) ∧ Rw w' w.heap.size (.slice (some ⟨g, 0, none⟩) n n) n (ro n (fun i => M i i)) ∧ Below w.heap.size w w' := by
  obtain ⟨i0, hi, hz0, hz1, hz2⟩ := info_parts Try.infoC
  have HH := hid_o h
  have HR := hid_o hR
  clear h hR
  go_enter Try.func21, Try.ntmps21
  go_wp2_with (first
    | (go_at_call 49; (with_reducible refine (held_any HH.out).mono ?_); rintro e w1 ⟨rfl, hb⟩; have HB1 := hid_o hb; clear hb)
    | (at_make; refine wpList_make_full _ rfl _ _ 24 rfl w1.heap.size 52 i0 (.complex .f64 0 0) 1 Try.underlying24 hi hz0 hz1 _ _ _ _ n rfl rfl rfl rfl (by rw [hz2]; omega) (by unfold maxLen; omega) (Nat.le_refl _) ?_; intro w2 hown hgrow; (have BB : Below w1.heap.size w1 w2 := (Below.refl _ _).grown hgrow (Nat.le_refl _) (by intro k hk; simp at hk)); rw [made_zeroC, ro_zero] at hown; (have RW : Hid (Rw w2 w.heap.size (.slice (some ⟨w1.heap.size, 0, none⟩) n n) n (ro n (fun _ => (0, 0)))) := ⟨ro_len _ _, own_base hown HB1.out.size⟩); (have HB2 := hid_o (HB1.out.trans (BB.mono HB1.out.size))); (have HS1 := hid_o HB1.out.size); clear hown hgrow BB))
  go_loopw [15] (fun iv wr => ∃ (i : Nat) (y : Nat → Cw), i ≤ n ∧ iv = .int .i64 i ∧ (∀ k, k < i → y k = M k k) ∧ Rw wr w.heap.size (.slice (some ⟨w1.heap.size, 0, none⟩) n n) n (ro n y) ∧ Below w.heap.size w wr) (fun iv _ => n - (intOf iv).toNat)
  case atStart => exact ⟨0, _, Nat.zero_le _, rfl, fun k hk => absurd hk (by omega), RW.out, HB2.out⟩
  case round =>
    clear RW HB2
    obtain ⟨i, y, hin, rfl, hy, hrw, hbel⟩ := hrel
    by_cases hlt : i < n
    · obtain ⟨gr, bl, hA, gl, d1, bll, d2⟩ := (HR.out.below hbel).at_ i hlt
      subst hA
      have d3 := d2 i hlt
      have d4 := rw_cell hrw hlt
      have fz := hrw.own.frozenAt i
      have HY := hid_o hy
      have HRW := hid_o hrw
      have HBE := hid_o hbel
      obtain ⟨x, hxe⟩ : ∃ x, x = M i i := ⟨_, rfl⟩
      rw [← hxe] at d3
      have HX := hid_o hxe
      clear hxe hy hrw hbel d2 gl bll
      unfold cx at d3 d4
      go_wp2
      go_roundw
      case measure => simp [intOf]; omega
      case rel =>
        refine ⟨i + 1, upz y i x, by omega, by go_num, fun j hj => ?_, rw_set HRW.out i x, HBE.out.setCell (p := ⟨w1.heap.size, i, none⟩) HS1.out _⟩
        by_cases e : j = i
        · subst e; rw [upz_self]; exact HX.out
        · rw [upz_ne _ _ e]; exact HY.out j (by omega)
    · have e : i = n := by omega
      subst e
      clear HR
      go_wp2
      go_ret
      exact ⟨_, rfl, by rw [← ro_congr hy]; exact hrw, hbel⟩
end call

end Go.Proofs.Ytklbgibhbnijaaa
