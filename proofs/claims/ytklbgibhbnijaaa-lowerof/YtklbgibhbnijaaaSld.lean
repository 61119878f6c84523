/-
  What solve's isNone, refused, turned and unknowns hand back.
-/
import Derived.Test.YtklbgibhbnijaaaSlb
import Derived.Test.YtklbgibhbnijaaaLwj
import Derived.Test.YtklbgibhbnijaaaBnc
namespace Go.Proofs.Ytklbgibhbnijaaa
open Fl RowKit

/-- a Lower that is held, or none (n, s are 0 then) -/
structure Lhd (w : World) (v : Value) (n : Nat) (M : Nat → Nat → Cw) (o : Nat → Nat) (s : Int) : Prop where
  ex : ∃ A c B d, Hs w v A n c B n d s ∧ Rws w A n M ∧ Qi w B (ri n o)
theorem Lhd.below {w w' : World} {v : Value} {n : Nat} {M : Nat → Nat → Cw} {o : Nat → Nat} {s : Int} (h : Lhd w v n M o s) (hb : Below w.heap.size w w') : Lhd w' v n M o s := by
  obtain ⟨A, c, B, d, h1, h2, h3⟩ := h.ex
  exact ⟨A, c, B, d, h1.below hb, h2.below hb, h3.below hb⟩
theorem Lo.lh {w : World} {b p n gr go : Nat} {bl : Nat → Nat} {M : Nat → Nat → Cw} {o : Nat → Nat} {s : Int} (h : Lo w b p n gr go bl M o s) : Lhd w (.pointer (some ⟨p, 0, none⟩)) n M o s :=
  ⟨_, _, _, _, h.hs, h.rws, h.ord.qi⟩
theorem lh_nil (w : World) (M : Nat → Nat → Cw) (o : Nat → Nat) : Lhd w (.pointer none) 0 M o 0 := ⟨none, 0, none, 0, hs_nil w, rws_nil w M, fun k hk => absurd hk (by simp [ri])⟩
section held
variable {w : World} {v : Value} {n : Nat} {M : Nat → Nat → Cw} {o : Nat → Nat} {s : Int} (h : Lhd w v n M o s)
include h
theorem lh_size : Calls Try.prog 61 #[v] w fun e w' => e = .returned (.int .i64 n) ∧ Below w.heap.size w w' := by
  obtain ⟨A, c, B, d, h1, _, _⟩ := h.ex
  exact lsize_any h1
theorem lh_sign : Calls Try.prog 19 #[v] w fun e w' => e = .returned (.int .i64 s) ∧ Below w.heap.size w w' := by
  obtain ⟨A, c, B, d, h1, _, _⟩ := h.ex
  exact lsign_any h1
theorem lh_order (hn : n ≤ 64) : Calls Try.prog 18 #[v] w fun e w' => ∃ g, e = .returned (.slice (some ⟨g, 0, none⟩) n n) ∧ Ir w' w.heap.size (.slice (some ⟨g, 0, none⟩) n n) n (ri n o) ∧ Below w.heap.size w w' := by
  obtain ⟨A, c, B, d, h1, _, h3⟩ := h.ex
  exact lorder_any (ri n o) (ri_len _ _) (by omega) h1 h3
theorem lh_l (hn : n ≤ 64) : Calls Try.prog 16 #[v] w fun e w' => ∃ g, e = .returned (.agg #[.int .i64 n, .int .i64 n, .slice (some ⟨g, 0, none⟩) (n * n) (n * n)]) ∧ Rw w' w.heap.size (.slice (some ⟨g, 0, none⟩) (n * n) (n * n)) (n * n) (ro (n * n) (flw n (lE M))) ∧ Below w.heap.size w w' := by
  obtain ⟨A, c, B, d, h1, h2, _⟩ := h.ex
  exact l_any hn h1 h2
theorem lh_u (hn : n ≤ 64) : Calls Try.prog 17 #[v] w fun e w' => ∃ g, e = .returned (.agg #[.int .i64 n, .int .i64 n, .slice (some ⟨g, 0, none⟩) (n * n) (n * n)]) ∧ Rw w' w.heap.size (.slice (some ⟨g, 0, none⟩) (n * n) (n * n)) (n * n) (ro (n * n) (flw n (uE M))) ∧ Below w.heap.size w w' := by
  obtain ⟨A, c, B, d, h1, h2, _⟩ := h.ex
  exact u_any hn h1 h2
theorem lh_piv (hn : n ≤ 64) : Calls Try.prog 21 #[v] w fun e w' => ∃ g, e = .returned (.slice (some ⟨g, 0, none⟩) n n) ∧ Rw w' w.heap.size (.slice (some ⟨g, 0, none⟩) n n) n (ro n (fun i => M i i)) ∧ Below w.heap.size w w' := by
  obtain ⟨A, c, B, d, h1, h2, _⟩ := h.ex
  exact pivots_any hn h1 h2
theorem isnone_any (N : Bool) (hN : N = decide (s = 0)) : Calls Try.prog 60 #[v] w fun e w' => e = .returned (.bool N) ∧ Below w.heap.size w w' := by
  have HH := hid_o h
  have HN := hid_o hN
  clear h hN
  go_enter Try.func60, Try.ntmps60
  go_wp2_with (go_at_call 19; (with_reducible refine (lh_sign HH.out).mono ?_); rintro e w1 ⟨rfl, hb⟩; have HB := hid_o hb; clear hb)
  go_ret
  refine ⟨?_, HB.out⟩
  rw [HN.out]
  first | rfl | (congr 2; rw [Bool.eq_iff_iff]; simp)
/-- the code of what is wrong with a Lower and a right side -/
def rfS (n : Nat) (s : Int) (l : Nat) (xs : List Cw) : Int := if s = 0 then 1 else if l ≠ n then 4 else if finL xs l = true then 0 else 5
set_option maxHeartbeats 1000000 in
theorem refused_any' (ao : Option Addr) (l cap : Nat) (xs : List Cw) (hl : xs.length = l) (hsz : l ≤ 1000000000000000) (hn : n ≤ 64) (hc : Rc w ao xs) (hx : okl xs) :
    Calls Try.prog 58 #[v, .slice ao l cap] w fun e w' => e = .returned (.int .i64 (rfS n s l xs)) ∧ Below w.heap.size w w' := by
  have HH := hid_o h
  have HC := hid_o hc
  have HX := hid_o hx
  have HL := hid_o hl
  clear h hc hx hl
  unfold rfS
  by_cases h0 : s = 0
  · rw [if_pos h0]
    have HN : Hid (true = decide (s = 0)) := (decide_eq_true h0).symm
    clear h0
    go_enter Try.func58, Try.ntmps58
    go_wp2_with (go_at_call 60; (with_reducible refine (isnone_any HH.out true HN.out).mono ?_); rintro e w1 ⟨rfl, hb⟩; have HB := hid_o hb; clear hb)
    go_ret
    exact ⟨rfl, HB.out⟩
  · rw [if_neg h0]
    have HN : Hid (false = decide (s = 0)) := (decide_eq_false h0).symm
    clear h0
    by_cases h1 : l = n
    · rw [if_neg (by omega)]
      subst h1
      cases hf : finL xs l
      · rw [if_neg (by simp)]
        have HF := hid_o hf
        clear hf
        go_enter Try.func58, Try.ntmps58
        go_wp2_with (first
          | (go_at_call 60; (with_reducible refine (isnone_any HH.out false HN.out).mono ?_); rintro e w1 ⟨rfl, hb⟩; have HB := hid_o hb; clear hb)
          | (go_at_call 61; (with_reducible refine (lh_size (HH.out.below HB.out)).mono ?_); rintro e w2 ⟨rfl, hb⟩; have HB2 := hid_o (HB.out.trans (hb.mono HB.out.size)); clear hb)
          | (go_at_call 62; (with_reducible refine (allfin_any _ _ _ xs _ HL.out hsz (HC.out.below HB2.out) HX.out).mono ?_); rintro e w3 ⟨rfl, rfl⟩; rw [HF.out]))
        go_ret
        exact ⟨rfl, HB2.out⟩
      · rw [if_pos rfl]
        have HF := hid_o hf
        clear hf
        go_enter Try.func58, Try.ntmps58
        go_wp2_with (first
          | (go_at_call 60; (with_reducible refine (isnone_any HH.out false HN.out).mono ?_); rintro e w1 ⟨rfl, hb⟩; have HB := hid_o hb; clear hb)
          | (go_at_call 61; (with_reducible refine (lh_size (HH.out.below HB.out)).mono ?_); rintro e w2 ⟨rfl, hb⟩; have HB2 := hid_o (HB.out.trans (hb.mono HB.out.size)); clear hb)
          | (go_at_call 62; (with_reducible refine (allfin_any _ _ _ xs _ HL.out hsz (HC.out.below HB2.out) HX.out).mono ?_); rintro e w3 ⟨rfl, rfl⟩; rw [HF.out]))
        go_ret
        exact ⟨rfl, HB2.out⟩
    · rw [if_pos h1]
      have h1' : ¬ (l : Int) = (n : Int) := by omega
      go_enter Try.func58, Try.ntmps58
      go_wp2_with (first
        | (go_at_call 60; (with_reducible refine (isnone_any HH.out false HN.out).mono ?_); rintro e w1 ⟨rfl, hb⟩; have HB := hid_o hb; clear hb)
        | (go_at_call 61; (with_reducible refine (lh_size (HH.out.below HB.out)).mono ?_); rintro e w2 ⟨rfl, hb⟩; have HB2 := hid_o (HB.out.trans (hb.mono HB.out.size)); clear hb))
      go_ret
      exact ⟨rfl, HB2.out⟩
end held

end Go.Proofs.Ytklbgibhbnijaaa
