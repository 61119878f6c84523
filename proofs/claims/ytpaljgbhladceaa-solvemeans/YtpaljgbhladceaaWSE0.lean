/-
  SolveMeans' walk, where something is refused.
-/
import Derived.Test.YtpaljgbhladceaaSmo
import Derived.Test.YtpaljgbhladceaaWSM2
namespace Go.Proofs.Ytpaljgbhladceaa
open Fl RowKit

set_option maxRecDepth 20000 in
set_option maxHeartbeats 4000000 in
theorem means_fail (a : Int) (j : Nat) (HPK : ∀ w, Calls Try.prog 13 #[.int .i64 a, .int .i64 17] w fun e w' => e = .returned (.int .i64 (j : Int)) ∧ w' = w) (N T : Nat) (E q : Int) (ao bo : Option Addr) (cap n cb nb : Nat) (xs : List Cw) (w : World) (hn : xs.length = n) (hsz : n * 16 ≤ 140737488355328) (hc : Rz w ao xs) (hE : ¬ E = 0)
    (SQ : ∀ (ao : Option Addr) (cap n : Nat) (xs : List Cw) (w : World), xs.length = n → n * 16 ≤ 140737488355328 → Rz w ao xs → Calls Try.prog 12 #[.int .i64 (j : Int), .slice ao n cap] w fun e w' => ∃ A c, e = .returned (.agg #[.int .i64 N, .int .i64 N, .slice A T c]) ∧ T ≤ c ∧ Rc w' A (ro T (zat xs)) ∧ Below w.heap.size w w')
    (O1 : ∀ (W : World) (A : Option Addr) (c : Nat), T ≤ c → Rc W A (ro T (zat xs)) → Calls Try.prog 11 #[.agg #[.int .i64 N, .int .i64 N, .slice A T c]] W fun e w' => e = .returned (.tuple #[.pointer none, .agg #[.int .i64 E, .int .i64 q]]) ∧ Below W.heap.size W w') :
    Calls Try.prog 4 #[.int .i64 a, .slice ao n cap, .slice bo nb cb] w fun e w' => e = .returned (.bool true) ∧ Below w.heap.size w w' := by
  have HSQ := hid_o SQ
  have HO1 := hid_o O1
  have HC := hid_o hc
  have HP := hid_o HPK
  clear SQ O1 hc HPK
  go_enter Try.func4, Try.ntmps4
  go_wp2_with (first
    | (go_at_call 9; (with_reducible refine (awake10 _).mono ?_); rintro e w0 ⟨rfl, hb⟩; (have B0 := hid_o hb); clear hb)
    | (go_at_call 13; (with_reducible refine (HP.out _).mono ?_); rintro e w' ⟨rfl, rfl⟩)
    | (go_at_call 12; (refine (HSQ.out _ _ _ _ _ hn hsz (HC.out.below B0.out)).mono ?_); rintro e w1 ⟨A, c, rfl, hcap, hR, hb⟩; (have R1 := hid_o hR); (have B1 := hid_o (bt B0.out hb)); clear hR hb)
    | (go_at_call 11; (refine (HO1.out _ _ _ hcap R1.out).mono ?_); rintro e w2 ⟨rfl, hb⟩; (have B2 := hid_o (ba (bt B1.out hb) (.cells #[.int .i64 E, .int .i64 q] 35))); clear hb R1 B1))
  go_ret
  exact ⟨rfl, B2.out⟩
section ref
variable (a : Int) (j : Nat) (HPK : ∀ w, Calls Try.prog 13 #[.int .i64 a, .int .i64 17] w fun e w' => e = .returned (.int .i64 (j : Int)) ∧ w' = w) (N T : Nat) (S : Es) (ao bo : Option Addr) (cap n cb nb : Nat) (xs zs : List Cw) (w : World) (hn : xs.length = n) (hsz : n * 16 ≤ 140737488355328) (hc : Rz w ao xs) (hnb : zs.length = nb) (hsb : nb * 16 ≤ 140737488355328) (hd : Rz w bo zs) (hz : okl zs)
    (hN : N ≤ 64) (hS : Eok N S)
    (SQ : ∀ (ao : Option Addr) (cap n : Nat) (xs : List Cw) (w : World), xs.length = n → n * 16 ≤ 140737488355328 → Rz w ao xs → Calls Try.prog 12 #[.int .i64 (j : Int), .slice ao n cap] w fun e w' => ∃ A c, e = .returned (.agg #[.int .i64 N, .int .i64 N, .slice A T c]) ∧ T ≤ c ∧ Rc w' A (ro T (zat xs)) ∧ Below w.heap.size w w')
    (O1 : ∀ (W : World) (A : Option Addr) (c : Nat), T ≤ c → Rc W A (ro T (zat xs)) → Calls Try.prog 11 #[.agg #[.int .i64 N, .int .i64 N, .slice A T c]] W fun e w' => ∃ p, e = .returned (.tuple #[.pointer (some ⟨p, 0, none⟩), .agg #[.int .i64 0, .int .i64 0]]) ∧ Lhd w' (.pointer (some ⟨p, 0, none⟩)) N S.M S.o S.s ∧ Below W.heap.size W w')
include HPK hn hsz hc hnb hsb hd hz hN hS SQ O1
set_option maxRecDepth 20000 in
set_option maxHeartbeats 4000000 in
theorem means_ref (hr : ¬ nb = N ∨ (nb = N ∧ finL zs nb = false)) :
    Calls Try.prog 4 #[.int .i64 a, .slice ao n cap, .slice bo nb cb] w fun e w' => e = .returned (.bool true) ∧ Below w.heap.size w w' := by
  have hsne : ¬ S.s = 0 := by rcases hS.pm with h | h <;> rw [h] <;> decide
  obtain ⟨E1, hE1⟩ : ∃ E1, E1 = rfS N S.s nb zs := ⟨_, rfl⟩
  have hne : ¬ rfS N S.s nb zs = 0 := by
    unfold rfS
    rw [if_neg hsne]
    rcases hr with h | ⟨h, h2⟩
    · rw [if_pos h]; decide
    · rw [if_neg (by omega), h2]; decide
  have HCS : Hid (∀ (W : World) (v : Value) (A : Option Addr) (c : Nat), Lhd W v N S.M S.o S.s → Rc W A (ro nb (zat zs)) → Calls Try.prog 14 #[v, .slice A nb c] W fun e w' => e = .returned (.tuple #[.slice none 0 0, .int .i64 E1]) ∧ Below W.heap.size W w') := fun W v A c h1 h2 => by
    rw [hE1]
    exact solve_err h1 hnb (by omega) hN (by rw [← ro_of hnb] at h2; exact h2) hz hne
  have hsb' : zs.length * 16 ≤ 140737488355328 := by omega
  have HFN : Hid (∀ (A : Option Addr) (c : Nat) (W : World), Rc W A (ro nb (zat zs)) → Calls Try.prog 16 #[.slice A nb c] W fun e w' => ∃ n, e = .returned (.bool (finL zs nb)) ∧ w' = W.drewN n) := fun A c W h => by
    rw [← ro_of hnb] at h
    have := kfinL_any A c zs W hsb' h
    rw [hnb] at this
    exact this
  have HSQ := hid_o SQ
  have HO1 := hid_o O1
  have HC := hid_o hc
  have HP := hid_o HPK
  have HDz := hid_o hd
  have HEE := hid_o hE1
  clear SQ O1 hc HPK hd hz hS hE1 hne
  rcases hr with h | ⟨h, h2⟩
  · have e4 : E1 = 4 := by rw [HEE.out]; unfold rfS; rw [if_neg hsne, if_pos h]
    subst e4
    have h' : ¬ (nb : Int) = (N : Int) := by omega
    clear hsne HFN HEE
    go_enter Try.func4, Try.ntmps4
    go_wp2_with (first
      | (go_at_call 9; (with_reducible refine (awake10 _).mono ?_); rintro e w0 ⟨rfl, hb⟩; (have B0 := hid_o hb); clear hb)
      | (go_at_call 13; (with_reducible refine (HP.out _).mono ?_); rintro e w' ⟨rfl, rfl⟩)
      | (go_at_call 12; (refine (HSQ.out _ _ _ _ _ hn hsz (HC.out.below B0.out)).mono ?_); rintro e w1 ⟨A, c, rfl, hcap, hR, hb⟩; (have R1 := hid_o hR); (have B1 := hid_o (bt B0.out hb)); clear hR hb)
      | (go_at_call 11; (refine (HO1.out _ _ _ hcap R1.out).mono ?_); rintro e w2 ⟨px, rfl, hLx, hb⟩; (have X2 := hid_o (hLx.below (bal _ (.cells #[.int .i64 0, .int .i64 0] 35)))); (have B2 := hid_o (ba (bt B1.out hb) (.cells #[.int .i64 0, .int .i64 0] 35))); clear hb R1 B1 hLx)
      | (go_at_call 8; (with_reducible refine (nums_any _ _ _ zs _ hnb hsb' (HDz.out.below B2.out)).mono ?_); rintro e w5 ⟨AV, cV, rfl, hr, hb⟩; (have RV := hid_o hr); (have X5 := hid_o (X2.out.below hb)); (have B5 := hid_o (bt B2.out hb)); clear hb hr X2 B2)
      | (go_at_call 14; (with_reducible refine (HCS.out _ _ _ _ X5.out RV.out).mono ?_); rintro e w6 ⟨rfl, hb⟩; (replace RV := hid_o (RV.out.below hb)); (have X6 := hid_o (X5.out.below hb)); (have B6 := hid_o (bt B5.out hb)); clear hb X5 B5)
      | (go_at_call 15; (with_reducible refine (lh_size X6.out).mono ?_); rintro e w7 ⟨rfl, hb⟩; (have B7 := hid_o (bt B6.out hb)); clear hb X6 B6))
    go_ret
    exact ⟨rfl, B7.out⟩
  · have e5 : E1 = 5 := by rw [HEE.out]; unfold rfS; rw [if_neg hsne, if_neg (by omega), h2]; rfl
    subst e5
    rw [h2] at HFN
    subst h
    clear hsne HEE
    go_enter Try.func4, Try.ntmps4
    go_wp2_with (first
      | (go_at_call 9; (with_reducible refine (awake10 _).mono ?_); rintro e w0 ⟨rfl, hb⟩; (have B0 := hid_o hb); clear hb)
      | (go_at_call 13; (with_reducible refine (HP.out _).mono ?_); rintro e w' ⟨rfl, rfl⟩)
      | (go_at_call 12; (refine (HSQ.out _ _ _ _ _ hn hsz (HC.out.below B0.out)).mono ?_); rintro e w1 ⟨A, c, rfl, hcap, hR, hb⟩; (have R1 := hid_o hR); (have B1 := hid_o (bt B0.out hb)); clear hR hb)
      | (go_at_call 11; (refine (HO1.out _ _ _ hcap R1.out).mono ?_); rintro e w2 ⟨px, rfl, hLx, hb⟩; (have X2 := hid_o (hLx.below (bal _ (.cells #[.int .i64 0, .int .i64 0] 35)))); (have B2 := hid_o (ba (bt B1.out hb) (.cells #[.int .i64 0, .int .i64 0] 35))); clear hb R1 B1 hLx)
      | (go_at_call 8; (with_reducible refine (nums_any _ _ _ zs _ hnb hsb' (HDz.out.below B2.out)).mono ?_); rintro e w5 ⟨AV, cV, rfl, hr, hb⟩; (have RV := hid_o hr); (have X5 := hid_o (X2.out.below hb)); (have B5 := hid_o (bt B2.out hb)); clear hb hr X2 B2)
      | (go_at_call 14; (with_reducible refine (HCS.out _ _ _ _ X5.out RV.out).mono ?_); rintro e w6 ⟨rfl, hb⟩; (replace RV := hid_o (RV.out.below hb)); (have X6 := hid_o (X5.out.below hb)); (have B6 := hid_o (bt B5.out hb)); clear hb X5 B5)
      | (go_at_call 15; (with_reducible refine (lh_size X6.out).mono ?_); rintro e w7 ⟨rfl, hb⟩; (replace RV := hid_o (RV.out.below hb)); (have B7 := hid_o (bt B6.out hb)); clear hb X6 B6)
      | (go_at_call 16; (with_reducible refine (HFN.out _ _ _ RV.out).mono ?_); rintro e w8 ⟨m8, rfl, hw⟩; subst w8; (have B8 := hid_o (below_drewN B7.out m8))))
    go_ret
    exact ⟨rfl, B8.out⟩
end ref
theorem one10_cases (N : Nat) (f : Nat → Cw) (hN : N ≤ 64) (hf : ∀ k, k < N * N → okz (f k)) : (∃ E a, ¬ E = 0 ∧ OfFails N f E a) ∨ (∃ S, Eok N S ∧ inO N S.o ∧ OfMakes N f S) := by
  rcases of_cases N f hN hf with ⟨E, a, h0, hC, _⟩ | ⟨h2, h3, hC⟩
  · exact .inl ⟨E, a, h0, hC⟩
  · exact .inr ⟨_, elm_eok (mat_ok hf) (mat_fin h2) N (Nat.le_refl _) h3, elm_in N (Nat.le_refl _) h3, hC⟩

end Go.Proofs.Ytpaljgbhladceaa
