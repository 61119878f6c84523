/-
  The walk of LowerMirror, where both are refused.
-/
import Derived.Test.YtiddmcbecoopoaaLmd
namespace Go.Proofs.Ytiddmcbecoopoaa
open Fl RowKit

theorem sqT {a : Int} {N T : Nat} (hT : T = N * N) (h : ∀ (ao : Option Addr) (cap n : Nat) (xs : List Cw) (w : World), xs.length = n → n * 16 ≤ 140737488355328 → Rz w ao xs →
    Calls Try.prog 10 #[.int .i64 a, .slice ao n cap] w fun e w' => ∃ A c, e = .returned (.agg #[.int .i64 N, .int .i64 N, .slice A (N * N) c]) ∧ Rw w' w.heap.size (.slice A (N * N) c) (N * N) (ro (N * N) (zat xs)) ∧ Below w.heap.size w w') :
    ∀ (ao : Option Addr) (cap n : Nat) (xs : List Cw) (w : World), xs.length = n → n * 16 ≤ 140737488355328 → Rz w ao xs →
    Calls Try.prog 10 #[.int .i64 a, .slice ao n cap] w fun e w' => ∃ A c, e = .returned (.agg #[.int .i64 N, .int .i64 N, .slice A T c]) ∧ T ≤ c ∧ Rc w' A (ro T (zat xs)) ∧ Below w.heap.size w w' := by
  subst hT
  intro ao cap n xs w h1 h2 h3
  refine (h ao cap n xs w h1 h2 h3).mono ?_
  rintro e w' ⟨A, c, rfl, hR, hb⟩
  exact ⟨A, c, rfl, rw_cap hR, rw_rc hR, hb⟩
theorem failsT {N T : Nat} {f : Nat → Cw} {E a : Int} (hT : T = N * N) (h : OfFails N f E a) : ∀ (W : World) (A : Option Addr) (c : Nat), T ≤ c → Rc W A (ro T f) → Calls Try.prog 15 #[.agg #[.int .i64 N, .int .i64 N, .slice A T c]] W fun e w' => e = .returned (.tuple #[.pointer none, .agg #[.int .i64 E, .int .i64 a]]) ∧ Below W.heap.size W w' := by
  subst hT
  exact h
theorem conjT (R C : Int) (ao : Option Addr) (cap n : Nat) (f : Nat → Cw) (w : World) (hsz : n ≤ 4096) (hc : Rc w ao (ro n f)) (hx : ∀ k, k < n → okz (f k)) :
    Calls Try.prog 31 #[.agg #[.int .i64 R, .int .i64 C, .slice ao n cap]] w fun e w' => ∃ A c, e = .returned (.agg #[.int .i64 R, .int .i64 C, .slice A n c]) ∧ n ≤ c ∧ Rc w' A (ro n (fun k => cjw (f k))) ∧ Below w.heap.size w w' := by
  refine (conjM_any R C ao cap n f w hsz hc hx).mono ?_
  rintro e w' ⟨A, c, rfl, hR, hb⟩
  exact ⟨A, c, rfl, rw_cap hR, rw_rc hR, hb⟩
set_option maxRecDepth 20000 in
set_option maxHeartbeats 4000000 in
theorem mirror_fail (a : Int) (N T : Nat) (E q : Int) (ao : Option Addr) (cap n : Nat) (xs : List Cw) (w : World) (hn : xs.length = n) (hsz : n * 16 ≤ 140737488355328) (hc : Rz w ao xs) (hx : okl xs) (h4 : T ≤ 4096) (hE : ¬ E = 0)
    (SQ : ∀ (ao : Option Addr) (cap n : Nat) (xs : List Cw) (w : World), xs.length = n → n * 16 ≤ 140737488355328 → Rz w ao xs → Calls Try.prog 10 #[.int .i64 a, .slice ao n cap] w fun e w' => ∃ A c, e = .returned (.agg #[.int .i64 N, .int .i64 N, .slice A T c]) ∧ T ≤ c ∧ Rc w' A (ro T (zat xs)) ∧ Below w.heap.size w w')
    (O1 : ∀ (W : World) (A : Option Addr) (c : Nat), T ≤ c → Rc W A (ro T (zat xs)) → Calls Try.prog 15 #[.agg #[.int .i64 N, .int .i64 N, .slice A T c]] W fun e w' => e = .returned (.tuple #[.pointer none, .agg #[.int .i64 E, .int .i64 q]]) ∧ Below W.heap.size W w')
    (O2 : ∀ (W : World) (A : Option Addr) (c : Nat), T ≤ c → Rc W A (ro T (fun k => cjw (zat xs k))) → Calls Try.prog 15 #[.agg #[.int .i64 N, .int .i64 N, .slice A T c]] W fun e w' => e = .returned (.tuple #[.pointer none, .agg #[.int .i64 E, .int .i64 q]]) ∧ Below W.heap.size W w') :
    Calls Try.prog 7 #[.int .i64 a, .slice ao n cap] w fun e w' => e = .returned (.bool true) ∧ Below w.heap.size w w' := by
  have HSQ := hid_o SQ
  have HO1 := hid_o O1
  have HO2 := hid_o O2
  have HC := hid_o hc
  have HX := hid_o hx
  clear SQ O1 O2 hc hx
  go_enter Try.func7, Try.ntmps7
  go_wp2_with (first
    | (go_at_call 10; (refine (HSQ.out _ _ _ _ _ hn hsz HC.out).mono ?_); rintro e w1 ⟨A, c, rfl, hcap, hR, hb⟩; (have V1 := hid_o (v3_new w1 (.int .i64 N) (.int .i64 N) (.slice A T c) 26)); (have R1 := hid_o (hR.below (bal _ (.cells #[.int .i64 N, .int .i64 N, .slice A T c] 26)))); (have B1 := hid_o (ba hb (.cells #[.int .i64 N, .int .i64 N, .slice A T c] 26))); clear hR hb)
    | (go_at_call 15; (refine (HO1.out _ _ _ hcap R1.out).mono ?_); rintro e w2 ⟨rfl, hb⟩; (have V2 := (V1.out.below hb).below (bal _ (.cells #[.int .i64 E, .int .i64 q] 35))); (have c0 := V2.c0); (have c1 := V2.c1); (have c2 := V2.c2); (have F2 := hid_o (v2_new w2 (.int .i64 E) (.int .i64 q) 35)); (have R2 := hid_o ((R1.out.below hb).below (bal _ (.cells #[.int .i64 E, .int .i64 q] 35)))); (have B2 := hid_o (ba (bt B1.out hb) (.cells #[.int .i64 E, .int .i64 q] 35))); clear V2 hb R1 V1 B1)
    | (go_at_call 31; (refine (conjT _ _ _ _ _ (zat xs) _ h4 R2.out (fun k _ => HX.out k)).mono ?_); rintro e w3 ⟨A', c', rfl, hcap', hR, hb⟩; (have R3 := hid_o hR); (have F3 := hid_o (F2.out.below hb)); (have B3 := hid_o (bt B2.out hb)); clear hR hb R2 F2 B2 c0 c1 c2)
    | (go_at_call 15; (refine (HO2.out _ _ _ hcap' R3.out).mono ?_); rintro e w4 ⟨rfl, hb⟩; (have F4 := (F3.out.below hb).below (bal _ (.cells #[.int .i64 E, .int .i64 q] 35))); (have d0 := F4.c0); (have d1 := F4.c1); (have HF4 := hid_o F4); (have B4 := hid_o (ba (bt B3.out hb) (.cells #[.int .i64 E, .int .i64 q] 35))); clear hb F4 F3 B3 R3)
    | (go_at_call 13; (refine (awake9 _).mono ?_); rintro e w5 ⟨rfl, hb⟩; (have F5 := HF4.out.below hb); (have f0 := F5.c0); (have f1 := F5.c1); (have B5 := hid_o (bt B4.out hb)); clear hb F5 HF4 B4 d0 d1))
  go_ret
  exact ⟨rfl, B5.out⟩

end Go.Proofs.Ytiddmcbecoopoaa
