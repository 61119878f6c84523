/-
  SolveMirrors' walk, where both are refused; math.Max.
-/
import Derived.Test.YtpaljgbhladceaaSlw
import Derived.Test.YtpaljgbhladceaaSls
import Derived.Test.YtpaljgbhladceaaBnb
namespace Go.Proofs.Ytpaljgbhladceaa
open Fl RowKit

theorem run_amax (x y : Nat) (w : World) (hx : x < 9218868437227405312) (hy : y < 9218868437227405312) (h0 : 0 < max x y) : (callFunc 65 #[.float .f64 x, .float .f64 y]).run Try.prog w = .ok (.value (.float .f64 (max x y))) w := by
  have hmx : mg x = x := by unfold mg; omega
  have hmy : mg y = y := by unfold mg; omega
  have hfx : fin x := by unfold fin; rw [hmx]; exact hx
  have hfy : fin y := by unfold fin; rw [hmy]; exact hy
  have px : plc x = (x : Int) := by have := plc_mg x; rw [hmx] at this; exact this
  have py : plc y = (y : Int) := by have := plc_mg y; rw [hmy] at this; exact this
  have o3 : (FloatKind.f64.format.order x y == some .gt) = decide (y < x) := by
    rw [order_gt (fin_not_nan hfx) (fin_not_nan hfy), px, py, Bool.eq_iff_iff]; simp
  have dx : FloatKind.f64.decode x = .number (ng x) (sig (mg x)) (-1074 + (ex (mg x) : Int)) := read_fin x hfx
  have dy : FloatKind.f64.decode y = .number (ng y) (sig (mg y)) (-1074 + (ex (mg y) : Int)) := read_fin y hfy
  have eo : (FloatKind.f64.decode x).order (FloatKind.f64.decode y) = FloatKind.f64.format.order x y := rfl
  have hp : Extern.MathDim.pick "math.archMax" false .gt #[.float .f64 x, .float .f64 y] = pure (.float .f64 (if (FloatKind.f64.decode x == .infinity false || FloatKind.f64.decode y == .infinity false) = true then FloatKind.f64.encode (.infinity false) else if ((FloatKind.f64.decode x).isNaN || (FloatKind.f64.decode y).isNaN) = true then 0x7FF8000000000001 else if ((FloatKind.f64.decode x).isZero && (FloatKind.f64.decode y).isZero) = true then (if ((FloatKind.f64.decode x).neg == false) = true then x else y) else if ((FloatKind.f64.decode x).order (FloatKind.f64.decode y) == some .gt) = true then x else y)) := rfl
  have z : ∀ (s : Bool) (m : Nat) (p : Int), ¬ m = 0 → (Ieee.Datum.number s m p).isZero = false := fun s m p h => by
    cases m with
    | zero => exact absurd rfl h
    | succ m => rfl
  have i1 : (FloatKind.f64.decode x == .infinity false || FloatKind.f64.decode y == .infinity false) = false := by rw [dx, dy]; rfl
  have i2 : ((FloatKind.f64.decode x).isNaN || (FloatKind.f64.decode y).isNaN) = false := by rw [dx, dy]; rfl
  have i3 : ((FloatKind.f64.decode x).isZero && (FloatKind.f64.decode y).isZero) = false := by
    rw [dx, dy]
    by_cases h1 : mg x = 0
    · have h2 : ¬ mg y = 0 := by omega
      rw [z _ _ _ (sig0 h2), Bool.and_false]
    · rw [z _ _ _ (sig0 h1), Bool.false_and]
  rw [eo, o3, i1, i2, i3] at hp
  have hr : Extern.MathDim.pick "math.archMax" false .gt #[.float .f64 x, .float .f64 y] = pure (.float .f64 (max x y)) := by
    rw [hp]
    by_cases hlt : y < x
    · rw [decide_eq_true hlt, Nat.max_eq_left (by omega)]; rfl
    · rw [decide_eq_false hlt, Nat.max_eq_right (by omega)]; rfl
  rw [run_callFunc_extern Try.func65 (by kernel_rfl) (by kernel_rfl) (by kernel_rfl) (e := Extern.MathDim.pick "math.archMax" false .gt) (by kernel_rfl), hr]
  rfl
theorem mmax_any (x y : Nat) (w : World) (hx : x < 9218868437227405312) (hy : y < 9218868437227405312) (h0 : 0 < max x y) :
    Calls Try.prog 30 #[.float .f64 x, .float .f64 y] w fun e w' => e = .returned (.float .f64 (max x y)) ∧ w' = w := by
  have hr := fun W => run_amax x y W hx hy h0
  obtain ⟨m, hm⟩ : ∃ m, m = max x y := ⟨_, rfl⟩
  rw [← hm] at hr ⊢
  clear hx hy h0 hm
  go_enter Try.func30, Try.ntmps30
  go_wp2
  go_ret
  exact ⟨rfl, rfl⟩
set_option maxRecDepth 20000 in
set_option maxHeartbeats 4000000 in
theorem smir_fail (a : Int) (j : Nat) (HPK : ∀ w, Calls Try.prog 13 #[.int .i64 a, .int .i64 17] w fun e w' => e = .returned (.int .i64 (j : Int)) ∧ w' = w) (N T : Nat) (E q : Int) (ao bo : Option Addr) (cap n cb nb : Nat) (xs : List Cw) (w : World) (hn : xs.length = n) (hsz : n * 16 ≤ 140737488355328) (hc : Rz w ao xs) (hx : okl xs) (h4 : T ≤ 4096) (_hE : ¬ E = 0)
    (SQ : ∀ (ao : Option Addr) (cap n : Nat) (xs : List Cw) (w : World), xs.length = n → n * 16 ≤ 140737488355328 → Rz w ao xs → Calls Try.prog 12 #[.int .i64 (j : Int), .slice ao n cap] w fun e w' => ∃ A c, e = .returned (.agg #[.int .i64 N, .int .i64 N, .slice A T c]) ∧ T ≤ c ∧ Rc w' A (ro T (zat xs)) ∧ Below w.heap.size w w')
    (O1 : ∀ (W : World) (A : Option Addr) (c : Nat), T ≤ c → Rc W A (ro T (zat xs)) → Calls Try.prog 11 #[.agg #[.int .i64 N, .int .i64 N, .slice A T c]] W fun e w' => e = .returned (.tuple #[.pointer none, .agg #[.int .i64 E, .int .i64 q]]) ∧ Below W.heap.size W w')
    (O2 : ∀ (W : World) (A : Option Addr) (c : Nat), T ≤ c → Rc W A (ro T (fun k => cjw (zat xs k))) → Calls Try.prog 11 #[.agg #[.int .i64 N, .int .i64 N, .slice A T c]] W fun e w' => e = .returned (.tuple #[.pointer none, .agg #[.int .i64 E, .int .i64 q]]) ∧ Below W.heap.size W w') :
    Calls Try.prog 5 #[.int .i64 a, .slice ao n cap, .slice bo nb cb] w fun e w' => e = .returned (.bool true) ∧ Below w.heap.size w w' := by
  have HSQ := hid_o SQ
  have HO1 := hid_o O1
  have HO2 := hid_o O2
  have HC := hid_o hc
  have HX := hid_o hx
  have HP := hid_o HPK
  clear SQ O1 O2 hc hx HPK
  go_enter Try.func5, Try.ntmps5
  go_wp2_with (first
    | (go_at_call 9; (with_reducible refine (awake10 _).mono ?_); rintro e w0 ⟨rfl, hb⟩; (have B0 := hid_o hb); clear hb)
    | (go_at_call 13; (with_reducible refine (HP.out _).mono ?_); rintro e w' ⟨rfl, rfl⟩)
    | (go_at_call 12; (refine (HSQ.out _ _ _ _ _ hn hsz (HC.out.below B0.out)).mono ?_); rintro e w1 ⟨A, c, rfl, hcap, hR, hb⟩; (have V1 := hid_o (v3_new w1 (.int .i64 N) (.int .i64 N) (.slice A T c) 39)); (have R1 := hid_o (hR.below (bal _ (.cells #[.int .i64 N, .int .i64 N, .slice A T c] 39)))); (have B1 := hid_o (ba (bt B0.out hb) (.cells #[.int .i64 N, .int .i64 N, .slice A T c] 39))); clear hR hb)
    | (go_at_call 11; (refine (HO1.out _ _ _ hcap R1.out).mono ?_); rintro e w2 ⟨rfl, hb⟩; (have V2 := (V1.out.below hb).below (bal _ (.cells #[.int .i64 E, .int .i64 q] 35))); (have c0 := V2.c0); (have c1 := V2.c1); (have c2 := V2.c2); (have F2 := hid_o (v2_new w2 (.int .i64 E) (.int .i64 q) 35)); (have R2 := hid_o ((R1.out.below hb).below (bal _ (.cells #[.int .i64 E, .int .i64 q] 35)))); (have B2 := hid_o (ba (bt B1.out hb) (.cells #[.int .i64 E, .int .i64 q] 35))); clear V2 hb R1 V1 B1)
    | (go_at_call 26; (refine (conjT _ _ _ _ _ (zat xs) _ h4 R2.out (fun k _ => HX.out k)).mono ?_); rintro e w3 ⟨A', c', rfl, hcap', hR, hb⟩; (have R3 := hid_o hR); (have F3 := hid_o (F2.out.below hb)); (have B3 := hid_o (bt B2.out hb)); clear hR hb R2 F2 B2 c0 c1 c2)
    | (go_at_call 11; (refine (HO2.out _ _ _ hcap' R3.out).mono ?_); rintro e w4 ⟨rfl, hb⟩; (have F4 := (F3.out.below hb).below (bal _ (.cells #[.int .i64 E, .int .i64 q] 35))); (have d0 := F4.c0); (have d1 := F4.c1); (have HF4 := hid_o F4); (have B4 := hid_o (ba (bt B3.out hb) (.cells #[.int .i64 E, .int .i64 q] 35))); clear hb F4 F3 B3 R3))
  go_ret
  exact ⟨rfl, B4.out⟩

end Go.Proofs.Ytpaljgbhladceaa
