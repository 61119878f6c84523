/-
  Whole numbers as floats and back; the law's whole: numbers with whole parts, in new memory.
-/
import Derived.Test.YtlpfjaldmokdfaaVi
import Derived.Test.YtlpfjaldmokdfaaVp
import Derived.Laws.FloatArith
import Derived.Deep.RegionHeldLaw
import Derived.Deep.AppendLies
namespace Go.Proofs.Ytlpfjaldmokdfaa
open Fl RowKit

theorem cut_zero (s : Bool) (a d : Nat) : Ieee.Toward.zero.cut s (a * 2 ^ d) d = a := by
  unfold Ieee.Toward.cut
  simp only [Bool.toNat_false, Nat.add_zero, Nat.shiftLeft_eq, Nat.one_mul]
  rcases Nat.eq_zero_or_pos a with h | h
  · subst h; simp
  · have hl : d ≤ (a * 2 ^ d).log2 + 2 := by
      rw [log2_mul a d h]; omega
    rw [Nat.min_eq_left hl, Nat.mul_div_cancel _ (Nat.two_pow_pos d)]
theorem to_int {x : Nat} {a : Int} (hx : fin x) (vx : val x = a * ((2 ^ T74 : Nat) : Int)) (hb : a.natAbs < 9007199254740992) : floatToIntVal .f64 x .i64 = some a := by
  have hs : sz (mg x) = a.natAbs * 2 ^ T74 := by
    have := congrArg Int.natAbs vx
    unfold val at this
    rw [sgn_abs, Int.natAbs_mul, Int.natAbs_natCast] at this; exact this
  have hp : (0 : Int) < ((2 ^ T74 : Nat) : Int) := by have := Nat.two_pow_pos T74; omega
  have t1 : sgn (ng x) a.natAbs = a := by
    unfold val at vx; rw [hs, sgn_mul] at vx
    exact Int.eq_of_mul_eq_mul_right (by omega) vx
  have hr : Ieee.double.read x = .number (ng x) (sig (mg x)) (-1074 + (ex (mg x) : Int)) := read_fin x hx
  have hc : Ieee.Toward.zero.cut (ng x) (sig (mg x) <<< (-1074 + (ex (mg x) : Int)).toNat) (-(-1074 + (ex (mg x) : Int))).toNat = a.natAbs := by
    rw [Nat.shiftLeft_eq]
    have hT : T74 = 1074 := rfl
    unfold sz at hs
    rcases Nat.lt_or_ge (ex (mg x)) T74 with h | h
    · have e1 : (-1074 + (ex (mg x) : Int)).toNat = 0 := by omega
      have e2 : (-(-1074 + (ex (mg x) : Int))).toNat = T74 - ex (mg x) := by omega
      rw [e1, e2, Nat.pow_zero, Nat.mul_one]
      have e3 : sig (mg x) = a.natAbs * 2 ^ (T74 - ex (mg x)) := by
        have : T74 = (T74 - ex (mg x)) + ex (mg x) := by omega
        rw [this, Nat.pow_add, ← Nat.mul_assoc] at hs
        exact Nat.eq_of_mul_eq_mul_right (Nat.two_pow_pos _) hs
      rw [e3]; exact cut_zero _ _ _
    · have e1 : (-1074 + (ex (mg x) : Int)).toNat = ex (mg x) - T74 := by omega
      have e2 : (-(-1074 + (ex (mg x) : Int))).toNat = 0 := by omega
      rw [e1, e2]
      have e3 : sig (mg x) * 2 ^ (ex (mg x) - T74) = a.natAbs := by
        have : ex (mg x) = (ex (mg x) - T74) + T74 := by omega
        rw [this, Nat.pow_add, ← Nat.mul_assoc] at hs
        exact Nat.eq_of_mul_eq_mul_right (Nat.two_pow_pos _) hs
      rw [e3]
      have := cut_zero (ng x) a.natAbs 0
      rw [Nat.pow_zero, Nat.mul_one] at this
      exact this
  unfold floatToIntVal FloatKind.decode
  rw [f64_double, hr]
  unfold Ieee.Datum.toInt Ieee.Datum.integral
  simp only [hc]
  have e : Ieee.signed (ng x) a.natAbs 0 = a := by
    rw [signed_eq, Nat.pow_zero, Nat.mul_one]; exact t1
  rw [e, if_pos]
  constructor
  · show (-9223372036854775808 : Int) ≤ a; omega
  · show a ≤ 9223372036854775807; omega
theorem run_toint {x : Nat} {a : Int} (hx : fin x) (vx : val x = a * ((2 ^ T74 : Nat) : Int)) (hb : a.natAbs < 9007199254740992) (w : World) : (convert 34 3 (.float .f64 x)).run Try.prog w = .ok (.int .i64 a) w :=
  run_convert_float_int w 34 3 .f64 .i64 x a (by kernel_rfl) Try.underlying3 (to_int hx vx hb)
theorem run_cadd {x y u v r s : Nat} (h1 : addO x u = some r) (h2 : addO y v = some s) (t : TypeId) (w : World) : (binOp .add t (.complex .f64 x y) (.complex .f64 u v)).run Try.prog w = .ok (.complex .f64 r s) w := by
  have e1 : Ieee.double.add x u = some r := h1
  have e2 : Ieee.double.add y v = some s := h2
  simp [binOp, Op.complexOp, Op.Complex.arith, Op.floatArith, f64_double, e1, e2]
/-- a number with whole parts of sizes up to 2^20 -/
def Sm (z : Cw) : Prop := ∃ p q : Int, z = (fw p, fw q) ∧ p.natAbs ≤ 1048576 ∧ q.natAbs ≤ 1048576
theorem Sm.ok {z : Cw} (h : Sm z) : okz z := by obtain ⟨p, q, rfl, _, _⟩ := h; exact ⟨fw_lt _, fw_lt _⟩
/-- the law's list of such numbers -/
structure Wh (w : World) (A : Option Addr) (C n : Nat) (xs : List Cw) : Prop where
  len : xs.length = n
  sm : ∀ j, j < n → Sm (zat xs j)
  rc : Rc w A xs
  cap : n ≤ C
  big : C ≤ maxLen
  few : n ≤ 64
  shape : A = none ∧ n = 0 ∧ C = 0 ∨ ∃ g, A = some ⟨g, 0, none⟩
theorem Wh.below {w w' : World} {A : Option Addr} {C n : Nat} {xs : List Cw} (h : Wh w A C n xs) (hb : Below w.heap.size w w') : Wh w' A C n xs := ⟨h.len, h.sm, h.rc.below hb, h.cap, h.big, h.few, h.shape⟩
/-- a list of integers that is read -/
def Ri (w : World) (ao : Option Addr) (zs : List Int) : Prop :=
  ∀ k, k < zs.length → ∃ b off, ao = some ⟨b, off, none⟩ ∧ b < w.heap.size ∧ w.cell? ⟨b, off + k, none⟩ = some (.int .i64 (zs.getD k 0))
theorem Ri.below {w w' : World} {ao : Option Addr} {zs : List Int} (h : Ri w ao zs) (hb : Below w.heap.size w w') : Ri w' ao zs := by
  intro k hk
  obtain ⟨b, off, h1, h2, h3⟩ := h k hk
  exact ⟨b, off, h1, Nat.lt_of_lt_of_le h2 hb.size, (hb.cell (by exact h2)).trans h3⟩
theorem Ri.drewN {w : World} {ao : Option Addr} {zs : List Int} (h : Ri w ao zs) (n : Nat) : Ri (w.drewN n) ao zs := h
theorem tmod_bd (a : Int) : (a.tmod 1048576).natAbs ≤ 1048576 := by
  have := Int.natAbs_tmod a 1048576
  rw [this]
  have h := Nat.mod_lt a.natAbs (show 0 < (1048576 : Int).natAbs by decide)
  have e : (1048576 : Int).natAbs = 1048576 := rfl
  omega
theorem own_wh {w : World} {base n : Nat} {v : Value} {xs : List Cw} (hn : xs.length = n) (h : w.ownsRow base 29 1 v n (xs.map cx)) (hs : ∀ j, j < n → Sm (zat xs j)) (hf : n ≤ 64) : ∃ A C, v = .slice A n C ∧ Wh w A C n xs := by
  obtain ⟨A, C, hv, hle, hsh, hr⟩ := own_rc hn.symm h
  rw [hn] at hv hle hsh
  have hbig : C ≤ maxLen := by
    rcases h.2 with ⟨hv2, _⟩ | ⟨g, cap, cur, hv2, _, _, _, h3, _⟩
    · rw [hv] at hv2; cases hv2; exact Nat.zero_le _
    · rw [hv] at hv2; cases hv2; exact h3
  refine ⟨A, C, hv, hn, hs, hr, hle, hbig, hf, ?_⟩
  rcases hsh with ⟨a, b, c⟩ | ⟨g, a, _⟩
  · exact .inl ⟨b, a, c⟩
  · exact .inr ⟨g, a⟩
set_option maxRecDepth 20000 in
set_option maxHeartbeats 4000000 in
theorem whole_any (ao : Option Addr) (cap : Nat) (zs : List Int) (w : World) (hsz : zs.length * 8 ≤ 140737488355328) (hc : Ri w ao zs) :
    Calls Try.prog 44 #[.slice ao zs.length cap] w fun e w' => ∃ A C n, e = .returned (.slice A n C) ∧ (∃ xs, Wh w' A C n xs) ∧ Below w.heap.size w w' := by
  obtain ⟨i0, hi, hz0, hz1, hz2⟩ := info_parts Try.infoC
  go_enter Try.func44, Try.ntmps44
  go_wp2
  go_loopw [3, 4] (fun v i wr => ∃ (k : Nat) (xs : List Cw) (v0 : Value), k ≤ 64 ∧ i = .int .i64 ((2 * k : Nat) : Int) ∧ v0 = v ∧ xs.length = k ∧ (∀ j, j < k → Sm (zat xs j)) ∧ wr.ownsRow w.heap.size 29 1 v0 k (xs.map cx) ∧ Below w.heap.size w wr) (fun _ i _ => 128 - (intOf i).toNat)
  case atStart => exact ⟨0, [], _, Nat.zero_le _, rfl, rfl, rfl, fun j hj => absurd hj (by omega), World.ownsRow_nil _ _ _ _, Below.refl _ _⟩
  case round =>
    obtain ⟨k, xs, v0, hk, rfl, rfl, hl, hsm, hown, hbel⟩ := hrel
    have hS := hbel.size
    obtain ⟨m, hm⟩ : ∃ m, m = 2 * k := ⟨_, rfl⟩
    rw [← hm]
    by_cases hlt : m + 1 < zs.length
    · by_cases hlt2 : k < 64
      · obtain ⟨b, off, rfl, hb, hcx0⟩ := hc m (by omega)
        obtain ⟨b2, off2, e2, hb2, hcy0⟩ := hc (m + 1) hlt
        cases e2
        have hcx := (hbel.cell (p := ⟨b, off + m, none⟩) hb).trans hcx0
        have hcy := (hbel.cell (p := ⟨b, off + (m + 1), none⟩) hb).trans hcy0
        obtain ⟨p, hp⟩ : ∃ p, p = zs.getD m 0 := ⟨_, rfl⟩
        obtain ⟨q, hq⟩ : ∃ q, q = zs.getD (m + 1) 0 := ⟨_, rfl⟩
        rw [← hp] at hcx hcx0
        rw [← hq] at hcy hcy0
        have C1 : Hid (w.cell? ⟨b, off + m, none⟩ = some (.int .i64 p)) := hcx0
        have C2 : Hid (w.cell? ⟨b, off + (m + 1), none⟩ = some (.int .i64 q)) := hcy0
        have HSM : Hid (∀ j, j < k → Sm (zat xs j)) := hsm
        have HB : Hid (Below w.heap.size w wr) := hbel
        have hi1 : (m : Int) + 1 < (zs.length : Int) := by omega
        have hi2 : (m : Int) < 128 := by omega
        have HM : Hid (m = 2 * k) := hm
        have HL : Hid (xs.length = k) := hl
        have hlt0 : m < zs.length := by omega
        have hi3 : (0 : Int) ≤ (m : Int) + 1 := by omega
        have hwr : IntKind.i64.wrap ((m : Int) + 1) = (((m + 1 : Nat)) : Int) := by rw [IntKind.wrap_i64]; omega
        clear hp hq hcx0 hcy0 hc hsm hbel hm hl
        go_wp2
        go_region_held_law (fun W => W.cell? ⟨b, off + m, none⟩ = some (.int .i64 p) ∧ W.cell? ⟨b, off + (m + 1), none⟩ = some (.int .i64 q)) (first | (with_reducible exact ⟨hcx, hcy⟩) | (with_reducible exact ⟨(R2.cell (p := ⟨b, off + m, none⟩) hb).trans C1.out, (R2.cell (p := ⟨b, off + (m + 1), none⟩) hb).trans C2.out⟩) | go_keep)
          (first
          | (refine step_append_lies _ (by rfl) _ _ 23 (by rfl) w.heap.size 29 i0 (.complex .f64 0 0) 1 16 Try.underlying23 hi hz0 hz1 hz2 (by rfl) (by decide) _ _ _ (by rfl) ((ownsRow_drewN hown 1).alloc _) ⟨_, 0, none⟩ 1 1 [.complex .f64 (floatOfInt .f64 (p.tmod 1048576)) (floatOfInt .f64 (q.tmod 1048576))] (by rfl) (by rfl) (fun j u hj => by match j, hj with | 0, hj => (simp at hj; subst hj; simp [Addr.add])) (fun u hu => by simp at hu; subst hu; rfl) (by decide) (by unfold maxLen; omega) (by omega) (by simp; omega) (wr.heap.size + 1) (by simp) ?_; intro g cap w1 hown1 hgrow hat hlt1; have R2 : Below w.heap.size w w1 := ((below_drewN HB.out 1).alloc (by simpa using hS) _).grown hgrow (by simp; omega) (fun j hj => own_ge hown hj)))
        have R : w1.ownsRow w.heap.size 29 1 (.slice (some ⟨g, 0, none⟩) (k + 1) cap) (k + 1) ((xs ++ [(fw (p.tmod 1048576), fw (q.tmod 1048576))]).map cx) := push_own (r := (fw (p.tmod 1048576), fw (q.tmod 1048576))) hown1
        have RS : ∀ j, j < k + 1 → Sm (zat (xs ++ [(fw (p.tmod 1048576), fw (q.tmod 1048576))]) j) := by
          have hl := HL.out
          intro j hj
          by_cases e : j = k
          · subst e
            have : zat (xs ++ [(fw (p.tmod 1048576), fw (q.tmod 1048576))]) j = (fw (p.tmod 1048576), fw (q.tmod 1048576)) := by unfold zat; rw [List.getD_eq_getElem?_getD, List.getElem?_append_right (by omega)]; simp [hl]
            rw [this]
            exact ⟨_, _, rfl, tmod_bd _, tmod_bd _⟩
          · have : zat (xs ++ [(fw (p.tmod 1048576), fw (q.tmod 1048576))]) j = zat xs j := by unfold zat; rw [List.getD_eq_getElem?_getD, List.getD_eq_getElem?_getD, List.getElem?_append_left (by omega)]
            rw [this]; exact HSM.out j (by omega)
        clear hown1 hgrow hat hown hwr
        have hm := HM.out
        go_wp2
        go_roundw
        case rel => exact ⟨k + 1, _, _, by omega, by first | (congr 1; done) | (congr 1; omega), rfl, by rw [List.length_append, HL.out]; rfl, RS, R, R2⟩
        case measure => simp [intOf]; omega
      · have hi1 : (m : Int) + 1 < (zs.length : Int) := by omega
        have hi2 : ¬ (m : Int) < 128 := by omega
        have HSM : Hid (∀ j, j < k → Sm (zat xs j)) := hsm
        have HL : Hid (xs.length = k) := hl
        clear hc hsm hl
        go_wp2
        go_ret
        obtain ⟨A, C, rfl, hW⟩ := own_wh HL.out hown HSM.out hk
        exact ⟨A, C, k, rfl, ⟨xs, hW⟩, hbel⟩
    · have hi1 : ¬ (m : Int) + 1 < (zs.length : Int) := by omega
      have HSM : Hid (∀ j, j < k → Sm (zat xs j)) := hsm
      have HL : Hid (xs.length = k) := hl
      clear hc hsm hl
      go_wp2
      go_ret
      obtain ⟨A, C, rfl, hW⟩ := own_wh HL.out hown HSM.out hk
      exact ⟨A, C, k, rfl, ⟨xs, hW⟩, hbel⟩

end Go.Proofs.Ytlpfjaldmokdfaa
