/-
  Of: a finite word as a number of 72 limbs; what numbers of limbs stand for.
-/
import Derived.Test.YtggnilfphnnpkaaWOf
namespace Go.Proofs.Ytggnilfphnnpkaa
open Fl RowKit

/-- what an integer is as a number of 72 limbs -/
def emb (v : Int) : Nat := (v % (MM : Int)).toNat
theorem MM_pos : 0 < MM := Nat.pow_pos WW_pos
theorem emb_lt (v : Int) : emb v < MM := by
  have h1 := Int.emod_nonneg v (show (MM : Int) ≠ 0 by have := MM_pos; omega)
  have h2 := Int.emod_lt_of_pos v (show (0 : Int) < MM by have := MM_pos; omega)
  unfold emb; omega
theorem emb_cast (v : Int) : ((emb v : Nat) : Int) = v % (MM : Int) := by
  unfold emb; exact Int.toNat_of_nonneg (Int.emod_nonneg v (by have := MM_pos; omega))
theorem emb_add (u v : Int) : (emb u + emb v) % MM = emb (u + v) := by
  have h : (((emb u + emb v) % MM : Nat) : Int) = ((emb (u + v) : Nat) : Int) := by
    rw [Int.natCast_emod, Int.natCast_add, emb_cast, emb_cast, emb_cast, ← Int.add_emod]
  exact Int.ofNat_inj.1 h
theorem emb_neg (v : Int) : (MM - emb v) % MM = emb (-v) := by
  have hl := emb_lt v
  have h : (((MM - emb v) % MM : Nat) : Int) = ((emb (-v) : Nat) : Int) := by
    rw [Int.natCast_emod, emb_cast, Int.ofNat_sub (Nat.le_of_lt hl), emb_cast, Int.emod_eq_emod_iff_emod_sub_eq_zero, Int.emod_def v]
    have e : (MM : Int) - (v - (MM : Int) * (v / (MM : Int))) - -v = (MM : Int) * (1 + v / (MM : Int)) := by rw [Int.mul_add]; omega
    rw [e, Int.mul_emod_right]
  exact Int.ofNat_inj.1 h
theorem emb_nat {n : Nat} (h : n < MM) : emb (n : Int) = n := by
  have : ((emb (n : Int) : Nat) : Int) = (n : Int) := by rw [emb_cast]; exact Int.emod_eq_of_lt (by omega) (by omega)
  exact Int.ofNat_inj.1 this
/-- two integers of less than half the room, of one embedding -/
theorem emb_inj {u v : Int} (hu : 2 * u.natAbs < MM) (hv : 2 * v.natAbs < MM) (h : emb u = emb v) : u = v := by
  have h2 : u % (MM : Int) = v % (MM : Int) := by rw [← emb_cast, ← emb_cast, h]
  have h3 := Int.emod_emod_of_dvd u (Int.dvd_refl (MM : Int))
  have h4 : (MM : Int) ∣ (u - v) := Int.dvd_of_emod_eq_zero (by rw [Int.sub_emod, h2, Int.sub_self, Int.zero_emod])
  obtain ⟨k, hk⟩ := h4
  have hb : (u - v).natAbs < MM := by omega
  rw [hk, Int.natAbs_mul] at hb
  have hk0 : k.natAbs = 0 := by
    rcases Nat.eq_zero_or_pos k.natAbs with h | h
    · exact h
    · exfalso
      have := Nat.mul_le_mul_left (Int.natAbs (MM : Int)) h
      have e : Int.natAbs (MM : Int) = MM := Int.natAbs_natCast _
      rw [e] at this hb; omega
  have : k = 0 := by omega
  rw [this, Int.mul_zero] at hk
  omega

/-- 1126, kept shut -/
def K26 : Nat := 1126
def EV (v : Int) : Nat := emb (v * ((2 ^ K26 : Nat) : Int))
theorem laid_p (hi lo : Nat) (p : Int) (at0 : Nat) (w : World) (hp : p = (at0 : Int) - 2200) (ha : at0 < 4416) (hl : lo < 18446744073709551616) (hh : hi < 18446744073709551616) :
    Calls Try.prog 54 #[.int .u64 (hi : Int), .int .u64 (lo : Int), .int .i64 p] w fun e w' => ∃ Z, e = .returned (.agg (lim Z)) ∧ okL Z ∧ Lv Z = (hi * 18446744073709551616 + lo) * 2 ^ at0 ∧ Below w.heap.size w w' := by
  have h := laid_any hi lo (at0 / 64) (at0 % 64) w (by omega) (Nat.mod_lt _ (by omega)) hl hh
  rw [Nat.div_add_mod at0 64] at h
  rw [hp]; exact h
theorem infoL {Z : List Nat} (h : okL Z) : (Try.prog.info? 54).map (·.size) = some (lim Z).size := by rw [lim_size, h.len]; exact infoE
theorem zsz {Z : List Nat} (h : okL Z) : (lim zer).size = (lim Z).size := by rw [lim_size, lim_size, h.len]; rfl
theorem ex_le (r : Nat) (h : r < 9218868437227405312) : ex r ≤ 2045 := by unfold ex; omega
def KMM : Nat := 4608
theorem MM_pow : MM = 2 ^ KMM := by
  unfold MM; rw [show WW = 2 ^ 64 from rfl, ← Nat.pow_mul]
  have e : 64 * 72 = KMM := by decide
  rw [e]
theorem sig_pow (r a : Nat) (ha : a + 53 ≤ 4607) : 2 * (sig r * 2 ^ a) < MM := by
  have h1 := sig_lt r
  have h2 : (9007199254740992 : Nat) = 2 ^ 53 := by decide
  have h3 : 2 * (2 ^ 53 * 2 ^ a) ≤ MM := by
    rw [MM_pow, ← Nat.pow_add, Nat.mul_comm, ← Nat.pow_succ]; exact Nat.pow_le_pow_right (by omega) (by unfold KMM; omega)
  have h4 : sig r * 2 ^ a < 2 ^ 53 * 2 ^ a := (Nat.mul_lt_mul_right (Nat.two_pow_pos _)).2 (by rw [← h2]; exact h1)
  omega
theorem of_val {x : Nat} (hx : fin x) : EV (val x) = if ng x then (MM - sig (mg x) * 2 ^ (K26 + ex (mg x))) % MM else sig (mg x) * 2 ^ (K26 + ex (mg x)) := by
  have he := ex_le (mg x) hx
  have hs := sig_pow (mg x) (K26 + ex (mg x)) (by unfold K26; omega)
  have e : sz (mg x) * 2 ^ K26 = sig (mg x) * 2 ^ (K26 + ex (mg x)) := by
    unfold sz; rw [Nat.mul_assoc, ← Nat.pow_add, Nat.add_comm]
  unfold EV
  have hn : emb ((sz (mg x) * 2 ^ K26 : Nat) : Int) = sig (mg x) * 2 ^ (K26 + ex (mg x)) := by rw [e]; exact emb_nat (by omega)
  unfold val sgn
  cases ng x
  · simp only [Bool.false_eq_true, if_false]
    rw [← hn, Int.natCast_mul]
  · simp only [if_true]
    rw [← hn, emb_neg, Int.natCast_mul, Int.neg_mul]

set_option maxRecDepth 100000 in
set_option maxHeartbeats 1000000 in
theorem of_any (x : Nat) (w : World) (hx : x < 18446744073709551616) (hf : fin x) :
    Calls Try.prog 37 #[.float .f64 x] w fun e w' => ∃ Z, e = .returned (.agg (lim Z)) ∧ okL Z ∧ Lv Z = EV (val x) ∧ Below w.heap.size w w' := by
  have hv := of_val hf
  have he := ex_le (mg x) hf
  have hsl := sig_lt (mg x)
  have hA := Blk.fresh (w := w)
  have hbel := (Below.refl w.heap.size w).alloc (o := .cells Try.zeroCells54 54) (Nat.le_refl _)
  cases hg : ng x
  · rw [hg] at hv
    go_enter Try.func37, Try.ntmps37
    go_wp2_with (first
      | (go_at_call 53; refine (taken_any _ _).mono ?_; rintro e w' ⟨rfl, rfl⟩)
      | (go_at_call 54; refine (laid_p 0 _ _ (K26 + ex (mg x)) _ (by unfold K26; omega) (by unfold K26; omega) (by omega) (by omega)).mono ?_; rintro e w1 ⟨Y, rfl, oY, vY, bY⟩; have hB := Blk.fresh (w := w1); have hA1 := hA.below bY; have hb1 := hbel.trans (bY.mono (by simp)))
      | (refine wpList_store_row rfl 54 (.tmp 5) (.tmp 13) rfl w1.heap.size (lim Y) rfl rfl 54 (lim zer) hB (infoL oY) (zsz oY) (lim_one _) ?_)
      | (go_at_call 55; refine (negative_any _ _ hx).mono ?_; rintro e w' ⟨rfl, rfl⟩)
      | (refine wpList_load_row rfl 54 (.tmp 5) rfl w1.heap.size rfl 54 (lim Y) (0, 0) _ (hB.setRow _) Try.underlying54 rfl (infoL oY) ?_)
      | (refine wpList_store_row rfl 54 (.tmp 2) (.tmp 18) rfl w.heap.size (lim Y) rfl rfl 54 (lim zer) ((hA1.old _).rowOther _ _ (by have := hA1.lt; omega)) (infoL oY) (zsz oY) (lim_one _) ?_))
    have hA2 := (hA1.old (.cells Try.zeroCells54 54)).rowOther w1.heap.size (lim Y) (by have := hA1.lt; omega)
    refine bodyPost_ret (v := .agg (lim Y)) (results_cell_row Try.results37 _ _ w.heap.size 54 (lim Y) (0, 0) _ rfl (hA2.setRow Y) Try.underlying54 rfl (infoL oY)) rfl ?_
    refine ⟨Y, rfl, oY, by rw [vY, hv]; simp, ?_⟩
    have hsz := hb1.size
    exact below_setRow (below_setRow (hb1.alloc hsz _) _ _ hsz) _ _ (Nat.le_refl _)
  · rw [hg] at hv
    go_enter Try.func37, Try.ntmps37
    go_wp2_with (first
      | (go_at_call 53; refine (taken_any _ _).mono ?_; rintro e w' ⟨rfl, rfl⟩)
      | (go_at_call 54; refine (laid_p 0 _ _ (K26 + ex (mg x)) _ (by unfold K26; omega) (by unfold K26; omega) (by omega) (by omega)).mono ?_; rintro e w1 ⟨Y, rfl, oY, vY, bY⟩; have hB := Blk.fresh (w := w1); have hA1 := hA.below bY; have hb1 := hbel.trans (bY.mono (by simp)))
      | (refine wpList_store_row rfl 54 (.tmp 5) (.tmp 13) rfl w1.heap.size (lim Y) rfl rfl 54 (lim zer) hB (infoL oY) (zsz oY) (lim_one _) ?_)
      | (go_at_call 55; refine (negative_any _ _ hx).mono ?_; rintro e w' ⟨rfl, rfl⟩)
      | (refine wpList_load_row rfl 54 (.tmp 5) rfl w1.heap.size rfl 54 (lim Y) (0, 0) _ (hB.setRow _) Try.underlying54 rfl (infoL oY) ?_)
      | (go_at_call 56; refine (opp_any Y _ oY).mono ?_; rintro e w2 ⟨V, rfl, oV, vV, bV⟩; have hA3 := ((hA1.old (.cells Try.zeroCells54 54)).rowOther w1.heap.size (lim Y) (by have := hA1.lt; omega)).below bV)
      | (refine wpList_store_row rfl 54 (.tmp 2) (.tmp 17) rfl w.heap.size (lim V) rfl rfl 54 (lim zer) hA3 (infoL oV) (zsz oV) (lim_one _) ?_))
    refine bodyPost_ret (v := .agg (lim V)) (results_cell_row Try.results37 _ _ w.heap.size 54 (lim V) (0, 0) _ rfl (hA3.setRow V) Try.underlying54 rfl (infoL oV)) rfl ?_
    refine ⟨V, rfl, oV, by rw [vV, vY, hv]; simp, ?_⟩
    have hsz := hb1.size
    have hc := below_setRow (hb1.alloc hsz (.cells Try.zeroCells54 54)) w1.heap.size (lim Y) hsz
    exact below_setRow (hc.trans (bV.mono hc.size)) _ _ (Nat.le_refl _)

end Go.Proofs.Ytggnilfphnnpkaa
