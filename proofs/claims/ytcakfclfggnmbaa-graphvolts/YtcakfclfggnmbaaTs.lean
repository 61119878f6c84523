/-
  TwoSum of words: where both are of at most two to the 1022, the sum and its error are finite and together just the sum of both.
-/
import Derived.Test.YtcakfclfggnmbaaLk
namespace Go.Proofs.Ytcakfclfggnmbaa.Fl

def HE : Nat := 2096
def HH : Nat := 2 ^ HE
theorem szI_HH : szI = 4 * HH := by
  have e1 : sig 9218868437227405312 = 2 ^ 52 := by decide
  have e2 : ex 9218868437227405312 = HE - 50 := by decide
  have e3 : 52 + (HE - 50) = HE + 2 := by decide
  unfold szI sz HH
  rw [e1, e2, ← Nat.pow_add, e3, Nat.pow_add, Nat.mul_comm]
theorem HH_pos : 0 < HH := Nat.two_pow_pos _
theorem rp_HH (k : Nat) (hk : k < 9007199254740992) (s : Bool) : Rp (sgn s (k * HH)) := ⟨k, HE, by rw [sgn_abs]; rfl, hk⟩
theorem rn_abs (v : Int) : (rnI v).natAbs = rn v.natAbs := by unfold rnI; split <;> omega
/-- no more than k times: so is the rounded one -/
theorem rn_le {v : Int} (k : Nat) (hk : k < 9007199254740992) (h : v.natAbs ≤ k * HH) : (rnI v).natAbs ≤ k * HH := by
  have h1 := rnI_near v (sgn false (k * HH)) (rp_HH k hk false)
  have h2 := rnI_near v (sgn true (k * HH)) (rp_HH k hk true)
  unfold sgn at h1 h2
  simp only [Bool.false_eq_true, if_false, if_true] at h1 h2
  generalize k * HH = b at *
  omega
theorem rn_lt {v : Int} (h : v.natAbs ≤ 3 * HH) : rn v.natAbs < szI := by
  have := rn_le 3 (by omega) h
  rw [rn_abs] at this
  rw [szI_HH]; have := HH_pos; omega
theorem ans_fin {x : Nat} (h : fin x) : ans x = some x := ans_num (fin_not_nan h)
theorem ts_exact {a b : Nat} (ha : fin a) (hb : fin b) (la : (val a).natAbs ≤ HH) (lb : (val b).natAbs ≤ HH) :
    ∃ s e, tsS (ans a) (ans b) = some s ∧ tsE (ans a) (ans b) = some e ∧ fin s ∧ fin e ∧ val s = rnI (val a + val b) ∧ val s + val e = val a + val b := by
  have ra := val_rep a
  have rb := val_rep b
  obtain ⟨s, hs, fs, vs⟩ := add_fin ha hb (rn_lt (by omega))
  have S : tsS (ans a) (ans b) = some s := by rw [ans_fin ha, ans_fin hb]; exact hs
  have ls : (val s).natAbs ≤ 2 * HH := by rw [vs]; exact rn_le 2 (by omega) (by omega)
  have n1 := (rnI_near (val a + val b) (val a) ra).1
  have n2 := (rnI_near (val a + val b) (val b) rb).1
  rw [← vs] at n1 n2
  have b1 : (val s - val a).natAbs ≤ 3 * HH := by clear vs; omega
  obtain ⟨t, ht, ft, vt⟩ := sub_fin fs ha (rn_lt b1)
  have n3 := (rnI_near (val s - val a) (val b) rb).1
  rw [← vt] at n3
  have b2 : (val s - val t).natAbs ≤ 3 * HH := by clear vs vt; omega
  obtain ⟨u, hu, fu, vu⟩ := sub_fin fs ft (rn_lt b2)
  have n4 := (rnI_near (val s - val t) (val a) ra).1
  rw [← vu] at n4
  have b3 : (val a - val u).natAbs ≤ 3 * HH := by clear vs vt vu; omega
  have b4 : (val b - val t).natAbs ≤ 3 * HH := by clear vs vt vu; omega
  have b5 : (val a + val b - val s).natAbs < 4 * HH := by clear vs vt vu; have := HH_pos; omega
  obtain ⟨v, hv, fv, vv⟩ := sub_fin ha fu (rn_lt b3)
  obtain ⟨w, hw, fw, vw⟩ := sub_fin hb ft (rn_lt b4)
  have T := two_sum ra rb
  rw [← vs, ← vt, ← vu, ← vv, ← vw] at T
  have l5 : rn (val v + val w).natAbs < szI := by rw [← rn_abs, T, szI_HH]; exact b5
  obtain ⟨e, he, fe, ve⟩ := add_fin fv fw l5
  have ve2 : val s + val e = val a + val b := by rw [ve, T]; clear vs vt vu vv vw ve T; omega
  refine ⟨s, e, S, ?_, fs, fe, vs, ve2⟩
  unfold tsE
  rw [S, ans_fin ha, ans_fin hb]
  show addA (subA (some a) (subA (some s) (subA (some s) (some a)))) (subA (some b) (subA (some s) (some a))) = some e
  have h1 : subA (some s) (some a) = some t := ht
  have h2 : subA (some s) (some t) = some u := hu
  have h3 : subA (some a) (some u) = some v := hv
  have h4 : subA (some b) (some t) = some w := hw
  rw [h1, h2, h3, h4]; exact he

end Go.Proofs.Ytcakfclfggnmbaa.Fl
