/-
  Numbers of 72 limbs as whole numbers: sums, opposites, equality; nothing of any program.
-/
import Derived.Test.YtggnilfphnnpkaaFl
namespace Go.Proofs.Ytggnilfphnnpkaa
open Fl

def WW : Nat := 18446744073709551616
def lvf (f : Nat → Nat) : Nat → Nat
  | 0 => 0
  | n + 1 => lvf f n + f n * WW ^ n
def MM : Nat := WW ^ 72
def Lv (L : List Nat) : Nat := lvf (fun i => L.getD i 0) 72
structure okL (L : List Nat) : Prop where
  len : L.length = 72
  lt : ∀ i, L.getD i 0 < 18446744073709551616
def lim (L : List Nat) : Array Value := (L.map (fun n : Nat => Value.int .u64 (n : Int))).toArray
theorem WW_pos : 0 < WW := by decide
theorem lvf_lt (f : Nat → Nat) (hf : ∀ i, f i < WW) (n : Nat) : lvf f n < WW ^ n := by
  induction n with
  | zero => simp [lvf]
  | succ n ih =>
    rw [lvf, Nat.pow_succ]
    have h1 : f n + 1 ≤ WW := hf n
    have h2 := Nat.mul_le_mul_right (WW ^ n) h1
    rw [Nat.add_mul, Nat.one_mul, Nat.mul_comm WW] at h2
    omega
theorem lvf_inj (f g : Nat → Nat) (hf : ∀ i, f i < WW) (hg : ∀ i, g i < WW) (n : Nat) (h : lvf f n = lvf g n) : ∀ i, i < n → f i = g i := by
  induction n with
  | zero => intro i hi; omega
  | succ n ih =>
    rw [lvf, lvf] at h
    have hp : 0 < WW ^ n := Nat.pow_pos WW_pos
    have a := lvf_lt f hf n
    have b := lvf_lt g hg n
    have e1 : (lvf f n + f n * WW ^ n) / WW ^ n = f n := by rw [Nat.add_mul_div_right _ _ hp, Nat.div_eq_of_lt a, Nat.zero_add]
    have e2 : (lvf g n + g n * WW ^ n) / WW ^ n = g n := by rw [Nat.add_mul_div_right _ _ hp, Nat.div_eq_of_lt b, Nat.zero_add]
    have e3 : f n = g n := by rw [← e1, ← e2, h]
    have e4 : lvf f n = lvf g n := by rw [e3] at h; omega
    intro i hi
    rcases Nat.lt_or_ge i n with h1 | h1
    · exact ih e4 i h1
    · have : i = n := by omega
      subst this; exact e3
theorem Lv_lt {L : List Nat} (h : okL L) : Lv L < MM := lvf_lt _ h.lt 72
theorem Lv_inj {L K : List Nat} (hL : okL L) (hK : okL K) (h : Lv L = Lv K) : L = K := by
  have e := lvf_inj _ _ hL.lt hK.lt 72 h
  apply List.ext_getElem (by rw [hL.len, hK.len])
  intro i h1 h2
  have := e i (by rw [hL.len] at h1; exact h1)
  simpa [List.getD_eq_getElem?_getD, h1, h2] using this

def car (X Y : List Nat) : Nat → Nat
  | 0 => 0
  | k + 1 => (X.getD k 0 + Y.getD k 0 + car X Y k) / WW
def lmb (X Y : List Nat) (k : Nat) : Nat := (X.getD k 0 + Y.getD k 0 + car X Y k) % WW
theorem car_le {X Y : List Nat} (hX : okL X) (hY : okL Y) (k : Nat) : car X Y k ≤ 1 := by
  induction k with
  | zero => simp [car]
  | succ k ih =>
    have a := hX.lt k; have b := hY.lt k
    rw [car]
    exact Nat.le_of_lt_succ ((Nat.div_lt_iff_lt_mul WW_pos).2 (by unfold WW; omega))
theorem car_inv (X Y : List Nat) (k : Nat) : lvf (lmb X Y) k + car X Y k * WW ^ k = lvf (fun i => X.getD i 0) k + lvf (fun i => Y.getD i 0) k := by
  induction k with
  | zero => simp [lvf, car]
  | succ k ih =>
    rw [lvf, lvf, lvf, car, Nat.pow_succ]
    have h := Nat.div_add_mod (X.getD k 0 + Y.getD k 0 + car X Y k) WW
    unfold lmb
    generalize (X.getD k 0 + Y.getD k 0 + car X Y k) / WW = q at *
    generalize hr : (X.getD k 0 + Y.getD k 0 + car X Y k) % WW = r at *
    have e1 : q * (WW ^ k * WW) = WW * q * WW ^ k := by rw [Nat.mul_comm (WW ^ k), ← Nat.mul_assoc, Nat.mul_comm q]
    have e2 : r * WW ^ k + WW * q * WW ^ k = (X.getD k 0 + Y.getD k 0 + car X Y k) * WW ^ k := by rw [← Nat.add_mul, Nat.add_comm r, h]
    rw [Nat.add_mul, Nat.add_mul] at e2
    rw [e1]
    have ih' : lvf (lmb X Y) k + car X Y k * WW ^ k = lvf (fun i => X.getD i 0) k + lvf (fun i => Y.getD i 0) k := ih
    unfold lmb at ih'
    omega
def mix (X Y : List Nat) (k : Nat) : List Nat := (List.range 72).map fun j => if j < k then lmb X Y j else X.getD j 0
theorem mix_len (X Y : List Nat) (k : Nat) : (mix X Y k).length = 72 := by simp [mix]
theorem mix_get (X Y : List Nat) (k i : Nat) (h : i < 72) : (mix X Y k).getD i 0 = if i < k then lmb X Y i else X.getD i 0 := by
  simp [mix, List.getD_eq_getElem?_getD, h]
theorem mix_zero {X : List Nat} (hX : okL X) (Y : List Nat) : mix X Y 0 = X := by
  apply List.ext_getElem (by rw [mix_len, hX.len])
  intro i h1 h2
  have h3 : i < 72 := by rw [hX.len] at h2; exact h2
  have := mix_get X Y 0 i h3
  simpa [List.getD_eq_getElem?_getD, h1, h2] using this
theorem mix_succ (X Y : List Nat) (k : Nat) (hk : k < 72) : mix X Y (k + 1) = (mix X Y k).set k (lmb X Y k) := by
  apply List.ext_getElem?
  intro i
  rw [List.getElem?_set]
  by_cases hi : i < 72
  · have a : (mix X Y (k + 1))[i]? = some (if i < k + 1 then lmb X Y i else X.getD i 0) := by simp [mix, hi]
    have b : (mix X Y k)[i]? = some (if i < k then lmb X Y i else X.getD i 0) := by simp [mix, hi]
    rw [a, b, mix_len]
    by_cases e : k = i
    · subst e; simp [hk]
    · by_cases h2 : i < k
      · simp [e, h2, show i < k + 1 by omega]
      · simp [e, h2, show ¬ i < k + 1 by omega]
  · have a : (mix X Y (k + 1))[i]? = none := by rw [List.getElem?_eq_none]; rw [mix_len]; omega
    have b : (mix X Y k)[i]? = none := by rw [List.getElem?_eq_none]; rw [mix_len]; omega
    rw [a, b, if_neg (by omega)]
theorem mix_ok {X : List Nat} (hX : okL X) (Y : List Nat) (k : Nat) : okL (mix X Y k) := by
  refine ⟨mix_len X Y k, fun i => ?_⟩
  by_cases h : i < 72
  · rw [mix_get X Y k i h]; split
    · exact Nat.mod_lt _ WW_pos
    · exact hX.lt i
  · have : (mix X Y k)[i]? = none := by rw [List.getElem?_eq_none]; rw [mix_len]; omega
    rw [List.getD_eq_getElem?_getD, this]; simp
theorem lvf_congr (f g : Nat → Nat) (n : Nat) (h : ∀ i, i < n → f i = g i) : lvf f n = lvf g n := by
  induction n with
  | zero => rfl
  | succ n ih => rw [lvf, lvf, ih (fun i hi => h i (by omega)), h n (by omega)]
theorem Lv_mix (X Y : List Nat) : Lv (mix X Y 72) = (Lv X + Lv Y) % MM := by
  have h := car_inv X Y 72
  have e : Lv (mix X Y 72) = lvf (lmb X Y) 72 := by
    unfold Lv; refine lvf_congr _ _ 72 fun i hi => ?_
    show (mix X Y 72).getD i 0 = _
    rw [mix_get X Y 72 i hi, if_pos hi]
  have hl : lvf (lmb X Y) 72 < WW ^ 72 := lvf_lt _ (fun i => Nat.mod_lt _ WW_pos) 72
  rw [e]
  unfold Lv MM
  rw [← h, Nat.add_mul_mod_self_right, Nat.mod_eq_of_lt hl]

/-- the opposite of every limb -/
def inv (X : List Nat) (k : Nat) : List Nat := (List.range 72).map fun j => if j < k then WW - 1 - X.getD j 0 else X.getD j 0
theorem inv_len (X : List Nat) (k : Nat) : (inv X k).length = 72 := by simp [inv]
theorem inv_get (X : List Nat) (k i : Nat) (h : i < 72) : (inv X k).getD i 0 = if i < k then WW - 1 - X.getD i 0 else X.getD i 0 := by
  simp [inv, List.getD_eq_getElem?_getD, h]
theorem inv_zero {X : List Nat} (hX : okL X) : inv X 0 = X := by
  apply List.ext_getElem (by rw [inv_len, hX.len])
  intro i h1 h2
  have h3 : i < 72 := by rw [hX.len] at h2; exact h2
  have := inv_get X 0 i h3
  simpa [List.getD_eq_getElem?_getD, h1, h2] using this
theorem inv_succ (X : List Nat) (k : Nat) (hk : k < 72) : inv X (k + 1) = (inv X k).set k (WW - 1 - X.getD k 0) := by
  apply List.ext_getElem?
  intro i
  rw [List.getElem?_set]
  by_cases hi : i < 72
  · have a : (inv X (k + 1))[i]? = some (if i < k + 1 then WW - 1 - X.getD i 0 else X.getD i 0) := by simp [inv, hi]
    have b : (inv X k)[i]? = some (if i < k then WW - 1 - X.getD i 0 else X.getD i 0) := by simp [inv, hi]
    rw [a, b, inv_len]
    by_cases e : k = i
    · subst e; simp [hk]
    · by_cases h2 : i < k
      · simp [e, h2, show i < k + 1 by omega]
      · simp [e, h2, show ¬ i < k + 1 by omega]
  · have a : (inv X (k + 1))[i]? = none := by rw [List.getElem?_eq_none]; rw [inv_len]; omega
    have b : (inv X k)[i]? = none := by rw [List.getElem?_eq_none]; rw [inv_len]; omega
    rw [a, b, if_neg (by omega)]
theorem inv_ok {X : List Nat} (hX : okL X) (k : Nat) : okL (inv X k) := by
  refine ⟨inv_len X k, fun i => ?_⟩
  by_cases h : i < 72
  · rw [inv_get X k i h]; split
    · unfold WW; omega
    · exact hX.lt i
  · have : (inv X k)[i]? = none := by rw [List.getElem?_eq_none]; rw [inv_len]; omega
    rw [List.getD_eq_getElem?_getD, this]; simp
theorem lvf_inv (f : Nat → Nat) (hf : ∀ i, f i < WW) (n : Nat) : lvf (fun i => WW - 1 - f i) n + lvf f n + 1 = WW ^ n := by
  induction n with
  | zero => simp [lvf]
  | succ n ih =>
    rw [lvf, lvf, Nat.pow_succ]
    have h1 := hf n
    have e : (WW - 1 - f n) * WW ^ n + f n * WW ^ n + WW ^ n = WW ^ n * WW := by
      have : WW - 1 - f n + f n + 1 = WW := by omega
      calc (WW - 1 - f n) * WW ^ n + f n * WW ^ n + WW ^ n = (WW - 1 - f n + f n + 1) * WW ^ n := by rw [Nat.add_mul, Nat.add_mul, Nat.one_mul]
        _ = WW ^ n * WW := by rw [this, Nat.mul_comm]
    omega
theorem Lv_inv {X : List Nat} (hX : okL X) : Lv (inv X 72) + Lv X + 1 = MM := by
  have e : Lv (inv X 72) = lvf (fun i => WW - 1 - X.getD i 0) 72 := by
    unfold Lv; refine lvf_congr _ _ 72 fun i hi => ?_
    show (inv X 72).getD i 0 = _
    rw [inv_get X 72 i hi, if_pos hi]
  rw [e]; exact lvf_inv _ hX.lt 72
def zer : List Nat := List.replicate 72 0
theorem zer_get (i : Nat) : zer.getD i 0 = 0 := by
  unfold zer; rw [List.getD_eq_getElem?_getD, List.getElem?_replicate]; split <;> rfl
theorem zer_ok : okL zer := ⟨by simp [zer], fun i => by rw [zer_get]; omega⟩
theorem set_get (L : List Nat) (k n i : Nat) (hk : k < L.length) : (L.set k n).getD i 0 = if i = k then n else L.getD i 0 := by
  by_cases e : i = k
  · subst e; rw [if_pos rfl, List.getD_eq_getElem?_getD, List.getElem?_set_self hk]; rfl
  · rw [if_neg e, List.getD_eq_getElem?_getD, List.getElem?_set_ne (by omega), ← List.getD_eq_getElem?_getD]
theorem set_ok {L : List Nat} (h : okL L) (k n : Nat) (hk : k < 72) (hn : n < 18446744073709551616) : okL (L.set k n) :=
  ⟨by rw [List.length_set]; exact h.len, fun i => by rw [set_get L k n i (by rw [h.len]; exact hk)]; split; exact hn; exact h.lt i⟩
theorem lvf_set (f : Nat → Nat) (k v : Nat) (n : Nat) : lvf (fun i => if i = k then v else f i) n = if k < n then lvf f n + v * WW ^ k - f k * WW ^ k else lvf f n := by
  induction n with
  | zero => rfl
  | succ n ih =>
    rw [lvf, lvf, ih]
    have sub : ∀ m, k < m → f k * WW ^ k ≤ lvf f m := by
      intro m
      induction m with
      | zero => intro h; omega
      | succ m ihm =>
        intro h; rw [lvf]
        rcases Nat.lt_or_ge k m with h1 | h1
        · have := ihm h1; omega
        · have : k = m := by omega
          subst this; omega
    rcases Nat.lt_trichotomy k n with h | h | h
    · have := sub n h
      have h1 : k < n + 1 := by omega
      have h2 : ¬ n = k := by omega
      simp only [h, h1, h2, if_true, if_false]; omega
    · subst h
      have h1 : k < k + 1 := by omega
      have h2 : ¬ k < k := by omega
      simp only [h1, h2, if_true, if_false]; omega
    · have h1 : ¬ k < n := by omega
      have h2 : ¬ k < n + 1 := by omega
      have h3 : ¬ n = k := by omega
      simp only [h1, h2, h3, if_false]
/-- a limb that was nought is set -/
theorem Lv_set {L : List Nat} (h : okL L) (k n : Nat) (hk : k < 72) (hz : L.getD k 0 = 0) : Lv (L.set k n) = Lv L + n * WW ^ k := by
  have e : Lv (L.set k n) = lvf (fun i => if i = k then n else L.getD i 0) 72 := by
    unfold Lv; refine lvf_congr _ _ 72 fun i _ => ?_
    show (L.set k n).getD i 0 = _
    rw [set_get L k n i (by rw [h.len]; exact hk)]
  rw [e, lvf_set (fun i => L.getD i 0) k n 72, if_pos hk]
  show lvf _ 72 + n * WW ^ k - L.getD k 0 * WW ^ k = _
  rw [hz]; simp [Lv]
theorem Lv_zer : Lv zer = 0 := by
  have : ∀ n, lvf (fun i => zer.getD i 0) n = 0 := by
    intro n
    induction n with
    | zero => rfl
    | succ n ih => rw [lvf, ih]; show 0 + zer.getD n 0 * _ = 0; rw [zer_get]; simp
  exact this 72

end Go.Proofs.Ytggnilfphnnpkaa
