/-
  Admittances: what package admit's functions hand back, for every element and every frequency; pure part.
-/
import Derived.Test.YtnmibhgfcepddaaElh
import Derived.Test.YtnmibhgfcepddaaTw
import Derived.Test.YtnmibhgfcepddaaLdt
namespace Go.Proofs.Ytnmibhgfcepddaa
open Fl RowKit
set_option linter.unusedVariables false

/-- what is wrong with a frequency -/
def frI (o : Nat) : Int := if finB o = false then 5 else if posV o = false then 2 else 0
/-- what is wrong with a frequency or an element -/
def ckA (x : Elm) (o : Nat) : Int := if frI o = 0 then chkI x else frI o
def mW (o v : Nat) : Nat := (mulO o v).getD 0
def dW (p : Nat) : Nat := (divO 4607182418800017408 p).getD 0
abbrev Tr3 := Nat × Nat × Int
def toA (a b : Nat) : Tr3 := if (finB a && finB b) = true then (a, b, 0) else (0, 0, 6)
def prA (o v : Nat) : Tr3 := toA 0 (mW o v)
def ovA (o v : Nat) : Tr3 := if finB (mW o v) = true then toA 0 (ngW (dW (mW o v))) else (0, 0, 6)
def ofT (x : Elm) (o : Nat) : Tr3 := if ckA x o = 0 then (if x.k = 1 ∨ x.k = 8 then toA (dW x.v) 0 else if x.k = 3 then prA o x.v else if x.k = 2 then ovA o x.v else (0, 0, 2)) else (0, 0, ckA x o)
def imT (x : Elm) (o : Nat) : Tr3 := if ckA x o = 0 then (if x.k = 1 ∨ x.k = 8 then (x.v, 0, 0) else if x.k = 2 then prA o x.v else if x.k = 3 then ovA o x.v else (0, 0, 2)) else (0, 0, ckA x o)
def cjT (x : Elm) (o : Nat) : Tr3 := if (ofT x o).2.2 = 0 then ((ofT x o).1, ngW (ofT x o).2.1, 0) else (0, 0, (ofT x o).2.2)
def tV (t : Tr3) : Value := .tuple #[.complex .f64 t.1 t.2.1, .int .i64 t.2.2]
/-- the turn's angle -/
def tau : Nat := 4618760256179416344
def omT (h : Nat) : Nat × Int := if frI h = 0 then (if finB (mW tau h) = true then (mW tau h, 0) else (0, 6)) else (0, frI h)
def hzW (o : Nat) : Nat := (divO o tau).getD 0
def hzT (o : Nat) : Nat × Int := if frI o = 0 then (hzW o, 0) else (0, frI o)

theorem finB_iff {x : Nat} : finB x = true ↔ fin x := by unfold finB Fl.fin; simp
theorem fr_zero {o : Nat} (h : frI o = 0) : fin o ∧ posV o = true := by
  unfold frI at h
  by_cases h1 : finB o = false
  · rw [if_pos h1] at h; omega
  · rw [if_neg h1] at h
    by_cases h2 : posV o = false
    · rw [if_pos h2] at h; omega
    · exact ⟨finB_iff.1 (by simpa using h1), by simpa using h2⟩
theorem pos_ng {o : Nat} (h : posV o = true) : ng o = false ∧ 0 < mg o := by
  unfold posV plc sgn at h
  cases hn : ng o
  · rw [hn] at h; simp at h; exact ⟨rfl, h⟩
  · rw [hn] at h; simp at h; omega
theorem kd_fin2 {v : Nat} (h : ¬ 2 < kdB v) : fin v := by
  have hn := kd_fin h
  unfold kdB at h
  rw [hn] at h
  have := not_nan hn
  unfold Fl.fin
  by_cases q : mg v = 9218868437227405312
  · rw [if_neg (by simp), if_pos q] at h; omega
  · omega
theorem ck_zero {x : Elm} {o : Nat} (h : ckA x o = 0) : frI o = 0 ∧ chkI x = 0 := by
  unfold ckA at h
  by_cases h1 : frI o = 0
  · rw [if_pos h1] at h; exact ⟨h1, h⟩
  · rw [if_neg h1] at h; exact absurd h h1
theorem chk_zero {x : Elm} (h : chkI x = 0) : fin x.v ∧ (abv x.k = true → posV x.v = true) := by
  unfold chkI at h
  by_cases h1 : ltr x.k = 0
  · rw [if_pos h1] at h; omega
  · rw [if_neg h1] at h
    by_cases h2 : naF x = false
    · rw [if_pos h2] at h; omega
    · rw [if_neg h2] at h
      by_cases h3 : (x.a.toList == x.b.toList) = true ∨ spF x = false
      · rw [if_pos h3] at h; omega
      · rw [if_neg h3] at h
        by_cases h4 : 2 < kdB x.v
        · rw [if_pos h4] at h; omega
        · rw [if_neg h4] at h
          refine ⟨kd_fin2 h4, fun ha => ?_⟩
          by_cases h5 : abv x.k = true ∧ posV x.v = false
          · rw [if_pos h5] at h; omega
          · cases hp : posV x.v
            · exact absurd ⟨ha, hp⟩ h5
            · rfl
/-- products of finite numbers are told, and have no NaN -/
theorem mul_some {o v : Nat} (ho : fin o) (hv : fin v) : mulO o v = some (mW o v) := by
  unfold mW; rw [mul_gen ho hv]; rfl
theorem mW_ng {o v : Nat} (ho : fin o) (hv : fin v) (h1 : ng o = false) (h2 : ng v = false) : ng (mW o v) = false ∧ nan (mW o v) = false ∧ mW o v < 18446744073709551616 := by
  have h := mul_some ho hv
  have hb := mul_bd h
  refine ⟨?_, hb.2, hb.1⟩
  unfold mW; rw [mul_gen ho hv, h1, h2]
  exact word_ng _ (nr_bd _ _)
theorem div_some {p : Nat} (hn : nan p = false) : ∃ q, divO 4607182418800017408 p = some q := by
  rcases kinds p with h | h | h
  · by_cases h0 : sig (mg p) = 0
    · have hz : mg p = 0 := by
        unfold sig at h0; split at h0 <;> omega
      unfold divO Ieee.Format.div
      rw [read_fin p h, h0]
      exact ⟨_, rfl⟩
    · exact ⟨_, div_gen (x := 4607182418800017408) (finB_iff.1 (by decide)) h h0⟩
  · unfold divO Ieee.Format.div
    rw [read_inf p h]
    exact ⟨_, rfl⟩
  · rw [hn] at h; cases h
theorem dW_some {p : Nat} (hn : nan p = false) : divO 4607182418800017408 p = some (dW p) := by
  obtain ⟨q, hq⟩ := div_some hn
  unfold dW; rw [hq]; rfl
theorem dW_bd {p : Nat} (hn : nan p = false) : dW p < 18446744073709551616 ∧ nan (dW p) = false := div_bd (dW_some hn)
theorem divV_of {x y s : Nat} (h : divO x y = some s) (W : World) : divV W x y = s := by unfold divV fV; rw [h]
theorem fN_some {o : Option Nat} {s : Nat} (h : o = some s) : fN o = 0 := by rw [h]; rfl
theorem finB_ng {q : Nat} (h : q < 18446744073709551616) : finB (ngW q) = finB q := by unfold finB; rw [mg_ngW h]
theorem retT {t u : Tr3} (h : t = u) : Ending.returned (tV t) = .returned (tV u) := by rw [h]
theorem tau_fin : fin tau := finB_iff.1 (by decide)
theorem tau_some {h : Nat} (hf : fin h) : mulO tau h = some (mW tau h) := mul_some tau_fin hf
theorem hz_some {o : Nat} (hf : fin o) : divO o tau = some (hzW o) := by
  unfold hzW; rw [div_gen hf tau_fin (by decide)]; rfl
end Go.Proofs.Ytnmibhgfcepddaa
