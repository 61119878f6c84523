/-
  TokensBare, pure: the lines of a text that does not end with a byte 10.
-/
import Derived.Test.YtpfdgibgdehcdaaDoorTba
import Derived.Test.YtpfdgibgdehcdaaDoorTbf
namespace Go.Proofs.YtpfdgibgdehcdaaDoor
set_option linter.unusedVariables false

theorem pcs_none {t : ByteArray} : ∀ (n i f : Nat), (∀ k, i ≤ k → k < i + n → bty t k ≠ 10) → pcs t n i f = [(f, i + n)] := by
  intro n
  induction n with
  | zero => intro i f _; rfl
  | succ n ih =>
    intro i f h
    unfold pcs
    rw [if_neg (h i (Nat.le_refl _) (by omega)), ih (i + 1) f (fun k h1 h2 => h k (by omega) (by omega))]
    rw [show i + 1 + n = i + (n + 1) by omega]
/-- where lines lie of which the last is not ended -/
def lpz : Nat → List (List UInt8) → List UInt8 → List (Nat × Nat)
  | q, [], z => [(q, q + z.length)]
  | q, j :: r, z => (q, q + j.length) :: lpz (q + j.length + 1) r z
theorem no_ten {t : ByteArray} {q : Nat} {j X : List UInt8} (hd : t.data.toList.drop q = j ++ X) (hn : ∀ c ∈ j, c ≠ 10) : ∀ i, q ≤ i → i < q + j.length → bty t i ≠ 10 := by
  intro i h1 h2
  obtain ⟨d, rfl⟩ : ∃ d, i = q + d := ⟨i - q, by omega⟩
  have hdj : d < j.length := by omega
  rw [drop_b hd (by simp only [List.length_append]; omega), getD_app _ _ _ hdj, List.getD_eq_getElem?_getD, List.getElem?_eq_getElem hdj]
  intro e
  exact hn j[d] (List.getElem_mem hdj) (UInt8.toNat_inj.1 e)
theorem pcs_linesz {t : ByteArray} {z : List UInt8} (hz : ∀ c ∈ z, c ≠ 10) : ∀ (js : List (List UInt8)) (q : Nat), q ≤ t.size → t.data.toList.drop q = (js.flatMap fun l => l ++ [10]) ++ z → (∀ j ∈ js, ∀ c ∈ j, c ≠ 10) → pcs t (t.size - q) q q = lpz q js z := by
  intro js
  induction js with
  | nil =>
    intro q hq hd _
    have hd2 : t.data.toList.drop q = z ++ [] := by rw [hd]; simp
    have := drop_s hd hq
    have e : t.size - q = z.length := by simp at this; omega
    rw [e, pcs_none _ _ _ (no_ten hd2 hz)]; rfl
  | cons j r ih =>
    intro q hq hd hn
    rw [List.flatMap_cons, List.append_assoc, List.append_assoc] at hd
    have hsz := drop_s hd hq
    simp only [List.length_append, List.length_singleton] at hsz
    have hb : bty t (q + j.length) = 10 := by
      rw [drop_b hd (by simp), List.getD_eq_getElem?_getD, List.getElem?_append_right (Nat.le_refl _), Nat.sub_self]; rfl
    rw [pcs_hit (m := j.length) (no_ten hd (hn j (by simp))) hb (by omega)]
    show _ = (q, q + j.length) :: lpz (q + j.length + 1) r z
    rw [← ih (q + j.length + 1) (by omega) (by rw [← List.drop_drop, ← List.drop_drop, hd, List.drop_left]; rfl) (fun x hx => hn x (List.mem_cons_of_mem _ hx))]
    rw [show t.size - q - j.length - 1 = t.size - (q + j.length + 1) by omega]
theorem ex_of {t : ByteArray} {q : Nat} {j X : List UInt8} (hd : t.data.toList.drop q = j ++ X) (hq : q + j.length ≤ t.size) : t.extract q (q + j.length) = ⟨j.toArray⟩ := by
  apply bty_all
  · rw [ex_size (by omega)]; show _ = j.toArray.size; simp
  · intro i hi
    rw [ex_size (by omega)] at hi
    have hij : i < j.length := by omega
    rw [bty_ex (by omega) hi, drop_b hd (by simp only [List.length_append]; omega), getD_app _ _ _ hij]
    show _ = (j.toArray.getD i 0).toNat
    rw [Array.getD_eq_getD_getElem?, List.getD_eq_getElem?_getD]; simp
theorem lpz_text {t : ByteArray} {z : List UInt8} : ∀ (js : List (List UInt8)) (q : Nat), q ≤ t.size → t.data.toList.drop q = (js.flatMap fun l => l ++ [10]) ++ z → (lpz q js z).map (fun p => t.extract p.1 p.2) = (js ++ [z]).map fun j => ⟨j.toArray⟩ := by
  intro js
  induction js with
  | nil =>
    intro q hq hd
    have hd2 : t.data.toList.drop q = z ++ [] := by rw [hd]; simp
    have := drop_s hd hq
    have e : t.size = q + z.length := by simp at this; omega
    show [t.extract q (q + z.length)] = [_]
    rw [ex_of hd2 (by omega)]
  | cons j r ih =>
    intro q hq hd
    rw [List.flatMap_cons, List.append_assoc, List.append_assoc] at hd
    have hsz := drop_s hd hq
    simp only [List.length_append, List.length_singleton] at hsz
    have hi := ih (q + j.length + 1) (by omega) (by rw [← List.drop_drop, ← List.drop_drop, hd, List.drop_left]; rfl)
    show t.extract q (q + j.length) :: (lpz (q + j.length + 1) r z).map _ = _
    rw [hi, ex_of hd (by omega)]; rfl
theorem lpz_last {z : List UInt8} (hz : z ≠ []) : ∀ (js : List (List UInt8)) (q n : Nat), (lpz q js z).getLast? ≠ some (n, n) := by
  intro js
  have hp : 0 < z.length := List.length_pos_iff.2 hz
  induction js with
  | nil =>
    intro q n h
    have h2 : (q, q + z.length) = (n, n) := Option.some.inj h
    rw [Prod.mk.injEq] at h2; omega
  | cons j r ih =>
    intro q n h
    have h2 : ((q, q + j.length) :: lpz (q + j.length + 1) r z).getLast? = some (n, n) := h
    rw [List.getLast?_cons] at h2
    cases e : (lpz (q + j.length + 1) r z).getLast? with
    | none => rw [List.getLast?_eq_none_iff] at e; cases r <;> cases e
    | some p => rw [e] at h2; exact ih _ n (by rw [e]; exact h2)
/-- a text of lines of which the last is not ended, and not empty: its lines -/
theorem liT_joinz {t : ByteArray} {js : List (List UInt8)} {z : List UInt8} (hd : t.data.toList = (js.flatMap fun l => l ++ [10]) ++ z) (hn : ∀ j ∈ js, ∀ c ∈ j, c ≠ 10) (hz : ∀ c ∈ z, c ≠ 10) (h0 : z ≠ []) : liT t = (js ++ [z]).map fun j => ⟨j.toArray⟩ := by
  have h1 : alP t = lpz 0 js z := by
    have := pcs_linesz hz js 0 (Nat.zero_le _) (by rw [List.drop_zero]; exact hd) hn
    rw [Nat.sub_zero] at this; exact this
  show cuT t (liP t) = _
  unfold liP
  rw [h1, if_neg (lpz_last h0 js 0 _)]
  exact lpz_text js 0 (Nat.zero_le _) (by rw [List.drop_zero]; exact hd)
end Go.Proofs.YtpfdgibgdehcdaaDoor
