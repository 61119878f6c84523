/-
  Elements: what becomes of an element that may be, if one of its fields is another (numbers and texts alone); IsInf.
-/
import Derived.Test.YtbmoilgiifondaaEll
import Derived.Test.YtbmoilgiifondaaElk
namespace Go.Proofs.Ytbmoilgiifondaa
open Fl RowKit
set_option linter.unusedVariables false

theorem chk0 {x : Elm} (h : chkI x = 0) : ltr x.k ≠ 0 ∧ naF x = true ∧ (x.a.toList == x.b.toList) = false ∧ spF x = true ∧ ¬ 2 < kdB x.v ∧ ¬ (abv x.k = true ∧ posV x.v = false) := by
  unfold chkI at h
  split at h
  · omega
  · rename_i h1
    split at h
    · omega
    · rename_i h2
      split at h
      · omega
      · rename_i h3
        split at h
        · omega
        · rename_i h4
          split at h
          · omega
          · rename_i h5
            exact ⟨h1, by simpa using h2, by simpa using fun q => h3 (.inl q), by simpa using fun q => h3 (.inr q), h4, h5⟩
theorem chk_mk {x : Elm} (h1 : ltr x.k ≠ 0) (h2 : naF x = true) (h3 : (x.a.toList == x.b.toList) = false) (h4 : spF x = true) (h5 : ¬ 2 < kdB x.v) (h6 : ¬ (abv x.k = true ∧ posV x.v = false)) : chkI x = 0 := by
  unfold chkI
  rw [if_neg h1, if_neg (by simp [h2]), if_neg (by simp [h3, h4]), if_neg h5, if_neg h6]
/-- what Check is wanted to say of another value -/
def wantI (k v : Nat) : Int := if 2 < kdB v then 5 else if abv k = true ∧ posV v = false then 2 else 0
theorem own1 {x : Elm} (h : chkI x = 0) (v : Nat) : chkI ⟨x.k, x.n, x.a, x.b, x.c, x.d, v, x.ph⟩ = wantI x.k v := by
  obtain ⟨h1, h2, h3, h4, h5, h6⟩ := chk0 h
  unfold chkI wantI
  rw [if_neg h1, if_neg (by show ¬ naF _ = false; unfold naF at h2 ⊢; simp only [h2]; simp), if_neg (by show ¬ (_ ∨ spF _ = false); unfold spF at h4 ⊢; simp only [h3, h4]; simp)]
theorem own2 {x : Elm} (h : chkI x = 0) (s : ByteArray) : (chkI ⟨x.k, s, x.a, x.b, x.c, x.d, x.v, x.ph⟩ == 0) = ((nmK s != 0) && (nmK s == x.k)) := by
  obtain ⟨h1, h2, h3, h4, h5, h6⟩ := chk0 h
  cases hg : ((nmK s != 0) && (nmK s == x.k))
  · have hn : naF ⟨x.k, s, x.a, x.b, x.c, x.d, x.v, x.ph⟩ = false := by unfold naF; simp only [hg]; simp
    unfold chkI
    rw [if_neg h1, if_pos hn]; rfl
  · have hn : naF ⟨x.k, s, x.a, x.b, x.c, x.d, x.v, x.ph⟩ = true := by
      unfold naF at h2 ⊢
      simp only [Bool.and_eq_true] at h2 hg ⊢
      exact ⟨⟨⟨hg, h2.1.1.2⟩, h2.1.2⟩, h2.2⟩
    rw [chk_mk (x := ⟨x.k, s, x.a, x.b, x.c, x.d, x.v, x.ph⟩) h1 hn h3 h4 h5 h6]; rfl
theorem own3 {x : Elm} (h : chkI x = 0) (p q : ByteArray) : (chkI ⟨x.k, x.n, p, q, x.c, x.d, x.v, x.ph⟩ == 0) = (ndF p && ndF q && (p.toList != q.toList)) := by
  obtain ⟨h1, h2, h3, h4, h5, h6⟩ := chk0 h
  cases hg : (ndF p && ndF q)
  · have hn : naF ⟨x.k, x.n, p, q, x.c, x.d, x.v, x.ph⟩ = false := by
      unfold naF
      simp only [Bool.and_eq_false_iff] at hg ⊢
      rcases hg with hg | hg
      · exact .inl (.inl (.inr hg))
      · exact .inl (.inr hg)
    unfold chkI
    rw [if_neg h1, if_pos hn]; rfl
  · have hn : naF ⟨x.k, x.n, p, q, x.c, x.d, x.v, x.ph⟩ = true := by
      unfold naF at h2 ⊢
      simp only [Bool.and_eq_true] at h2 hg ⊢
      exact ⟨⟨⟨h2.1.1.1, hg.1⟩, hg.2⟩, h2.2⟩
    cases he : (p.toList == q.toList)
    · rw [chk_mk (x := ⟨x.k, x.n, p, q, x.c, x.d, x.v, x.ph⟩) h1 hn he h4 h5 h6]
      simp [bne, he]
    · unfold chkI
      rw [if_neg h1, if_neg (by simp [hn]), if_pos (.inl he)]
      simp [bne, he]
theorem own4 {x : Elm} (h : chkI x = 0) (p q : ByteArray) : (chkI ⟨x.k, x.n, x.a, x.b, p, q, x.v, x.ph⟩ == 0) = (fou x.k && ndF p && ndF q || !fou x.k && p.toList.isEmpty && q.toList.isEmpty) := by
  obtain ⟨h1, h2, h3, h4, h5, h6⟩ := chk0 h
  cases hf : fou x.k
  · have hn : naF ⟨x.k, x.n, x.a, x.b, p, q, x.v, x.ph⟩ = true := by
      unfold naF at h2 ⊢
      simp only [Bool.and_eq_true, hf] at h2 ⊢
      exact ⟨h2.1, rfl⟩
    cases hg : (p.toList.isEmpty && q.toList.isEmpty)
    · have hs : spF ⟨x.k, x.n, x.a, x.b, p, q, x.v, x.ph⟩ = false := by unfold spF; simp only [hf, hg]; rfl
      unfold chkI
      rw [if_neg h1, if_neg (by simp [hn]), if_pos (.inr hs)]
      simp [hg]
    · have hs : spF ⟨x.k, x.n, x.a, x.b, p, q, x.v, x.ph⟩ = true := by
        unfold spF at h4 ⊢
        simp only [hf, Bool.and_eq_true] at h4 hg ⊢
        exact ⟨by simp [hg.1, hg.2], h4.2⟩
      rw [chk_mk (x := ⟨x.k, x.n, x.a, x.b, p, q, x.v, x.ph⟩) h1 hn h3 hs h5 h6]
      simp [hg]
  · have hs : spF ⟨x.k, x.n, x.a, x.b, p, q, x.v, x.ph⟩ = true := by
      unfold spF at h4 ⊢
      simp only [hf, Bool.and_eq_true] at h4 ⊢
      exact ⟨rfl, h4.2⟩
    cases hg : (ndF p && ndF q)
    · have hn : naF ⟨x.k, x.n, x.a, x.b, p, q, x.v, x.ph⟩ = false := by
        unfold naF
        simp only [hf, hg]; simp
      unfold chkI
      rw [if_neg h1, if_pos hn]
      simp [hg]
    · have hn : naF ⟨x.k, x.n, x.a, x.b, p, q, x.v, x.ph⟩ = true := by
        unfold naF at h2 ⊢
        simp only [hf, Bool.and_eq_true] at h2 hg ⊢
        exact ⟨h2.1, by simp [hg.1, hg.2]⟩
      rw [chk_mk (x := ⟨x.k, x.n, x.a, x.b, p, q, x.v, x.ph⟩) h1 hn h3 hs h5 h6]
      simp [hg]
theorem own5 {x : Elm} (h : chkI x = 0) (ph : Int) : (chkI ⟨x.k, x.n, x.a, x.b, x.c, x.d, x.v, ph⟩ == 0) = (phs x.k || ph == 0) := by
  obtain ⟨h1, h2, h3, h4, h5, h6⟩ := chk0 h
  cases hg : (phs x.k || ph == 0)
  · have hs : spF ⟨x.k, x.n, x.a, x.b, x.c, x.d, x.v, ph⟩ = false := by unfold spF; simp only [hg]; simp
    unfold chkI
    rw [if_neg h1, if_neg (by show ¬ naF _ = false; unfold naF at h2 ⊢; simp only [h2]; simp), if_pos (.inr hs)]; rfl
  · have hs : spF ⟨x.k, x.n, x.a, x.b, x.c, x.d, x.v, ph⟩ = true := by
      unfold spF at h4 ⊢
      simp only [Bool.and_eq_true] at h4 ⊢
      exact ⟨h4.1, hg⟩
    rw [chk_mk (x := ⟨x.k, x.n, x.a, x.b, x.c, x.d, x.v, ph⟩) h1 h2 h3 hs h5 h6]; rfl
/-- what a name says of its kind -/
theorem name_of {x : Elm} (h : chkI x = 0) : nmK x.n = x.k ∧ 1 ≤ x.k ∧ x.k ≤ 8 ∧ byt x.n 0 = ltr x.k ∧ 2 ≤ x.n.size ∧ ndF x.a = true ∧ ndF x.b = true := by
  obtain ⟨h1, h2, h3, h4, h5, h6⟩ := chk0 h
  unfold naF at h2
  simp only [Bool.and_eq_true] at h2
  obtain ⟨⟨⟨⟨q1, q2⟩, q3⟩, q4⟩, q5⟩ := h2
  have e1 : nmK x.n ≠ 0 := by simpa using q1
  have e2 : nmK x.n = x.k := by simpa using q2
  have e3 : (2 ≤ x.n.size ∧ x.n.size ≤ 16) ∧ plF x.n 1 = true := by
    by_cases q : (2 ≤ x.n.size ∧ x.n.size ≤ 16) ∧ plF x.n 1 = true
    · exact q
    · exact absurd (if_neg q) e1
  have e4 : nmK x.n = ofK (byt x.n 0) := if_pos e3
  have e5 := ltr_of (c := byt x.n 0) (by rw [← e4]; exact e1)
  have e6 := nmK_le x.n
  refine ⟨e2, by omega, by omega, ?_, e3.1.1, q3, q4⟩
  rw [← e2, e4]; exact e5.symm
theorem abv_of {k : Nat} (h1 : 1 ≤ k) (h8 : k ≤ 8) : abv k = (!phs k && !fou k) := by
  rcases (show k = 1 ∨ k = 2 ∨ k = 3 ∨ k = 4 ∨ k = 5 ∨ k = 6 ∨ k = 7 ∨ k = 8 from by omega) with rfl | rfl | rfl | rfl | rfl | rfl | rfl | rfl <;> rfl
theorem phs_of (k : Nat) : phs k = (k == 4 || k == 5) := by
  by_cases h4 : k = 4
  · subst h4; rfl
  · by_cases h5 : k = 5
    · subst h5; rfl
    · have : phs k = false := by unfold phs; split <;> first | contradiction | rfl
      rw [this]; simp [h4, h5]
theorem fou_of (k : Nat) : fou k = (k == 6 || k == 7) := by
  by_cases h4 : k = 6
  · subst h4; rfl
  · by_cases h5 : k = 7
    · subst h5; rfl
    · have : fou k = false := by unfold fou; split <;> first | contradiction | rfl
      rw [this]; simp [h4, h5]
/-- is a real finite? -/
def fnB (v : Nat) : Bool := decide (¬ 2 < kdB v)
theorem kd_inf {v : Nat} : (2 < kdB v) ↔ (nan v = true ∨ mg v = 9218868437227405312) := by
  unfold kdB
  by_cases hn : nan v = true
  · rw [if_pos hn]; simp [hn]
  · rw [if_neg hn]
    by_cases hm : mg v = 9218868437227405312
    · rw [if_pos hm]; simp [hm]
    · rw [if_neg hm]
      simp only [hn, hm]
      constructor
      · intro q
        split at q
        · omega
        · split at q <;> omega
      · intro q
        simp at q
def ifB (v : Nat) : Bool := !nan v && (mg v == 9218868437227405312)
theorem vabs_any (x : Nat) (w : World) (hx : x < 18446744073709551616) : Calls Try.prog 40 #[.float .f64 x] w fun e w' => e = .returned (.float .f64 (mg x)) ∧ w' = w := by
  have ha := andNot_sign x hx
  go_enter Try.func40, Try.ntmps40
  go_wp2_with fail
  go_ret
  exact ⟨rfl, rfl⟩
theorem gt_max {x : Nat} (hn : nan x = false) : (FloatKind.f64.format.order (mg x) 9218868437227405311 == some .gt) = (mg x == 9218868437227405312) := by
  have h1 := not_nan hn
  have h2 := mg_lt x
  have hm : mg (mg x) = mg x := Nat.mod_eq_of_lt h2
  have hg : ng (mg x) = false := by unfold ng; rw [Nat.div_eq_of_lt h2]; rfl
  have hn2 : nan (mg x) = false := by unfold nan at hn ⊢; rw [hm]; exact hn
  rw [order_gt hn2 (by decide)]
  have hp : plc (mg x) = (mg x : Int) := by unfold plc; rw [hg, hm]; rfl
  have hq : plc 9218868437227405311 = 9218868437227405311 := by decide
  rw [hp, hq, Bool.eq_iff_iff]
  simp
  omega
theorem gt_nan {x : Nat} (hn : nan x = true) : (FloatKind.f64.format.order (mg x) 9218868437227405311 == some .gt) = false := by
  have h2 := mg_lt x
  have hm : mg (mg x) = mg x := Nat.mod_eq_of_lt h2
  have hn2 : nan (mg x) = true := by unfold nan at hn ⊢; rw [hm]; exact hn
  show (Ieee.double.order (mg x) 9218868437227405311 == some .gt) = false
  rw [order_eq, hn2]; rfl
theorem isinf_any (x : Nat) (w : World) (hx : x < 18446744073709551616) : Calls Try.prog 25 #[.float .f64 x, .int .i64 0] w fun e w' => e = .returned (.bool (ifB x)) ∧ w' = w := by
  have hv : (FloatKind.f64.format.order (mg x) 9218868437227405311 == some .gt) = ifB x := by
    unfold ifB
    cases hn : nan x
    · rw [gt_max hn]; rfl
    · rw [gt_nan hn]; rfl
  go_enter Try.func25, Try.ntmps25
  go_wp2_with (first | (go_at_call 40; (with_reducible refine (vabs_any _ _ hx).mono ?_); rintro e w1 ⟨rfl, hw⟩; subst w1))
  go_ret
  exact ⟨rfl, rfl⟩
theorem fn_of (v : Nat) : fnB v = (!ifB v && (FloatKind.f64.format.order v v == some .eq)) := by
  unfold fnB
  rw [order_self]
  have hk := kd_inf (v := v)
  cases hn : nan v
  · by_cases hm : mg v = 9218868437227405312
    · have : 2 < kdB v := hk.2 (.inr hm)
      simp [ifB, hn, hm, this]
    · have : ¬ 2 < kdB v := fun q => (hk.1 q).elim (fun h => by rw [hn] at h; cases h) hm
      simp [ifB, hn, hm, this]
  · have : 2 < kdB v := hk.2 (.inl hn)
    simp [ifB, hn, this]
end Go.Proofs.Ytbmoilgiifondaa
