/-
  TokensBack: the walk, whole.
-/
import Derived.Test.YtdcodajjcaipdaaDoorWTBa
import Derived.Test.YtdcodajjcaipdaaDoorWTBb
namespace Go.Proofs.YtdcodajjcaipdaaDoor
open RowKit Joins Deep
set_option linter.unusedVariables false

theorem erL_zeroB {l : List ByteArray} : ∀ {n : Nat}, (erL n l).1 = 0 → erL n l = (0, 0) := by
  induction l with
  | nil => intro n _; rfl
  | cons t r ih =>
    intro n h
    have e : erL n (t :: r) = if bdE t ≠ 0 then (bdE t, n) else erL (n + 1) r := rfl
    rw [e] at h ⊢
    by_cases q : bdE t ≠ 0
    · rw [if_pos q] at h; exact absurd h q
    · rw [if_neg q] at h ⊢; exact ih h
theorem back_walk (w : World) (hm : Mln w) (s : ByteArray) (hs : s.size ≤ 140737488351232) :
    Calls Tryd.prog 5 #[.string s] w fun e w' => e = .returned (.bool true) ∧ Below w.heap.size w w' := by
  by_cases h : s.size ≤ 65536
  · by_cases he : (erL 0 (liT s)).1 = 0
    · have hz : erL 0 (liT s) = (0, 0) := erL_zeroB he
      have hall : ∀ u ∈ liT s, bdE u = 0 := erL_all hz
      by_cases ho : (jnL (tkL 0 (liT s))).length ≤ 65536
      · by_cases hd : (liP s).length < (alP s).length
        · exact back_m1 w hm s h hz ho hd
        · refine back_m2 w hm s h hz ho ?_
          have : (liP s).length ≤ (alP s).length := by
            unfold liP
            split
            · rw [List.length_dropLast]; omega
            · exact Nat.le_refl _
          omega
      · refine back_over w hm s h hz ?_ (by omega)
        have h1 := jnL_len _ (tkL_of h hall)
        have h2 := liP_len s
        rw [tkL_len, liT_len] at h1
        omega
    · refine back_bad w hm s _ _ ?_ (cut_bad s w h hm (Prod.eta _).symm he)
      intro q; exact he (by omega)
  · exact back_bad w hm s 3 (-1) (by decide) (cut_long s w (by omega))
end Go.Proofs.YtdcodajjcaipdaaDoor
