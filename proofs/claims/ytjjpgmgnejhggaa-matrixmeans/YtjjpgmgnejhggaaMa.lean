/-
  Matrices: which may be, their entries and rows as package matrix reads them.
-/
import Derived.Test.YtjjpgmgnejhggaaVt
namespace Go.Proofs.Ytjjpgmgnejhggaa
open Fl RowKit

/-- may a matrix be? -/
def mb (R C : Int) (n : Nat) : Bool := decide (0 ≤ R ∧ R ≤ 64 ∧ 0 ≤ C ∧ C ≤ 64 ∧ (n : Int) = R * C)
def cnt (n : Int) : Bool := decide (0 ≤ n ∧ n ≤ 64)
theorem cnt_any (n : Int) (w : World) : Calls Try.prog 95 #[.int .i64 n] w fun e w' => e = .returned (.bool (cnt n)) ∧ w' = w := by
  by_cases h1 : 0 ≤ n
  · by_cases h2 : n ≤ 64
    · have e : cnt n = true := decide_eq_true ⟨h1, h2⟩
      rw [e]
      go_enter Try.func95, Try.ntmps95
      go_wp2
      go_ret
      exact ⟨rfl, rfl⟩
    · have e : cnt n = false := decide_eq_false (fun h => h2 h.2)
      rw [e]
      go_enter Try.func95, Try.ntmps95
      go_wp2
      go_ret
      exact ⟨rfl, rfl⟩
  · have e : cnt n = false := decide_eq_false (fun h => h1 h.1)
    rw [e]
    go_enter Try.func95, Try.ntmps95
    go_wp2
    go_ret
    exact ⟨rfl, rfl⟩
theorem within_any (i n : Int) (w : World) : Calls Try.prog 72 #[.int .i64 i, .int .i64 n] w fun e w' => e = .returned (.bool (decide (0 ≤ i ∧ i < n))) ∧ w' = w := by
  by_cases h1 : 0 ≤ i
  · by_cases h2 : i < n
    · rw [decide_eq_true (show 0 ≤ i ∧ i < n from ⟨h1, h2⟩)]
      go_enter Try.func72, Try.ntmps72
      go_wp2
      go_ret
      exact ⟨rfl, rfl⟩
    · rw [decide_eq_false (show ¬ (0 ≤ i ∧ i < n) from fun h => h2 h.2)]
      go_enter Try.func72, Try.ntmps72
      go_wp2
      go_ret
      exact ⟨rfl, rfl⟩
  · rw [decide_eq_false (show ¬ (0 ≤ i ∧ i < n) from fun h => h1 h.1)]
    go_enter Try.func72, Try.ntmps72
    go_wp2
    go_ret
    exact ⟨rfl, rfl⟩

theorem wrap_small {z : Int} (h0 : 0 ≤ z) (h1 : z ≤ 1000000) : wrap64 z = z := by
  unfold wrap64
  omega
theorem mb_val {R C : Int} {n : Nat} (h1 : cnt R = true) (h2 : cnt C = true) : mb R C n = ((n : Int) == wrap64 (R * C)) := by
  obtain ⟨a, b⟩ := of_decide_eq_true h1
  obtain ⟨c, d⟩ := of_decide_eq_true h2
  have e0 : 0 ≤ R * C := Int.mul_nonneg a c
  have e1 : R * C ≤ 64 * 64 := Int.mul_le_mul b d c (by omega)
  rw [wrap_small e0 (by omega)]
  unfold mb
  by_cases h : (n : Int) = R * C
  · rw [decide_eq_true ⟨a, b, c, d, h⟩, h]; exact (beq_self_eq_true _).symm
  · rw [decide_eq_false (fun k => h k.2.2.2.2)]; exact (beq_false_of_ne h).symm
theorem mb_no1 {R C : Int} {n : Nat} (h1 : cnt R = false) : mb R C n = false := decide_eq_false (fun k => of_decide_eq_false h1 ⟨k.1, k.2.1⟩)
theorem mb_no2 {R C : Int} {n : Nat} (h1 : cnt C = false) : mb R C n = false := decide_eq_false (fun k => of_decide_eq_false h1 ⟨k.2.2.1, k.2.2.2.1⟩)
theorem mayBe_any (R C : Int) (A : Option Addr) (n c : Nat) (w : World) (_hn : n ≤ 1000000000000000) :
    Calls Try.prog 63 #[.agg #[.int .i64 R, .int .i64 C, .slice A n c]] w fun e w' => e = .returned (.bool (mb R C n)) ∧ w' = w.alloc (.cells #[.int .i64 R, .int .i64 C, .slice A n c] 28) := by
  cases h1 : cnt R <;> cases h2 : cnt C
  all_goals
    first | rw [mb_no1 h1] | rw [mb_no2 h2] | rw [mb_val h1 h2]
    go_enter Try.func63, Try.ntmps63
    go_wp2_with (go_at_call 95; refine (cnt_any _ _).mono ?_; rintro e w' ⟨rfl, rfl⟩)
    go_ret
    exact ⟨rfl, rfl⟩
/-- places: row i, column j -/
theorem place_lt {R C i j : Nat} (hi : i < R) (hj : j < C) : i * C + j < R * C := by
  have h1 : (i + 1) * C ≤ R * C := Nat.mul_le_mul_right _ (by omega)
  rw [Nat.succ_mul] at h1
  omega
theorem le_4096 {R C : Nat} (hR : R ≤ 64) (hC : C ≤ 64) : R * C ≤ 4096 := Nat.mul_le_mul hR hC
theorem wrap_mul {i C : Nat} (hi : i ≤ 1000) (hC : C ≤ 1000) : wrap64 ((i : Int) * (C : Int)) = ((i * C : Nat) : Int) := by
  have := Nat.mul_le_mul hi hC
  rw [← Int.natCast_mul]
  exact wrap_small (by omega) (by omega)
theorem at_any (R C i j : Nat) (A : Option Addr) (c : Nat) (xs : List Cw) (w : World) (hn : xs.length = R * C) (hR : R ≤ 64) (hC : C ≤ 64) (hi : i < R) (hj : j < C) (hc : Rc w A xs) :
    Calls Try.prog 71 #[.agg #[.int .i64 R, .int .i64 C, .slice A (R * C) c], .int .i64 i, .int .i64 j] w fun e w' => e = .returned (cx (zat xs (i * C + j))) ∧ w' = w.alloc (.cells #[.int .i64 R, .int .i64 C, .slice A (R * C) c] 28) := by
  have hk := place_lt hi hj
  have h4 := le_4096 hR hC
  obtain ⟨b, off, rfl, hb, hcx⟩ := hc (i * C + j) (by omega)
  have hm := wrap_mul (i := i) (C := C) (by omega) (by omega)
  obtain ⟨x, hx⟩ : ∃ x, x = zat xs (i * C + j) := ⟨_, rfl⟩
  rw [← hx] at hcx ⊢
  obtain ⟨k, hke⟩ : ∃ k, k = i * C := ⟨_, rfl⟩
  obtain ⟨n, hne⟩ : ∃ n, n = R * C := ⟨_, rfl⟩
  rw [← hke] at hm hk hcx
  rw [← hne] at hk h4 ⊢
  clear hn hc hke hne hx
  unfold cx at hcx ⊢
  go_enter Try.func71, Try.ntmps71
  go_wp2
  go_ret
  exact ⟨rfl, rfl⟩
/-- row i of a list of rows of C -/
def rowL (C : Nat) (xs : List Cw) (i : Nat) : List Cw := (xs.drop (i * C)).take C
theorem rowL_len {R C i : Nat} {xs : List Cw} (hn : xs.length = R * C) (hi : i < R) : (rowL C xs i).length = C := by
  have h1 : (i + 1) * C ≤ R * C := Nat.mul_le_mul_right _ (by omega)
  rw [Nat.succ_mul] at h1
  simp [rowL]; omega
theorem rowL_at {C i j : Nat} {xs : List Cw} (hj : j < C) : zat (rowL C xs i) j = zat xs (i * C + j) := by
  simp [rowL, zat, List.getD_eq_getElem?_getD, hj, List.getElem?_drop]
theorem rowL_ok {C i : Nat} {xs : List Cw} (h : okl xs) : okl (rowL C xs i) := by
  intro j
  rcases Nat.lt_or_ge j C with hj | hj
  · rw [rowL_at hj]; exact h _
  · rw [zat_ge (by simp [rowL]; omega)]; exact ⟨by decide, by decide⟩
theorem row_any (R C i : Nat) (A : Option Addr) (c : Nat) (xs : List Cw) (w : World) (hn : xs.length = R * C) (hcap : R * C ≤ c) (hA : A = none ∧ R * C = 0 ∨ ∃ g off, A = some ⟨g, off, none⟩) (hR : R ≤ 64) (hC : C ≤ 64) (hi : i < R) (hc : Rc w A xs) :
    Calls Try.prog 68 #[.agg #[.int .i64 R, .int .i64 C, .slice A (R * C) c], .int .i64 i] w fun e w' => ∃ A' c', e = .returned (.slice A' C c') ∧ Rc w A' (rowL C xs i) ∧ w' = w.alloc (.cells #[.int .i64 R, .int .i64 C, .slice A (R * C) c] 28) := by
  have h1 : (i + 1) * C ≤ R * C := Nat.mul_le_mul_right _ (by omega)
  rw [Nat.succ_mul] at h1
  have h4 := le_4096 hR hC
  have hm := wrap_mul (i := i) (C := C) (by omega) (by omega)
  have hm2 := wrap_mul (i := i + 1) (C := C) (by omega) (by omega)
  rw [Nat.succ_mul, Int.natCast_add, Int.natCast_one] at hm2
  have hl := rowL_len hn hi
  have ha : ∀ j, j < C → zat (rowL C xs i) j = zat xs (i * C + j) := fun j hj => rowL_at hj
  obtain ⟨k, hke⟩ : ∃ k, k = i * C := ⟨_, rfl⟩
  obtain ⟨n, hne⟩ : ∃ n, n = R * C := ⟨_, rfl⟩
  rw [← hke] at hm hm2 h1
  rw [← hne] at h1 h4 hcap hA ⊢
  rcases hA with ⟨rfl, h0⟩ | ⟨g, off, rfl⟩
  · have hC0 : C = 0 := by omega
    have hk0 : k = 0 := by omega
    subst hC0 hk0 h0
    have HL : Hid ((rowL 0 xs i).length = 0) := hl
    clear hn hc hke hne hl ha
    go_enter Try.func68, Try.ntmps68
    go_wp2
    go_ret
    exact ⟨_, _, rfl, fun j hj => by have := HL.out; omega, rfl⟩
  · have HC : Hid (Rc w (some ⟨g, off, none⟩) xs) := hc
    have HL : Hid ((rowL C xs i).length = C) := hl
    have HA : Hid (∀ j, j < C → zat (rowL C xs i) j = zat xs (k + j)) := by rw [hke]; exact ha
    have HN : Hid (xs.length = n) := by rw [hne]; exact hn
    clear hn hc hke hne hl ha
    have key : Rc w (some ⟨g, off + k, none⟩) (rowL C xs i) := by
      intro j hj
      have hl := HL.out
      obtain ⟨b, o, h1', h2', h3'⟩ := HC.out (k + j) (by have := HN.out; omega)
      cases h1'
      exact ⟨g, off + k, rfl, h2', by rw [HA.out j (by omega), Nat.add_assoc]; exact h3'⟩
    have HK : Hid (Rc w (some ⟨g, off + k, none⟩) (rowL C xs i)) := key
    clear key
    go_enter Try.func68, Try.ntmps68
    go_wp2
    · go_ret
      exact ⟨_, ⟨_, rfl⟩, fun j hj => by have := HL.out; omega, rfl⟩
    · go_ret
      exact ⟨_, ⟨_, rfl⟩, HK.out, rfl⟩

end Go.Proofs.Ytjjpgmgnejhggaa
