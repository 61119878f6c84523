/-
  Admittances: the elements of the examples; what the statements ask ahead (lives).
-/
import Derived.Test.YtnmibhgfcepddaaAdh
namespace Go.Proofs.Ytnmibhgfcepddaa
open Fl RowKit
set_option linter.unusedVariables false

def chV (k v : Nat) : Int := if 2 < kdB v then 5 else if abv k = true ∧ posV v = false then 2 else 0
theorem eK_ok {k v : Nat} (hk : k < 256) (hv : v < 18446744073709551616) : (eK k v).ok :=
  ⟨hk, by show 2 ≤ _; omega, by show 1 ≤ _; omega, by show 1 ≤ _; omega, by show 0 ≤ _; omega, by show 0 ≤ _; omega, hv⟩
theorem naF_1 (v : Nat) : naF (eK 1 v) = true := (by kernel_rfl : naF (eK 1 0) = true)
theorem naF_2 (v : Nat) : naF (eK 2 v) = true := (by kernel_rfl : naF (eK 2 0) = true)
theorem naF_3 (v : Nat) : naF (eK 3 v) = true := (by kernel_rfl : naF (eK 3 0) = true)
theorem naF_4 (v : Nat) : naF (eK 4 v) = true := (by kernel_rfl : naF (eK 4 0) = true)
theorem naF_8 (v : Nat) : naF (eK 8 v) = true := (by kernel_rfl : naF (eK 8 0) = true)
def kSix (k : Nat) : Prop := k = 1 ∨ k = 2 ∨ k = 3 ∨ k = 4 ∨ k = 8
theorem chk_eK {k v : Nat} (hk : kSix k) : chkI (eK k v) = chV k v := by
  have hl : ¬ ltr k = 0 := by
    rcases hk with rfl | rfl | rfl | rfl | rfl
    all_goals decide
  have hn : ¬ naF (eK k v) = false := by
    rcases hk with rfl | rfl | rfl | rfl | rfl
    · rw [naF_1]; simp
    · rw [naF_2]; simp
    · rw [naF_3]; simp
    · rw [naF_4]; simp
    · rw [naF_8]; simp
  have hs : ¬ (((eK k v).a.data.toList == (eK k v).b.data.toList) = true ∨ spJ (eK k v) = false) := by
    rcases hk with rfl | rfl | rfl | rfl | rfl
    all_goals
      intro q
      rcases q with q | q
      · cases q
      · cases q
  rw [chkI_J]
  unfold chkJ
  rw [if_neg (show ¬ ltr (eK k v).k = 0 from hl), if_neg hn, if_neg hs]
  rfl
def ckK (k v o : Nat) : Int := if frI o = 0 then chV k v else frI o
def adK (k v o : Nat) : Tr3 := if ckK k v o = 0 then (if k = 1 ∨ k = 8 then toA (dW v) 0 else if k = 3 then prA o v else if k = 2 then ovA o v else (0, 0, 2)) else (0, 0, ckK k v o)
def imK (k v o : Nat) : Tr3 := if ckK k v o = 0 then (if k = 1 ∨ k = 8 then (v, 0, 0) else if k = 2 then prA o v else if k = 3 then ovA o v else (0, 0, 2)) else (0, 0, ckK k v o)
theorem ck_K {k v o : Nat} (hk : kSix k) : ckA (eK k v) o = ckK k v o := by unfold ckA ckK; rw [chk_eK hk]
theorem of_K {k v o : Nat} (hk : kSix k) : ofT (eK k v) o = adK k v o := by unfold ofT adK; rw [ck_K hk]; rfl
theorem im_K {k v o : Nat} (hk : kSix k) : imT (eK k v) o = imK k v o := by unfold imT imK; rw [ck_K hk]; rfl
theorem of_l (k c v o : Nat) (hk : kSix k) (hc : UInt8.ofNat (ltr k) = UInt8.ofNat c) (hv : v < 18446744073709551616) (ho : o < 18446744073709551616) (u : Tr3) (hu : adK k v o = u) (w : World) :
    Calls Try.prog 10 #[.agg #[.int .u8 (k : Int), .string ⟨#[UInt8.ofNat c, 49]⟩, .string ⟨#[49]⟩, .string ⟨#[48]⟩, .string ⟨#[]⟩, .string ⟨#[]⟩, .float .f64 v, .int .i64 0], .float .f64 o] w fun e w' => e = .returned (.tuple #[.complex .f64 u.1 u.2.1, .int .i64 u.2.2]) ∧ Below w.heap.size w w' := by
  have h8 : k < 256 := by unfold kSix at hk; omega
  have h := aof_any (eK k v) o w (eK_ok h8 hv) ho
  rw [of_K hk, hu] at h
  unfold elV eK at h
  rw [hc] at h
  exact h
theorem im_l (k c v o : Nat) (hk : kSix k) (hc : UInt8.ofNat (ltr k) = UInt8.ofNat c) (hv : v < 18446744073709551616) (ho : o < 18446744073709551616) (u : Tr3) (hu : imK k v o = u) (w : World) :
    Calls Try.prog 11 #[.agg #[.int .u8 (k : Int), .string ⟨#[UInt8.ofNat c, 49]⟩, .string ⟨#[49]⟩, .string ⟨#[48]⟩, .string ⟨#[]⟩, .string ⟨#[]⟩, .float .f64 v, .int .i64 0], .float .f64 o] w fun e w' => e = .returned (.tuple #[.complex .f64 u.1 u.2.1, .int .i64 u.2.2]) ∧ Below w.heap.size w w' := by
  have h8 : k < 256 := by unfold kSix at hk; omega
  have h := aimp_any (eK k v) o w (eK_ok h8 hv) ho
  rw [im_K hk, hu] at h
  unfold elV eK at h
  rw [hc] at h
  exact h
theorem oeqn (x : Nat) (h : nan x = false) : FloatKind.f64.format.order x x = some .eq := order_num h
theorem bt17 {a b c : World} (h : Below a.heap.size a b) (k : Below b.heap.size b c) : Below a.heap.size a c := h.trans (k.mono h.size)
set_option maxRecDepth 100000 in
set_option maxHeartbeats 1000000 in
theorem lives17 (w : World) : Calls Try.prog 16 #[] w fun e w' => e = .returned (.bool true) ∧ Below w.heap.size w w' := by
  have h1 : Hid (∀ W, Calls Try.prog 10 #[.agg #[.int .u8 2, .string ⟨#[76, 49]⟩, .string ⟨#[49]⟩, .string ⟨#[48]⟩, .string ⟨#[]⟩, .string ⟨#[]⟩, .float .f64 4611686018427387904, .int .i64 0], .float .f64 4611686018427387904] W fun e w' => e = .returned (.tuple #[.complex .f64 0 13821547256400052224, .int .i64 0]) ∧ Below W.heap.size W w') := of_l 2 76 4611686018427387904 4611686018427387904 (.inr (.inl rfl)) rfl (by decide) (by decide) (0, 13821547256400052224, 0) (by kernel_rfl)
  have h2 : Hid (∀ W, Calls Try.prog 11 #[.agg #[.int .u8 3, .string ⟨#[67, 49]⟩, .string ⟨#[49]⟩, .string ⟨#[48]⟩, .string ⟨#[]⟩, .string ⟨#[]⟩, .float .f64 4602678819172646912, .int .i64 0], .float .f64 4611686018427387904] W fun e w' => e = .returned (.tuple #[.complex .f64 0 13830554455654793216, .int .i64 0]) ∧ Below W.heap.size W w') := im_l 3 67 4602678819172646912 4611686018427387904 (.inr (.inr (.inl rfl))) rfl (by decide) (by decide) (0, 13830554455654793216, 0) (by kernel_rfl)
  have o0 := oeqn 0 (by decide)
  have o1 := oeqn 13821547256400052224 (by decide)
  have o2 := oeqn 13830554455654793216 (by decide)
  go_enter Try.func16, Try.ntmps16
  go_wp2_with (first
    | (go_at_call 23; (with_reducible refine (of17_2 _ _).mono ?_); rintro e w1 ⟨rfl, hb1⟩; (have B1 : Hid (Below w.heap.size w w1) := hb1); clear hb1)
    | (go_at_call 10; (with_reducible refine (h1.out _).mono ?_); rintro e w2 ⟨rfl, hb2⟩; (have B2 : Hid (Below w.heap.size w w2) := bt17 B1.out hb2); clear hb2 B1)
    | (go_at_call 23; (with_reducible refine (of17_3 _ _).mono ?_); rintro e w3 ⟨rfl, hb3⟩; (have B3 : Hid (Below w.heap.size w w3) := bt17 B2.out hb3); clear hb3 B2)
    | (go_at_call 11; (with_reducible refine (h2.out _).mono ?_); rintro e w4 ⟨rfl, hb4⟩; (have B4 : Hid (Below w.heap.size w w4) := bt17 B3.out hb4); clear hb4 B3))
  go_ret
  exact ⟨rfl, B4.out⟩
end Go.Proofs.Ytnmibhgfcepddaa
