/-
  What apart of the package quantity hands back.
-/
import Derived.Test.YtjoncbfaajcioaaGreatDoorQsp
import Derived.Test.YtjoncbfaajcioaaGreatDoorBqd
namespace Go.Proofs.YtjoncbfaajcioaaGreatDoor
open RowKit

theorem apart_num {m q r : Nat} (h : m = q * 4503599627370496 + r) (hr : r < 4503599627370496) : (q = 0 → Fl.sig m = r ∧ Fl.ex m = 0) ∧ (q ≠ 0 → Fl.sig m = r + 4503599627370496 ∧ Fl.ex m + 1 = q) := by
  have hd : m / 4503599627370496 = q := by omega
  have hm : m % 4503599627370496 = r := by omega
  refine ⟨fun h0 => ?_, fun h0 => ?_⟩
  · subst h0
    unfold Fl.sig Fl.ex
    rw [if_pos (by omega), hd]
    omega
  · unfold Fl.sig Fl.ex
    rw [if_neg (by omega), hd, hm]
    omega
theorem apart_fin {a b c d : Int} (h1 : a = b) (h2 : c = d) : Ending.returned (Value.tuple #[.int .u64 a, .int .i64 c]) = .returned (.tuple #[.int .u64 b, .int .i64 d]) := by rw [h1, h2]
set_option maxRecDepth 10000 in
theorem apart_any (x : Nat) (hx : x < 18446744073709551616) (w : World) :
    Calls Tryz.prog 134 #[.float .f64 x] w fun e w' => e = .returned (.tuple #[.int .u64 ((Fl.sig (Fl.mg x) : Nat) : Int), .int .i64 (-1074 + (Fl.ex (Fl.mg x) : Int))]) ∧ w' = w := by
  have ha := andNot_sign x hx
  have hmb : Fl.mg x < 9223372036854775808 := Nat.mod_lt _ (by decide)
  obtain ⟨m, hm⟩ : ∃ m, Fl.mg x = m := ⟨_, rfl⟩
  rw [hm] at ha hmb ⊢
  obtain ⟨q, r, hr, hqr⟩ : ∃ q r : Nat, r < 4503599627370496 ∧ m = q * 4503599627370496 + r := ⟨m / 4503599627370496, m % 4503599627370496, Nat.mod_lt _ (by decide), by omega⟩
  obtain ⟨n1, n2⟩ := apart_num hqr hr
  have t1 : (m : Int).tmod 4503599627370496 = (r : Int) := by rw [Int.tmod_eq_emod_of_nonneg (by omega)]; omega
  have t2 : (m : Int) / 4503599627370496 = (q : Int) := by omega
  have t3 : wrap64 (q : Int) = (q : Int) := by unfold wrap64; omega
  have HR : Hid (r < 4503599627370496) := hr
  have HQ : Hid (q < 2048) := by show _ < _; omega
  obtain ⟨sg, hsg⟩ : ∃ sg, Fl.sig m = sg := ⟨_, rfl⟩
  obtain ⟨xx, hxx⟩ : ∃ xx, Fl.ex m = xx := ⟨_, rfl⟩
  rw [hsg, hxx] at n1 n2 ⊢
  clear hx hmb hr hqr hm hsg hxx
  by_cases h0 : q = 0
  · obtain ⟨rfl, rfl⟩ := n1 h0
    subst h0
    clear n1 n2
    go_enter Tryz.func134, Tryz.ntmps134
    go_wp2
    go_ret2
    exact ⟨rfl, rfl⟩
  · obtain ⟨rfl, e2⟩ := n2 h0
    have hqI : ((q : Int) == 0) = false := by simp; omega
    clear n1 n2
    go_enter Tryz.func134, Tryz.ntmps134
    go_wp2
    go_ret2
    have hrq := HR.out
    have hqq := HQ.out
    refine ⟨apart_fin ?_ ?_, rfl⟩
    · rw [IntKind.wrap_u64]; omega
    · have e5 : ∀ y : Int, -100000 ≤ y → y ≤ 100000 → wrap64 y = y := fun y h0 h1 => by unfold wrap64; omega
      rw [e5 (-1074 + (q : Int)) (by omega) (by omega), e5 (-1074 + (q : Int) - 1) (by omega) (by omega)]
      omega

end Go.Proofs.YtjoncbfaajcioaaGreatDoor
