/-
  What pivot's Choose hands back.
-/
import Derived.Test.YtgpjlobclcbniaaXa
namespace Go.Proofs.Ytgpjlobclcbniaa
open Fl RowKit

def chE (xs : List Cw) (fr : Int) : Int :=
  if 64 < xs.length then 3 else if ¬ (0 ≤ fr ∧ fr < (xs.length : Int)) then 2 else if finL (xs.drop fr.toNat) (xs.length - fr.toNat) = false then 5 else if (hv (xs.drop fr.toNat)).2 = 0 then 7 else 0
def chI (xs : List Cw) (fr : Int) : Int := if chE xs fr = 0 then fr + ((hv (xs.drop fr.toNat)).1 : Nat) else 0
theorem chE_3 {xs : List Cw} {fr : Int} (h : 64 < xs.length) : chE xs fr = 3 := if_pos h
theorem chE_2 {xs : List Cw} {fr : Int} (h : ¬ 64 < xs.length) (h2 : ¬ (0 ≤ fr ∧ fr < (xs.length : Int))) : chE xs fr = 2 := by unfold chE; rw [if_neg h, if_pos h2]
theorem chE_5 {xs : List Cw} {f : Nat} (h : ¬ 64 < xs.length) (h2 : f < xs.length) (h3 : finL (xs.drop f) (xs.length - f) = false) : chE xs f = 5 := by
  unfold chE; rw [if_neg h, if_neg (by omega), Int.toNat_natCast, if_pos h3]
theorem chE_7 {xs : List Cw} {f : Nat} (h : ¬ 64 < xs.length) (h2 : f < xs.length) (h3 : finL (xs.drop f) (xs.length - f) = true) (h4 : (hv (xs.drop f)).2 = 0) : chE xs f = 7 := by
  unfold chE; rw [if_neg h, if_neg (by omega), Int.toNat_natCast, if_neg (by rw [h3]; decide), if_pos h4]
theorem chE_0 {xs : List Cw} {f : Nat} (h : ¬ 64 < xs.length) (h2 : f < xs.length) (h3 : finL (xs.drop f) (xs.length - f) = true) (h4 : ¬ (hv (xs.drop f)).2 = 0) : chE xs f = 0 := by
  unfold chE; rw [if_neg h, if_neg (by omega), Int.toNat_natCast, if_neg (by rw [h3]; decide), if_neg h4]
theorem chI_n {xs : List Cw} {fr : Int} (h : ¬ chE xs fr = 0) : chI xs fr = 0 := if_neg h
theorem chI_0 {xs : List Cw} {f : Nat} (h : chE xs f = 0) : chI xs f = ((f + (hv (xs.drop f)).1 : Nat) : Int) := by
  unfold chI; rw [if_pos h, Int.toNat_natCast]; omega
theorem zat_drop (xs : List Cw) (f k : Nat) : zat (xs.drop f) k = zat xs (f + k) := by
  unfold zat
  rw [List.getD_eq_getElem?_getD, List.getD_eq_getElem?_getD, List.getElem?_drop]
theorem okl_drop {xs : List Cw} (h : okl xs) (f : Nat) : okl (xs.drop f) := fun k => by rw [zat_drop]; exact h _
theorem rc_drop {w : World} {b off : Nat} {xs : List Cw} (h : Rc w (some ⟨b, off, none⟩) xs) (f : Nat) : Rc w (some ⟨b, off + f, none⟩) (xs.drop f) := by
  intro k hk
  rw [List.length_drop] at hk
  obtain ⟨b', off', h1, h2, h3⟩ := h (f + k) (by omega)
  cases h1
  exact ⟨b, off + f, rfl, h2, by rw [zat_drop, Nat.add_assoc]; exact h3⟩
theorem hv_lt (xs : List Cw) : (hv xs).1 ≤ xs.length := by
  rcases fstG_at (wts xs) xs.length with ⟨_, h⟩ | ⟨_, h, _⟩
  · unfold hv; omega
  · unfold hv; omega
theorem pfin_len {W : World} {ao : Option Addr} {n cap : Nat} {xs : List Cw} (hn : xs.length = n) (hsz : n ≤ 4096) (hc : Rc W ao xs) (hx : okl xs) :
    Calls Try.prog 43 #[.slice ao n cap] W fun e w' => e = .returned (.bool (finL xs n)) ∧ w' = W := by
  subst hn
  exact pfin_any ao cap xs W (by omega) hc hx
theorem pheav_len {W : World} {ao : Option Addr} {n cap : Nat} {xs : List Cw} (hn : xs.length = n) (hsz : n ≤ 4096) (hc : Rc W ao xs) (hx : okl xs) (hf : finL xs n = true) :
    Calls Try.prog 44 #[.slice ao n cap] W fun e w' => ∃ m, e = .returned (.tuple #[.int .i64 ((hv xs).1 : Nat), .float .f64 (hv xs).2]) ∧ w' = W.drewN m := by
  subst hn
  exact pheav_any ao cap xs W (by omega) hc hx hf
set_option maxHeartbeats 1000000 in
theorem choose_any (ao : Option Addr) (cap : Nat) (xs : List Cw) (fr : Int) (w : World) (hsz : xs.length * 16 ≤ 140737488355328) (hcap : xs.length ≤ cap) (hc : Rc w ao xs) (hx : okl xs) :
    Calls Try.prog 11 #[.slice ao xs.length cap, .int .i64 fr] w fun e w' => ∃ m, e = .returned (.tuple #[.int .i64 (chI xs fr), .int .i64 (chE xs fr)]) ∧ w' = w.drewN m := by
  by_cases h1 : 64 < xs.length
  · have e0 := chE_3 (fr := fr) h1
    rw [chI_n (by rw [e0]; decide), e0]
    clear hc hx
    go_enter Try.func11, Try.ntmps11
    go_wp2
    go_ret2
    exact ⟨0, rfl, rfl⟩
  by_cases h2 : 0 ≤ fr ∧ fr < (xs.length : Int)
  case neg =>
    have e0 := chE_2 h1 h2
    rw [chI_n (by rw [e0]; decide), e0]
    clear hc hx e0
    have hd := decide_eq_false h2
    clear h2
    go_enter Try.func11, Try.ntmps11
    go_wp2_with (go_at_call 42; (with_reducible refine (pwithin_any _ _ _).mono ?_); rintro e w' ⟨rfl, rfl⟩; rw [hd])
    go_ret2
    exact ⟨0, rfl, rfl⟩
  have hd := decide_eq_true h2
  obtain ⟨f, rfl⟩ : ∃ f : Nat, fr = f := ⟨fr.toNat, by omega⟩
  obtain ⟨b, off, rfl, hb, _⟩ := hc 0 (by omega)
  have hf : f < xs.length := by omega
  have hcd := rc_drop hc f
  have hxd := okl_drop hx f
  have hl : (xs.drop f).length = xs.length - f := List.length_drop
  have hhv := hv_lim (xs.drop f)
  have hhl := hv_lt (xs.drop f)
  rw [hl] at hhl
  have E5 := chE_5 h1 hf
  have E7 := chE_7 h1 hf
  have E0 := chE_0 h1 hf
  have I0 := chI_0 (xs := xs) (f := f)
  have In := chI_n (xs := xs) (fr := f)
  obtain ⟨ys, hys⟩ : ∃ ys, ys = xs.drop f := ⟨_, rfl⟩
  rw [← hys] at hcd hxd hl E5 E7 E0 I0 hhv hhl
  obtain ⟨n, hn⟩ : ∃ n, n = xs.length := ⟨_, rfl⟩
  rw [← hn] at h1 hsz hcap hd hl hhl hf E5 E7 E0 ⊢
  obtain ⟨E, hE⟩ : ∃ E, E = chE xs f := ⟨_, rfl⟩
  obtain ⟨I, hI⟩ : ∃ I, I = chI xs f := ⟨_, rfl⟩
  rw [← hE] at E5 E7 E0 I0 In
  rw [← hI] at I0 In
  rw [← hE, ← hI]
  have HL : Hid (ys.length = n - f) := hl
  clear hc hx hys hn hE hI hl h2
  cases h3 : finL ys (n - f)
  · have e5 := E5 h3
    subst e5
    have i0 := In (by decide)
    subst i0
    clear E5 E7 E0 I0 In
    go_enter Try.func11, Try.ntmps11
    go_wp2_with (first
      | (go_at_call 42; (with_reducible refine (pwithin_any _ _ _).mono ?_); rintro e w' ⟨rfl, rfl⟩; rw [hd])
      | (go_at_call 43; (with_reducible refine (pfin_len HL.out (by omega) hcd hxd).mono ?_); rintro e w' ⟨rfl, rfl⟩; rw [h3]))
    go_ret2
    exact ⟨0, rfl, rfl⟩
  · by_cases h4 : (hv ys).2 = 0
    · have e5 := E7 h3 h4
      subst e5
      have i0 := In (by decide)
      subst i0
      clear E5 E7 E0 I0 In
      have q0 : FloatKind.f64.format.order 0 0 = some .eq := by kernel_rfl
      go_enter Try.func11, Try.ntmps11
      go_wp2_with (first
        | (go_at_call 42; (with_reducible refine (pwithin_any _ _ _).mono ?_); rintro e w' ⟨rfl, rfl⟩; rw [hd])
        | (go_at_call 43; (with_reducible refine (pfin_len HL.out (by omega) hcd hxd).mono ?_); rintro e w' ⟨rfl, rfl⟩; rw [h3])
        | (go_at_call 44; (with_reducible refine (pheav_len HL.out (by omega) hcd hxd h3).mono ?_); rintro e w' ⟨m, rfl, rfl⟩; rw [h4]))
      go_ret2
      exact ⟨m, rfl, rfl⟩
    · have e5 := E0 h3 h4
      subst e5
      have i0 := I0 rfl
      subst i0
      clear E5 E7 E0 I0 In
      have q0 := ord_gt hhv (Nat.zero_le _) (by omega : 0 < (hv ys).2)
      go_enter Try.func11, Try.ntmps11
      go_wp2_with (first
        | (go_at_call 42; (with_reducible refine (pwithin_any _ _ _).mono ?_); rintro e w' ⟨rfl, rfl⟩; rw [hd])
        | (go_at_call 43; (with_reducible refine (pfin_len HL.out (by omega) hcd hxd).mono ?_); rintro e w' ⟨rfl, rfl⟩; rw [h3])
        | (go_at_call 44; (with_reducible refine (pheav_len HL.out (by omega) hcd hxd h3).mono ?_); rintro e w' ⟨m, rfl, rfl⟩))
      go_ret2
      exact ⟨m, by first | rfl | (congr 3; go_num), rfl⟩

end Go.Proofs.Ytgpjlobclcbniaa
