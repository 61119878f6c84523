/-
  What the passes of package vector (paired, each, placed, summed) hand back, by what the function that they are handed says.
-/
import Derived.Test.YtlpfjaldmokdfaaVz
namespace Go.Proofs.Ytlpfjaldmokdfaa
open Fl RowKit

theorem paired_any (ao bo : Option Addr) (na nb ca cb : Nat) (w : World) (ha : na ≤ 1000000000000000) (hb : nb ≤ 1000000000000000) :
    Calls Try.prog 70 #[.slice ao na ca, .slice bo nb cb] w fun e w' => e = .returned (.int .i64 (errV na nb)) ∧ w' = w := by
  by_cases h1 : 65536 < na
  · have e0 : errV na nb = 3 := by unfold errV; rw [if_pos (Or.inl h1)]
    have h1' : (65536 : Int) < (na : Int) := by omega
    go_enter Try.func70, Try.ntmps70
    go_wp2
    go_ret
    exact ⟨by first | rfl | (rw [e0]; rfl), rfl⟩
  · have h1' : ¬ (65536 : Int) < (na : Int) := by omega
    by_cases h2 : 65536 < nb
    · have e0 : errV na nb = 3 := by unfold errV; rw [if_pos (Or.inr h2)]
      have h2' : (65536 : Int) < (nb : Int) := by omega
      go_enter Try.func70, Try.ntmps70
      go_wp2
      go_ret
      exact ⟨by first | rfl | (rw [e0]; rfl), rfl⟩
    · have h2' : ¬ (65536 : Int) < (nb : Int) := by omega
      by_cases h3 : na = nb
      · have e0 : errV na nb = 0 := by unfold errV; rw [if_neg (by omega), if_neg (by omega)]
        subst h3
        go_enter Try.func70, Try.ntmps70
        go_wp2
        go_ret
        exact ⟨by first | rfl | (rw [e0]; rfl), rfl⟩
      · have e0 : errV na nb = 4 := by unfold errV; rw [if_neg (by omega), if_pos (by omega)]
        have h3' : ¬ (na : Int) = (nb : Int) := by omega
        go_enter Try.func70, Try.ntmps70
        go_wp2
        go_ret
        exact ⟨by first | rfl | (rw [e0]; rfl), rfl⟩

/-- a function with a body is entered -/
def Ent (F : FuncId) : Prop := ∀ (args : Array Value) (w : World), (callFunc F args).run Try.prog w = .ok (.enter F args) w
/-- what a function value of one number says, in all worlds from w on -/
def Says1 (w : World) (F : FuncId) (caps : Array Value) (f : Cn → Cn) : Prop :=
  ∀ (p : Cw) (W : World), Below w.heap.size w W → okz p → Calls Try.prog F (#[cx p] ++ caps) W fun e W' => ∃ (r : Cw) (m : Nat), e = .returned (cx r) ∧ repz (f (anz p)) r ∧ W' = W.drewN m
def Says2 (w : World) (F : FuncId) (caps : Array Value) (f : Cn → Cn → Cn) : Prop :=
  ∀ (p q : Cw) (W : World), Below w.heap.size w W → okz p → okz q → Calls Try.prog F (#[cx p, cx q] ++ caps) W fun e W' => ∃ (r : Cw) (m : Nat), e = .returned (cx r) ∧ repz (f (anz p) (anz q)) r ∧ W' = W.drewN m

set_option maxHeartbeats 1000000 in
theorem each_any (F : FuncId) (caps : Array Value) (f : Cn → Cn) (ao : Option Addr) (cap : Nat) (xs : List Cw) (w : World) (hE : Ent F) (hF : Says1 w F caps f) (hsz : xs.length * 16 ≤ 140737488355328) (hc : Rc w ao xs) (hx : okl xs) :
    Calls Try.prog 55 #[.slice ao xs.length cap, .func (.func F) #[] caps] w fun e w' => ∃ zs, e = .returned (.slice (some ⟨w.heap.size, 0, none⟩) xs.length xs.length) ∧ New w.heap.size (fun j => f (anz (zat xs j))) xs.length zs (.slice (some ⟨w.heap.size, 0, none⟩) xs.length xs.length) w' ∧ Below w.heap.size w w' := by
  obtain ⟨i0, hi, hz0, hz1, hz2⟩ := info_parts Try.infoC
  go_enter Try.func55, Try.ntmps55
  go_wp2_with (at_make; refine wpList_make_full _ rfl _ _ 23 rfl w.heap.size 29 i0 (.complex .f64 0 0) 1 Try.underlying23 hi hz0 hz1 _ _ _ _ xs.length rfl rfl rfl rfl (by rw [hz2]; omega) (by unfold maxLen; omega) (Nat.le_refl _) ?_; intro w1 hown hgrow)
  have hb0 : Below w.heap.size w w1 := (Below.refl _ _).grown hgrow (Nat.le_refl _) (by intro k hk; simp at hk)
  rw [made_zeroC] at hown
  clear hgrow
  go_loopw [13] (fun i wr => ∃ (k : Nat) (zs : List Cw), k ≤ xs.length ∧ i = .int .i64 k ∧ zs.length = xs.length ∧ repl (fun j => f (anz (zat xs j))) k zs ∧ wr.ownsRow w.heap.size 29 1 (.slice (some ⟨w.heap.size, 0, none⟩) xs.length xs.length) xs.length (zs.map cx) ∧ Below w.heap.size w wr) (fun i _ => xs.length - (intOf i).toNat)
  case atStart => exact ⟨0, List.replicate xs.length (0, 0), Nat.zero_le _, rfl, by simp, fun j hj => absurd hj (by omega), hown, hb0⟩
  case round =>
    obtain ⟨k, zs, hk, rfl, hl, hr, how, hbel⟩ := hrel
    by_cases hlt : k < xs.length
    · obtain ⟨b, off, rfl, hb, hcx⟩ := hc.below hbel k hlt
      have hox := hx k
      obtain ⟨x, hxe⟩ : ∃ x, x = zat xs k := ⟨_, rfl⟩
      rw [← hxe] at hcx hox
      have HX : Hid (x = zat xs k) := hxe
      have hcell := how.cellAt k (by simp; omega)
      have hfz := how.frozenAt k
      have hst := fun u => (how.stored k (cx u)).1
      rw [List.getElem?_map, zat_lt (by omega)] at hcell
      obtain ⟨y, hy⟩ : ∃ y, y = zat zs k := ⟨_, rfl⟩
      rw [← hy] at hcell
      clear hy hxe hx hc hown
      unfold cx at hcx
      have HR : Hid (repl (fun j => f (anz (zat xs j))) k zs) := hr
      have HO : Hid (∀ u : Cw, (wr.setCell ⟨w.heap.size, k, none⟩ (cx u)).ownsRow w.heap.size 29 1 (.slice (some ⟨w.heap.size, 0, none⟩) xs.length xs.length) xs.length ((zs.map cx).set k (cx u))) := hst
      have HF : Hid (Says1 w F caps f) := hF
      unfold Ent at hE
      clear hr hst how hF
      go_wp2_with (refine (HF.out x _ hbel hox).mono ?_; rintro e w' ⟨r, m, rfl, hrz, rfl⟩; have HZ : Hid (repz (f (anz x)) r) := hrz; clear hrz; unfold cx)
      go_roundw
      case rel =>
        refine ⟨k + 1, zs.set k r, by omega, by go_num, by simpa using hl, HR.out.set (by omega) (by rw [← HX.out]; exact HZ.out), ?_, ?_⟩
        · rw [List.map_set]; exact HO.out r
        · exact (below_drewN hbel m).setCell (Nat.le_refl _) _
      case measure => simp [intOf]; omega
    · have e : k = xs.length := by omega
      subst e
      clear hx hc hown hF
      go_wp2
      go_ret
      exact ⟨zs, rfl, ⟨hl, hr, how⟩, hbel⟩

end Go.Proofs.Ytlpfjaldmokdfaa
