/-
  What Floats, CopyReals and Finite of the given package gridworkkit hand back, and which memory they leave.
-/
import Derived.Test.YthkhemmpjfilaaaSums
import Derived.Test.YthkhemmpjfilaaaOrder
import Derived.Test.YthkhemmpjfilaaaTs
import Derived.Laws.AppendOwnNone
namespace Go.Proofs.Ythkhemmpjfilaaa
open Fl RowKit

/-- a row that is owned, as a list that is read -/
theorem own_rd {w : World} {base n : Nat} {v : Value} {xs : List Nat} (hn : n = xs.length) (h : w.ownsRow base 29 1 v n (xs.map (Value.float .f64))) :
    ∃ ao cap, v = .slice ao xs.length cap ∧ xs.length ≤ cap ∧ (xs.length = 0 ∧ ao = none ∧ cap = 0 ∨ ∃ g, ao = some ⟨g, 0, none⟩ ∧ base ≤ g) ∧ Rd w ao xs := by
  subst hn
  rcases h.2 with ⟨hv, h0⟩ | ⟨g, cap, cur, hv, hb, hg, hnc, _, _, htake⟩
  · refine ⟨none, 0, by rw [hv, h0], by omega, .inl ⟨h0, rfl, rfl⟩, fun k hk => by omega⟩
  · refine ⟨some ⟨g, 0, none⟩, cap, hv, hnc, .inr ⟨g, rfl, hb⟩, fun k hk => ⟨g, 0, rfl, (Array.getElem?_eq_some_iff.1 hg).1, ?_⟩⟩
    subst hv
    rw [Nat.zero_add, h.cellAt k (by omega), List.getElem?_map]
    simp [List.getD_eq_getElem?_getD, hk]
theorem own_ge {w : World} {base e size n k : Nat} {v : Value} {xs : List Value} (h : w.ownsRow base e size v n xs) (hk : v.ownBlock = some k) : base ≤ k := by
  rcases h.2 with ⟨hv, _⟩ | ⟨g, cap, cur, hv, hb, _⟩
  · subst hv; simp [Value.ownBlock] at hk
  · subst hv; simp [Value.ownBlock] at hk; omega
theorem take_map (xs : List Nat) (k : Nat) (h : k < xs.length) : (xs.take k).map (Value.float .f64) ++ [Value.float .f64 (xs.getD k 0)] = (xs.take (k + 1)).map (Value.float .f64) := by
  rw [take_snoc xs k h, List.map_append]; rfl

set_option maxHeartbeats 1000000 in
theorem floats_any (ao : Option Addr) (cap : Nat) (xs : List Nat) (w : World) (hsz : xs.length * 8 ≤ 140737488355328)
    (hc : ∀ k, k < xs.length → ∃ b off, ao = some ⟨b, off, none⟩ ∧ b < w.heap.size ∧ w.cell? ⟨b, off + k, none⟩ = some (.int .u64 ((xs.getD k 0 : Nat) : Int))) :
    Calls Try.prog 9 #[.slice ao xs.length cap] w fun e w' => ∃ v, e = .returned v ∧ w'.ownsRow w.heap.size 29 1 v xs.length (xs.map (Value.float .f64)) ∧ Below w.heap.size w w' := by
  obtain ⟨i0, hi, hz0, hz1, hz2⟩ := info_parts Try.infoF
  go_enter Try.func9, Try.ntmps9
  go_wp2
  go_loopw [3, 4] (fun v i wr => ∃ k : Nat, k ≤ xs.length ∧ i = .int .i64 k ∧ wr.ownsRow w.heap.size 29 1 v k ((xs.take k).map (Value.float .f64)) ∧ Below w.heap.size w wr) (fun _ i _ => xs.length - (intOf i).toNat)
  case atStart => exact ⟨0, Nat.zero_le _, rfl, World.ownsRow_nil _ _ _ _, Below.refl _ _⟩
  case round =>
    obtain ⟨k, hk, rfl, hown, hbel⟩ := hrel
    obtain ⟨x, hxe⟩ : ∃ x, x = xs.getD k 0 := ⟨_, rfl⟩
    by_cases hlt : k < xs.length
    · obtain ⟨b, off, rfl, hb, hcx⟩ := hc k hlt
      have hcx' := (hbel.cell (p := ⟨b, off + k, none⟩) (by exact hb)).trans hcx
      rw [← hxe] at hcx'
      have HX : Hid (x = xs.getD k 0) := hxe
      have hS := hbel.size
      clear hcx hxe hc
      go_wp2_with (at_builtin; refine wpList_append_own _ rfl _ _ 23 rfl w.heap.size 29 i0 (.float .f64 0) 1 8 Try.underlying23 hi hz0 hz1 hz2 rfl (by decide) _ _ _ rfl (hown.alloc _) ⟨wr.heap.size, 0, none⟩ 1 1 [.float .f64 x] rfl rfl ?c1 ?c2 ?c3 ?c4 ?c5 ?_)
      case c1 =>
        intro j u hj
        match j, hj with
        | 0, hj => simp at hj; subst hj; simp [Addr.add]
      case c2 => intro u hu; simp at hu; subst hu; rfl
      case c3 => unfold maxLen; omega
      case c4 => omega
      case c5 => simp; omega
      · intro v' w1 hown' hgrow _
        have R : w1.ownsRow w.heap.size 29 1 v' (k + 1) ((xs.take (k + 1)).map (Value.float .f64)) := by rw [← take_map xs k hlt, ← HX.out, List.map_take]; exact hown'
        have R2 : Below w.heap.size w w1 := (hbel.alloc hS _).grown hgrow (by simp; omega) (fun j hj => own_ge hown hj)
        clear hown' hgrow hown
        go_wp2
        go_roundw
        case rel => exact ⟨k + 1, by omega, by go_num, R, R2⟩
        case measure => simp [intOf]; omega
    · clear hc hxe
      have e : k = xs.length := by omega
      subst e
      go_wp2
      go_ret
      rw [List.take_length] at hown
      exact ⟨_, rfl, hown, hbel⟩

theorem copy_nil (cap : Nat) (w : World) :
    Calls Try.prog 15 #[.slice none 0 cap] w fun e w' => e = .returned (.slice none 0 0) ∧ w' = w := by
  go_enter Try.func15, Try.ntmps15
  go_wp2
  go_ret
  exact ⟨rfl, rfl⟩
set_option maxHeartbeats 1000000 in
theorem copy_some (g off cap : Nat) (xs : List Nat) (w : World) (hsz : xs.length * 8 ≤ 140737488355328) (hc : Rd w (some ⟨g, off, none⟩) xs) :
    Calls Try.prog 15 #[.slice (some ⟨g, off, none⟩) xs.length cap] w fun e w' => ∃ v, e = .returned v ∧ w'.ownsRow w.heap.size 29 1 v xs.length (xs.map (Value.float .f64)) ∧ Below w.heap.size w w' := by
  obtain ⟨i0, hi, hz0, hz1, hz2⟩ := info_parts Try.infoF
  go_enter Try.func15, Try.ntmps15
  go_wp2_with (at_builtin; refine wpList_append_own _ rfl _ _ 23 rfl w.heap.size 29 i0 (.float .f64 0) 1 8 Try.underlying23 hi hz0 hz1 hz2 rfl (by decide) _ 0 [] rfl (World.ownsRow_nil _ _ _ _) ⟨g, off, none⟩ xs.length cap (xs.map (Value.float .f64)) rfl (by simp) ?c1 ?c2 ?c3 ?c4 ?c5 ?_)
  case c1 =>
    intro j u hj
    rw [List.getElem?_map] at hj
    have hl : j < xs.length := by
      rcases Nat.lt_or_ge j xs.length with h | h
      · exact h
      · rw [List.getElem?_eq_none h] at hj; simp at hj
    obtain ⟨b, o, h1, _, h3⟩ := hc j hl
    simp only [Option.some.injEq, Addr.mk.injEq, and_true] at h1
    obtain ⟨rfl, rfl⟩ := h1
    have ha : (⟨g, off, none⟩ : Addr).add j = ⟨g, off + j, none⟩ := by unfold Addr.add; split <;> simp_all
    rw [ha, h3]
    simp [List.getD_eq_getElem?_getD, hl] at hj ⊢
    exact hj
  case c2 => intro u hu; rw [List.mem_map] at hu; obtain ⟨n, _, rfl⟩ := hu; rfl
  case c3 => unfold maxLen; omega
  case c4 => omega
  case c5 => exact Nat.le_refl _
  · intro v' w1 hown' hgrow _
    have R2 : Below w.heap.size w w1 := (Below.refl _ _).grown hgrow (Nat.le_refl _) (by intro k hk; simp [Value.ownBlock] at hk)
    clear hgrow
    go_wp2
    go_ret
    exact ⟨_, rfl, hown', R2⟩

/-- a list that is read: its address is none only if it is empty -/
structure Sl (w : World) (ao : Option Addr) (cap : Nat) (xs : List Nat) : Prop where
  rd : Rd w ao xs
  shape : ao = none ∧ xs.length = 0 ∨ ∃ g off, ao = some ⟨g, off, none⟩
  cap : xs.length ≤ cap
theorem Sl.below {w w' : World} {ao : Option Addr} {cap : Nat} {xs : List Nat} (h : Sl w ao cap xs) (hb : Below w.heap.size w w') : Sl w' ao cap xs := ⟨h.rd.below hb, h.shape, h.cap⟩
theorem Sl.drewN {w : World} {ao : Option Addr} {cap : Nat} {xs : List Nat} (h : Sl w ao cap xs) (n : Nat) : Sl (w.drewN n) ao cap xs := ⟨h.rd.drewN n, h.shape, h.cap⟩
theorem own_sl {w : World} {base : Nat} {v : Value} {xs : List Nat} (h : w.ownsRow base 29 1 v xs.length (xs.map (Value.float .f64))) :
    ∃ ao cap, v = .slice ao xs.length cap ∧ Sl w ao cap xs := by
  obtain ⟨ao, cap, h1, h2, h3, h4⟩ := own_rd rfl h
  refine ⟨ao, cap, h1, h4, ?_, h2⟩
  rcases h3 with ⟨a, b, _⟩ | ⟨g, a, _⟩
  · exact .inl ⟨b, a⟩
  · exact .inr ⟨g, 0, a⟩
theorem copy_any (ao : Option Addr) (cap : Nat) (xs : List Nat) (w : World) (hsz : xs.length * 8 ≤ 140737488355328) (hc : Sl w ao cap xs) :
    Calls Try.prog 15 #[.slice ao xs.length cap] w fun e w' => ∃ ao' cap', e = .returned (.slice ao' xs.length cap') ∧ Sl w' ao' cap' xs ∧ Below w.heap.size w w' := by
  rcases hc.shape with ⟨rfl, h0⟩ | ⟨g, off, rfl⟩
  · rw [h0]
    refine (copy_nil cap w).mono ?_
    rintro e w' ⟨rfl, rfl⟩
    exact ⟨none, 0, rfl, ⟨fun k hk => by omega, .inl ⟨rfl, h0⟩, by omega⟩, Below.refl _ _⟩
  · refine (copy_some g off cap xs w hsz hc.rd).mono ?_
    rintro e w' ⟨v, rfl, hown, hb⟩
    obtain ⟨ao', cap', rfl, h⟩ := own_sl hown
    exact ⟨ao', cap', rfl, h, hb⟩
theorem zero_order {r : Nat} (hf : fin r) (h : val r = 0) : FloatKind.f64.format.order r 0 = some .eq := by
  refine order_same (fin_not_nan hf) nan_zero ?_
  have h1 : sz (mg r) = 0 := by have := congrArg Int.natAbs h; unfold val at this; rw [sgn_abs] at this; exact this
  have h2 : mg r = 0 := by
    rcases Nat.eq_zero_or_pos (mg r) with h | h
    · exact h
    · have := sz_pos h; omega
  rw [plc_zero]; unfold plc; rw [h2]; unfold sgn; split <;> rfl
theorem subV_of {x y s : Nat} (h : subO x y = some s) (W : World) : subV W x y = s := by unfold subV fV; rw [h]
end Go.Proofs.Ythkhemmpjfilaaa
