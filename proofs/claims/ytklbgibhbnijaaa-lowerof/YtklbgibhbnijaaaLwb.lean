/-
  What lower's notFinite and reduce hand back.
-/
import Derived.Test.YtklbgibhbnijaaaLwa
import Derived.Deep.RegionWith
import Derived.Deep.RegionHeldLaw
namespace Go.Proofs.Ytklbgibhbnijaaa
open Fl RowKit

/-- the first place below k whose number is not finite, or k -/
def nff (xs : List Cw) : Nat → Nat
  | 0 => 0
  | k + 1 => if nff xs k < k then nff xs k else if finZ (zat xs k) = true then k + 1 else k
theorem nff_all {xs : List Cw} {k : Nat} (h : finL xs k = true) : nff xs k = k := by
  induction k with
  | zero => rfl
  | succ k ih =>
    have h' : (finL xs k && finZ (zat xs k)) = true := h
    rw [Bool.and_eq_true] at h'
    unfold nff
    rw [ih h'.1, if_neg (by omega), if_pos h'.2]
theorem nff_at {xs : List Cw} {k : Nat} (h : finL xs k = true) (hf : finZ (zat xs k) = false) : ∀ m, k < m → nff xs m = k := by
  intro m
  induction m with
  | zero => intro h; omega
  | succ m ih =>
    intro hm
    unfold nff
    by_cases e : k = m
    · subst e
      rw [nff_all h, if_neg (by omega), if_neg (by rw [hf]; decide)]
    · rw [ih (by omega), if_pos (by omega)]
theorem nff_le (xs : List Cw) (k : Nat) : nff xs k ≤ k := by
  induction k with
  | zero => exact Nat.le_refl _
  | succ k ih =>
    unfold nff
    split
    · omega
    · split <;> omega
theorem nff_fin {xs : List Cw} {k : Nat} (h : nff xs k = k) : finL xs k = true := by
  induction k with
  | zero => rfl
  | succ k ih =>
    unfold nff at h
    by_cases h1 : nff xs k < k
    · rw [if_pos h1] at h; omega
    · rw [if_neg h1] at h
      have := nff_le xs k
      by_cases h2 : finZ (zat xs k) = true
      · show (finL xs k && finZ (zat xs k)) = true
        rw [ih (by omega), h2]; rfl
      · rw [if_neg h2] at h; omega
set_option maxHeartbeats 1000000 in
theorem nf_any (ao : Option Addr) (cap n : Nat) (xs : List Cw) (w : World) (hn : xs.length = n) (hsz : n ≤ 4096) (hc : Rc w ao xs) (hx : okl xs) :
    Calls Try.prog 42 #[.slice ao n cap] w fun e w' => e = .returned (.int .i64 (nff xs n : Nat)) ∧ w' = w := by
  have NA := hid_o (@nff_all xs n)
  have NT : Hid (∀ k, finL xs k = true → finZ (zat xs k) = false → ∀ m, k < m → nff xs m = k) := fun k a c => nff_at a c
  obtain ⟨r, hr⟩ : ∃ r, r = nff xs n := ⟨_, rfl⟩
  rw [← hr] at NA ⊢
  have HR := hid_o hr
  clear hr
  go_enter Try.func42, Try.ntmps42
  go_wp2
  go_loopw [7] (fun i wr => ∃ (k : Nat), k ≤ n ∧ i = .int .i64 k ∧ finL xs k = true ∧ wr = w) (fun i _ => n - (intOf i).toNat)
  case atStart => exact ⟨0, Nat.zero_le _, rfl, rfl, rfl⟩
  case round =>
    obtain ⟨k, hk, rfl, hf, hw⟩ := hrel
    by_cases hlt : k < n
    · obtain ⟨b, off, rfl, hb, hcx⟩ := hc k (by omega)
      rw [← hw] at hb hcx
      have HW : Hid (wr = w) := hw
      have F2 : finL xs (k + 1) = (finL xs k && finZ (zat xs k)) := rfl
      rw [hf, Bool.true_and] at F2
      have ho := hx k
      have F1 := hid_o (NT.out k hf)
      obtain ⟨x, hxe⟩ : ∃ x, x = zat xs k := ⟨_, rfl⟩
      rw [← hxe] at hcx F1 F2 ho
      unfold cx at hcx
      have G2 : Hid (finL xs (k + 1) = finZ x) := F2
      clear hxe hc hf hw F2 hx
      cases f1 : finZ x
      · have e1 : r = k := by rw [HR.out]; exact F1.out f1 n hlt
        subst e1
        go_wp2_with (go_at_call 82; (with_reducible refine (fin_walk ho).mono ?_); rintro e w' ⟨rfl, rfl⟩; rw [f1])
        go_ret
        exact ⟨rfl, HW.out⟩
      · go_wp2_with (go_at_call 82; (with_reducible refine (fin_walk ho).mono ?_); rintro e w' ⟨rfl, rfl⟩; rw [f1])
        exact ⟨⟨k + 1, by omega, by go_num, by rw [G2.out]; exact f1, HW.out⟩, by simp [intOf]; omega⟩
    · have e : k = n := by omega
      subst e
      have HW : Hid (wr = w) := hw
      have e1 := NA.out hf
      subst e1
      clear hx hc hf hw
      go_wp2
      go_ret
      exact ⟨rfl, HW.out⟩

/-- what stands in a row while it is worked: places below j are reckoned -/
def part (a p : Nat → Cw) (k j n : Nat) (f : Nat → Cw) : Prop := (∀ i, i < n → i < j → repz (redZ a p k i) (f i)) ∧ ∀ i, j ≤ i → f i = a i
theorem part_next {a p : Nat → Cw} {k j n : Nat} {f : Nat → Cw} (h : part a p k j n f) {r : Cw} (hr : repz (redZ a p k j) r) : part a p k (j + 1) n (upz f j r) := by
  refine ⟨fun i hi hj => ?_, fun i hi => ?_⟩
  · by_cases e : i = j
    · subst e; rw [upz_self]; exact hr
    · rw [upz_ne _ _ e]; exact h.1 i hi (by omega)
  · rw [upz_ne _ _ (by omega)]; exact h.2 i (by omega)
theorem part_start {a p : Nat → Cw} {k n : Nat} (ha : ∀ j, j < n → okz (a j)) : part a p k k n a :=
  ⟨fun i hi hj => by rw [redZ_lt hj]; exact repz_anz (ha i hi), fun _ _ => rfl⟩
theorem div_z {W : World} {x y : Cw} (hx : okz x) (hy : okz y) : Calls Try.prog 93 #[.complex .f64 x.1 x.2, .complex .f64 y.1 y.2] W fun e w' => ∃ (r : Cw) (n : Nat), e = .returned (.complex .f64 r.1 r.2) ∧ repz (divZ (anz x) (anz y)) r ∧ w' = W.drewN n :=
  (div_any W (repz_anz hx).1 (repz_anz hx).2 (repz_anz hy).1 (repz_anz hy).2).mono (by rintro e w' ⟨re, im, n, rfl, h1, h2, rfl⟩; exact ⟨(re, im), n, rfl, ⟨h1, h2⟩, rfl⟩)
theorem mul_z {W : World} {x y : Cw} {X : Cn} (hx : repz X x) (hy : okz y) : Calls Try.prog 97 #[.complex .f64 x.1 x.2, .complex .f64 y.1 y.2] W fun e w' => ∃ (r : Cw) (n : Nat), e = .returned (.complex .f64 r.1 r.2) ∧ repz (mulZ X (anz y)) r ∧ w' = W.drewN n :=
  (mul_any W hx.1 hx.2 (repz_anz hy).1 (repz_anz hy).2).mono (by rintro e w' ⟨re, im, n, rfl, h1, h2, rfl⟩; exact ⟨(re, im), n, rfl, ⟨h1, h2⟩, rfl⟩)
theorem sub_z {W : World} {x y : Cw} {Y : Cn} (hx : okz x) (hy : repz Y y) : Calls Try.prog 118 #[.complex .f64 x.1 x.2, .complex .f64 y.1 y.2] W fun e w' => ∃ (r : Cw) (n : Nat), e = .returned (.complex .f64 r.1 r.2) ∧ repz (subZ (anz x) Y) r ∧ w' = W.drewN n :=
  (sub_any W (repz_anz hx).1 (repz_anz hx).2 hy.1 hy.2).mono (by rintro e w' ⟨re, im, n, rfl, h1, h2, rfl⟩; exact ⟨(re, im), n, rfl, ⟨h1, h2⟩, rfl⟩)
theorem only_drewN (g : Nat) (w : World) (m : Nat) : OnlyRow g w (w.drewN m) := ⟨rfl, rfl, rfl, rfl, fun _ _ => rfl⟩
theorem only_trans {g : Nat} {a b c : World} (h : OnlyRow g a b) (k : OnlyRow g b c) : OnlyRow g a c := ⟨k.os.trans h.os, k.tape.trans h.tape, k.output.trans h.output, k.size.trans h.size, fun q hq => (k.block q hq).trans (h.block q hq)⟩
theorem rw_set {w : World} {b g n c : Nat} {f : Nat → Cw} (h : Rw w b (.slice (some ⟨g, 0, none⟩) n c) n (ro n f)) (k : Nat) (v : Cw) : Rw (w.setCell ⟨g, k, none⟩ (cx v)) b (.slice (some ⟨g, 0, none⟩) n c) n (ro n (upz f k v)) := by
  refine ⟨ro_len _ _, ?_⟩
  have := (h.own.stored k (cx v)).1
  rw [← List.map_set, ro_set] at this
  exact this
theorem rw_cell {w : World} {b g n c : Nat} {f : Nat → Cw} (h : Rw w b (.slice (some ⟨g, 0, none⟩) n c) n (ro n f)) {j : Nat} (hj : j < n) : w.cell? ⟨g, j, none⟩ = some (cx (f j)) := by
  rw [h.own.cellAt j (by omega)]
  simp [ro, hj]

end Go.Proofs.Ytklbgibhbnijaaa
