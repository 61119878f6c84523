/-
  What pivot's Parity and Swapped hand back.
-/
import Derived.Test.YtgpjlobclcbniaaYd
namespace Go.Proofs.Ytgpjlobclcbniaa
open Fl RowKit

/-- how many cells of a row do not hold their own places -/
def misc (w : World) (g j : Nat) : Nat :=
  match w.cell? ⟨g, j, none⟩ with
  | some (.int .i64 v) => if v = (j : Int) then 0 else 1
  | _ => 1
def mis (w : World) (g n : Nat) : Nat := sN (misc w g) n
theorem sN_congr {f h : Nat → Nat} {n : Nat} (e : ∀ i, i < n → f i = h i) : sN f n = sN h n := by
  induction n with
  | zero => rfl
  | succ n ih => unfold sN; rw [ih (fun i hi => e i (by omega)), e n (by omega)]
theorem mis_eq {w : World} {b g n c : Nat} {ys : List Int} (h : Ir w b (.slice (some ⟨g, 0, none⟩) n c) n ys) : mis w g n = sN (fun j => if iat ys j = (j : Int) then 0 else 1) n := by
  unfold mis
  refine sN_congr (fun j hj => ?_)
  obtain ⟨b', o', e1, _, e3⟩ := h.qi j (by rw [h.len]; exact hj)
  cases e1
  rw [Nat.zero_add] at e3
  unfold misc
  rw [e3]
theorem sN_less {f h : Nat → Nat} {n v : Nat} (hv : v < n) (hlt : f v < h v) (hle : ∀ i, i < n → f i ≤ h i) : sN f n < sN h n := by
  have le : ∀ m, m ≤ n → sN f m ≤ sN h m := by
    intro m
    induction m with
    | zero => intro _; exact Nat.le_refl _
    | succ m ih => intro hm; have := ih (by omega); have := hle m (by omega); unfold sN; omega
  induction n with
  | zero => omega
  | succ n ih =>
    by_cases e : v = n
    · subst e
      have := le v (by omega)
      unfold sN; omega
    · have := ih (by omega) (fun i hi => hle i (by omega)) (fun m hm => le m (by omega))
      have := hle n (by omega)
      unfold sN; omega
theorem mis_less {ys : List Int} (ho : Ord ys) {k v : Nat} (hk : k < ys.length) (hv : iat ys k = (v : Int)) (hne : v ≠ k) : sN (fun j => if iat (sw ys k v) j = (j : Int) then 0 else 1) ys.length < sN (fun j => if iat ys j = (j : Int) then 0 else 1) ys.length := by
  have hvl : v < ys.length := by have := (ho.rng k hk).2; rw [hv] at this; omega
  refine sN_less hvl ?_ ?_
  · show (if iat (sw ys k v) v = (v : Int) then 0 else 1) < (if iat ys v = (v : Int) then 0 else 1)
    rw [iat_sw hk hvl, if_pos rfl, if_pos hv, if_neg (fun e => hne (ho.inj v k hvl hk (by rw [e, hv])))]
    omega
  · intro i _
    show (if iat (sw ys k v) i = (i : Int) then 0 else 1) ≤ (if iat ys i = (i : Int) then 0 else 1)
    rw [iat_sw hk hvl]
    by_cases a : i = v
    · rw [if_pos a, if_pos (by rw [hv, a])]; omega
    · rw [if_neg a]
      by_cases b : i = k
      · rw [if_pos b, if_neg (show ¬ iat ys i = (i : Int) by rw [b, hv]; omega)]
        split <;> omega
      · rw [if_neg b]; exact Nat.le_refl _
def paI (zs : List Int) : Int := if rfE zs = 0 then sgL zs else 0
theorem sg_pm (zs : List Int) : sgL zs = 1 ∨ sgL zs = -1 := by unfold sgL; split <;> simp
theorem refused_len {ao : Option Addr} {cap n : Nat} {zs : List Int} {w : World} (hn : zs.length = n) (hsz : n * 8 ≤ 140737488355328) (hc : Qi w ao zs) :
    Calls Try.prog 55 #[.slice ao n cap] w fun e w' => e = .returned (.int .i64 (rfE zs)) ∧ Below w.heap.size w w' := by
  subst hn
  exact refused_any ao cap zs w hsz hc
theorem only_below {B g : Nat} {w0 w w' : World} (h : Below B w0 w) (ho : OnlyRow g w w') (hg : B ≤ g) : Below B w0 w' :=
  h.trans ⟨ho.os, ho.tape, ho.output, Nat.le_of_eq ho.size.symm, fun k hk => ho.block k (by omega)⟩
set_option maxRecDepth 20000 in
set_option maxHeartbeats 4000000 in
theorem parity_any (ao : Option Addr) (cap n : Nat) (zs : List Int) (w : World) (hn : zs.length = n) (hsz : n * 8 ≤ 140737488355328) (hc : Qi w ao zs) :
    Calls Try.prog 23 #[.slice ao n cap] w fun e w' => e = .returned (.tuple #[.int .i64 (paI zs), .int .i64 (rfE zs)]) ∧ Below w.heap.size w w' := by
  by_cases h0 : rfE zs = 0
  case neg =>
    rw [show paI zs = 0 from if_neg h0]
    have RF := hid_o (fun (W : World) (h : Qi W ao zs) => refused_len (cap := cap) hn hsz h)
    obtain ⟨E, hE⟩ : ∃ E, E = rfE zs := ⟨_, rfl⟩
    rw [← hE] at h0 RF ⊢
    clear hE
    go_enter Try.func23, Try.ntmps23
    go_wp2_with (first
      | (go_at_call 55; (with_reducible refine (RF.out _ hc).mono ?_); rintro e w1 ⟨rfl, hb1⟩))
    go_ret2
    exact ⟨rfl, hb1⟩
  rw [show paI zs = sgL zs from if_pos h0]
  obtain ⟨h64, ho⟩ := rfE_0.1 h0
  rw [hn] at h64
  have RF := hid_o (fun (W : World) (h : Qi W ao zs) => refused_len (cap := cap) hn hsz h)
  rw [h0] at RF
  rw [h0]
  have HO := hid_o ho
  have HZ : Hid (sgL zs = 1 ∨ sgL zs = -1) := sg_pm zs
  clear ho h0
  obtain ⟨S, hS⟩ : ∃ S, S = sgL zs := ⟨_, rfl⟩
  rw [← hS] at HZ ⊢
  have HS := hid_o hS
  clear hS
  go_enter Try.func23, Try.ntmps23
  go_wp2_with (first
    | (go_at_call 55; (with_reducible refine (RF.out _ hc).mono ?_); rintro e w1 ⟨rfl, hb1⟩; have hc1 := hc.below hb1; have B1 := hid_o hb1; clear hb1 hc)
    | (go_at_call 56; (with_reducible refine (copied_any _ _ _ zs _ hn hsz hc1).mono ?_); rintro e w2 ⟨g, rfl, hI, hb2⟩; have B2 := hid_o (b_of B1.out hb2 B1.out.size); have I2 := hid_o (hI.base B1.out.size); clear hb2 hI hc1 B1))
  go_loopw [6, 17] (fun s i wr => ∃ (k : Nat) (ys : List Int) (sv : Int), k ≤ n ∧ i = .int .i64 k ∧ s = .int .i64 sv ∧ (sv = 1 ∨ sv = -1) ∧ Ord ys ∧ (∀ j, j < k → iat ys j = (j : Int)) ∧ sv * sgL ys = S ∧ Ir wr w.heap.size (.slice (some ⟨g, 0, none⟩) n n) n ys ∧ Below w.heap.size w wr) (fun _ i _ => n - (intOf i).toNat)
  case atStart => exact ⟨0, zs, 1, Nat.zero_le _, rfl, rfl, .inl rfl, HO.out, fun j hj => absurd hj (by omega), by rw [HS.out, Int.one_mul], I2.out, B2.out⟩
  case round =>
    obtain ⟨k, ys, sv, hk, rfl, rfl, hpm, hord, hfix, hsg, hI, hbel⟩ := hrel
    have hlen := hI.len
    by_cases hlt : k < n
    · have HP := hid_o hpm
      have HOR := hid_o hord
      have HFX := hid_o hfix
      have HSG := hid_o hsg
      have HI := hid_o hI
      have HB := hid_o hbel
      clear hpm hord hfix hsg hI hbel hlen
      go_wp2
      go_loopw [6] (fun s wr => ∃ (ys : List Int) (sv : Int), s = .int .i64 sv ∧ (sv = 1 ∨ sv = -1) ∧ Ord ys ∧ (∀ j, j < k → iat ys j = (j : Int)) ∧ sv * sgL ys = S ∧ Ir wr w.heap.size (.slice (some ⟨g, 0, none⟩) n n) n ys ∧ Below w.heap.size w wr) (fun _ wr => mis wr g n)
      case atStart => exact ⟨ys, sv, rfl, HP.out, HOR.out, HFX.out, HSG.out, HI.out, HB.out⟩
      case round =>
        clear HP HOR HFX HSG HI HB
        obtain ⟨ys, sv, rfl, hpm, hord, hfix, hsg, hI, hbel⟩ := hrel
        have hlen := hI.len
        have hcx : wr.cell? ⟨g, k, none⟩ = some (.int .i64 (iat ys k)) := by
          obtain ⟨b', o', e1, _, e3⟩ := hI.qi k (by rw [hI.len]; exact hlt)
          cases e1; rw [Nat.zero_add] at e3; exact e3
        have hgl := hI.lt
        obtain ⟨r1, r2⟩ := hord.rng k (by omega)
        obtain ⟨v, hv⟩ : ∃ v : Nat, iat ys k = (v : Int) := ⟨(iat ys k).toNat, by omega⟩
        have hvn : v < n := by omega
        rw [hv] at hcx
        by_cases hne : v = k
        · have HA : Hid (∃ (ys : List Int), Ord ys ∧ (∀ j, j < k + 1 → iat ys j = (j : Int)) ∧ sv * sgL ys = S ∧ Ir wr w.heap.size (.slice (some ⟨g, 0, none⟩) n n) n ys) := ⟨ys, hord, fun j hj => by
            by_cases e : j = k
            · rw [e, hv, hne]
            · exact hfix j (by omega), hsg, hI⟩
          have HP := hid_o hpm
          have HB := hid_o hbel
          clear hord hfix hsg hI hbel hv hpm r1 r2 hlen
          subst hne
          go_wp2
          go_roundw
          case measure => simp [intOf]; omega
          case rel =>
            obtain ⟨ys, a1, a2, a3, a4⟩ := HA.out
            exact ⟨v + 1, ys, sv, by omega, by go_num, rfl, HP.out, a1, a2, a3, a4, HB.out⟩
        · have HI := hid_o hI
          have HB := hid_o hbel
          have NEW : Hid ((-sv = 1 ∨ -sv = -1) ∧ Ord (sw ys k v) ∧ (∀ j, j < k → iat (sw ys k v) j = (j : Int)) ∧ -sv * sgL (sw ys k v) = S) := by
            refine ⟨by omega, hord.sw (by omega) (by omega), ?_, ?_⟩
            · intro j hj
              rw [iat_sw (by omega) (by omega)]
              by_cases e : j = v
              · have h1 := hfix j hj
                have := hord.inj j k (by omega) (by omega) (by rw [h1, hv, e])
                omega
              · rw [if_neg e, if_neg (by omega)]; exact hfix j hj
            · rw [sg_sw hord (by omega) (by omega) (Ne.symm hne), Int.neg_mul_neg]; exact hsg
          have ML : Hid (sN (fun j => if iat (sw ys k v) j = (j : Int) then 0 else 1) n < sN (fun j => if iat ys j = (j : Int) then 0 else 1) n) := by
            have := mis_less hord (by omega) hv hne
            rw [hlen] at this
            exact this
          have hnek : ¬ ((v : Int) = (k : Int)) := by omega
          have M0 := hid_o (mis_eq hI)
          clear hord hfix hsg hI hbel hv r1 r2 hlen
          have hw1 : wrap64 (-sv) = -sv := by unfold wrap64; omega
          go_wp2_with (first
            | (go_at_call 57; (with_reducible refine (exchange_any _ _ _ _ ys k v _ h64 hlt hvn HI.out).mono ?_); rintro e w5 ⟨rfl, hI5, hO5⟩; have HI5 := hid_o hI5; have HB5 := hid_o (only_below HB.out hO5 hgl.1); clear hI5 hO5 hcx HB))
          exact ⟨⟨_, -sv, rfl, NEW.out.1, NEW.out.2.1, NEW.out.2.2.1, NEW.out.2.2.2, HI5.out, HB5.out⟩, by rw [mis_eq HI5.out, M0.out]; exact ML.out⟩
    · have e : k = n := by omega
      subst e
      have hs : sv = S := by rw [← hsg, sg_rise (fun j hj => hfix j (by omega)), Int.mul_one]
      subst hs
      clear hord hfix hsg hI hpm hlen
      go_wp2
      go_ret2
      exact ⟨rfl, hbel⟩

set_option maxHeartbeats 4000000 in
theorem swapped_ok (ao : Option Addr) (cap n i j : Nat) (zs : List Int) (w : World) (hn : zs.length = n) (h0 : rfE zs = 0) (hi : i < n) (hj : j < n) (hc : Qi w ao zs) :
    Calls Try.prog 25 #[.slice ao n cap, .int .i64 i, .int .i64 j] w fun e w' => ∃ g, e = .returned (.tuple #[.slice (some ⟨g, 0, none⟩) n n, .int .i64 0]) ∧ Ir w' w.heap.size (.slice (some ⟨g, 0, none⟩) n n) n (sw zs i j) ∧ Below w.heap.size w w' := by
  obtain ⟨h64, _⟩ := rfE_0.1 h0
  rw [hn] at h64
  have hsz : n * 8 ≤ 140737488355328 := by omega
  have RF := hid_o (fun (W : World) (h : Qi W ao zs) => refused_len (cap := cap) hn hsz h)
  rw [h0] at RF
  clear h0
  have d1 : decide (0 ≤ (i : Int) ∧ (i : Int) < (n : Int)) = true := decide_eq_true (by omega)
  have d2 : decide (0 ≤ (j : Int) ∧ (j : Int) < (n : Int)) = true := decide_eq_true (by omega)
  go_enter Try.func25, Try.ntmps25
  go_wp2_with (first
    | (go_at_call 55; (with_reducible refine (RF.out _ hc).mono ?_); rintro e w1 ⟨rfl, hb1⟩; have hc1 := hc.below hb1; have B1 := hid_o hb1; clear hb1 hc)
    | (go_at_call 42; (with_reducible refine (pwithin_any (i : Int) _ _).mono ?_); rintro e w3 ⟨rfl, rfl⟩; rw [d1])
    | (go_at_call 42; (with_reducible refine (pwithin_any (j : Int) _ _).mono ?_); rintro e w3 ⟨rfl, rfl⟩; rw [d2])
    | (go_at_call 56; (with_reducible refine (copied_any _ _ _ zs _ hn hsz hc1).mono ?_); rintro e w2 ⟨g, rfl, hI, hb2⟩; have B2 := hid_o (b_of B1.out hb2 B1.out.size); have I2 := hid_o (hI.base B1.out.size); clear hb2 hI hc1 B1)
    | (go_at_call 57; (with_reducible refine (exchange_any _ _ _ _ zs i j _ h64 hi hj I2.out).mono ?_); rintro e w5 ⟨rfl, hI5, hO5⟩; have HI5 := hid_o hI5; have HB5 := hid_o (only_below B2.out hO5 I2.out.lt.1); clear hI5 hO5 B2 I2))
  go_ret2
  exact ⟨g, rfl, HI5.out, HB5.out⟩
def swE (zs : List Int) (i j : Int) : Int := if ¬ rfE zs = 0 then rfE zs else if ¬ (0 ≤ i ∧ i < (zs.length : Int)) ∨ ¬ (0 ≤ j ∧ j < (zs.length : Int)) then 2 else 0
set_option maxHeartbeats 4000000 in
theorem swapped_err (ao : Option Addr) (cap n : Nat) (i j : Int) (zs : List Int) (w : World) (hn : zs.length = n) (hsz : n * 8 ≤ 140737488355328) (h0 : ¬ swE zs i j = 0) (hc : Qi w ao zs) :
    Calls Try.prog 25 #[.slice ao n cap, .int .i64 i, .int .i64 j] w fun e w' => e = .returned (.tuple #[.slice none 0 0, .int .i64 (swE zs i j)]) ∧ Below w.heap.size w w' := by
  have RF := hid_o (fun (W : World) (h : Qi W ao zs) => refused_len (cap := cap) hn hsz h)
  by_cases h1 : rfE zs = 0
  case neg =>
    rw [show swE zs i j = rfE zs from if_pos h1]
    obtain ⟨E, hE⟩ : ∃ E, E = rfE zs := ⟨_, rfl⟩
    rw [← hE] at h1 RF ⊢
    clear hE h0
    go_enter Try.func25, Try.ntmps25
    go_wp2_with (first
      | (go_at_call 55; (with_reducible refine (RF.out _ hc).mono ?_); rintro e w1 ⟨rfl, hb1⟩))
    go_ret2
    exact ⟨rfl, hb1⟩
  have h2 : ¬ (0 ≤ i ∧ i < (zs.length : Int)) ∨ ¬ (0 ≤ j ∧ j < (zs.length : Int)) := by
    by_cases c : ¬ (0 ≤ i ∧ i < (zs.length : Int)) ∨ ¬ (0 ≤ j ∧ j < (zs.length : Int))
    · exact c
    · exact absurd (by unfold swE; rw [if_neg (fun h => h h1), if_neg c]) h0
  have e2 : swE zs i j = 2 := by unfold swE; rw [if_neg (fun h => h h1), if_pos h2]
  rw [e2]
  rw [h1] at RF
  rw [hn] at h2
  clear h0 h1 e2
  by_cases hi : 0 ≤ i ∧ i < (n : Int)
  · have hj := h2.resolve_left (fun h => h hi)
    have d1 := decide_eq_true hi
    have d2 := decide_eq_false hj
    clear h2 hi hj
    go_enter Try.func25, Try.ntmps25
    go_wp2_with (first
      | (go_at_call 55; (with_reducible refine (RF.out _ hc).mono ?_); rintro e w1 ⟨rfl, hb1⟩; have B1 := hid_o hb1; clear hb1 hc)
      | (go_at_call 42; (with_reducible refine (pwithin_any i _ _).mono ?_); rintro e w3 ⟨rfl, rfl⟩; rw [d1])
      | (go_at_call 42; (with_reducible refine (pwithin_any j _ _).mono ?_); rintro e w3 ⟨rfl, rfl⟩; rw [d2]))
    go_ret2
    exact ⟨rfl, B1.out⟩
  · have d1 := decide_eq_false hi
    clear h2 hi
    go_enter Try.func25, Try.ntmps25
    go_wp2_with (first
      | (go_at_call 55; (with_reducible refine (RF.out _ hc).mono ?_); rintro e w1 ⟨rfl, hb1⟩; have B1 := hid_o hb1; clear hb1 hc)
      | (go_at_call 42; (with_reducible refine (pwithin_any i _ _).mono ?_); rintro e w3 ⟨rfl, rfl⟩; rw [d1]))
    go_ret2
    exact ⟨rfl, B1.out⟩

end Go.Proofs.Ytgpjlobclcbniaa
