/-
  What refine's bettered hands back.
-/
import Derived.Test.YtiohceelphpifaaRfj
import Derived.Test.YtiohceelphpifaaSlg
namespace Go.Proofs.Ytiohceelphpifaa
open Fl RowKit

/-- a solution with what solves for what it leaves over -/
def btX (N : Nat) (M : Nat → Nat → Cw) (o : Nat → Nat) (xs ls : List Cw) (k : Nat) : Cn := addZ (anz (zat xs k)) (solX N M o ls k)
def btK (N : Nat) (M : Nat → Nat → Cw) (o : Nat → Nat) (xs ls : List Cw) : Bool := solK N M o ls && finS (btX N M o xs ls) N
theorem add_zz {W : World} {x y : Cw} {X Y : Cn} (hx : repz X x) (hy : repz Y y) : Calls Try.prog 71 #[.complex .f64 x.1 x.2, .complex .f64 y.1 y.2] W fun e w' => ∃ (r : Cw) (n : Nat), e = .returned (.complex .f64 r.1 r.2) ∧ repz (addZ X Y) r ∧ w' = W.drewN n :=
  (add_any W hx.1 hx.2 hy.1 hy.2).mono (by rintro e w' ⟨re, im, n, rfl, h1, h2, rfl⟩; exact ⟨(re, im), n, rfl, ⟨h1, h2⟩, rfl⟩)
theorem rcb_at {b g n : Nat} {w : World} {f : Nat → Cw} (h : Rcb b w (some ⟨g, 0, none⟩) (ro n f)) {i : Nat} (hi : i < n) : g < b ∧ w.cell? ⟨g, i, none⟩ = some (cx (f i)) := by
  obtain ⟨B, off, he, hB, hc⟩ := h i (by rw [ro_len]; exact hi)
  rw [ro_at _ hi] at hc
  injection he with he
  injection he with e1 e2
  subst e1
  subst e2
  rw [Nat.zero_add] at hc
  exact ⟨hB, hc⟩
set_option maxHeartbeats 4000000 in
theorem better_any {w : World} {v : Value} {N : Nat} {M : Nat → Nat → Cw} {o : Nat → Nat} {s : Int} (h : Lhd w v N M o s) {X L : Option Addr} {cx' cl : Nat} {xs ls : List Cw} (hx : xs.length = N) (hl : ls.length = N) (hn : N ≤ 64) (rx : Rc w X xs) (rl : Rc w L ls) (ox : okl xs) (ol : okl ls) (h0 : rfS N s N ls = 0) (hM : okM N M) (ho : ∀ i, i < N → o i < N) :
    Calls Try.prog 45 #[v, .slice X N cx', .slice L N cl] w fun e w' => ∃ u E, e = .returned (.tuple #[u, .int .i64 E]) ∧ Got w w' N (btK N M o xs ls) (btX N M o xs ls) u E ∧ Below w.heap.size w w' := by
  obtain ⟨i0, hi, hz0, hz1, hz2⟩ := info_parts Try.infoC
  have HSO := hid_o (solve_ok (cap := cl) h hl (by omega) hn rl ol h0 hM ho)
  have HXR := hid_o rx.rcb
  have HXO := hid_o ox
  have HXL := hid_o hx
  cases hk : solK N M o ls
  · have HS2 : Hid (Calls Try.prog 70 #[v, .slice L N cl] w fun e w' => e = .returned (.tuple #[.slice none 0 0, .int .i64 6]) ∧ Below w.heap.size w w') := HSO.out.mono (by
      rintro e w' ⟨u, E, rfl, hG, hb⟩
      rcases hG with ⟨k1, _⟩ | ⟨_, rfl, rfl⟩
      · rw [hk] at k1; cases k1
      · exact ⟨rfl, hb⟩)
    have hK : btK N M o xs ls = false := by unfold btK; rw [hk]; rfl
    have HK := hid_o hK
    clear hK hk HSO h hx hl rx rl ox ol h0 hM ho
    go_enter Try.func45, Try.ntmps45
    go_wp2_with (go_at_call 70; (with_reducible refine HS2.out.mono ?_); rintro e w1 ⟨rfl, hb⟩; have HB := hid_o hb; clear hb HS2)
    go_ret2
    exact ⟨_, _, rfl, .inr ⟨HK.out, rfl, rfl⟩, HB.out⟩
  · have HS2 : Hid (Calls Try.prog 70 #[v, .slice L N cl] w fun e w' => ∃ g y, e = .returned (.tuple #[.slice (some ⟨g, 0, none⟩) N N, .int .i64 0]) ∧ (∀ j, j < N → repz (solX N M o ls j) (y j)) ∧ Rc w' (some ⟨g, 0, none⟩) (ro N y) ∧ Below w.heap.size w w') := HSO.out.mono (by
      rintro e w' ⟨u, E, rfl, hG, hb⟩
      rcases hG with ⟨_, rfl, g, y, rfl, k2, k3⟩ | ⟨k1, _⟩
      · exact ⟨g, y, rfl, k2, k3.rc, hb⟩
      · rw [hk] at k1; cases k1)
    have hK : btK N M o xs ls = finS (btX N M o xs ls) N := by unfold btK; rw [hk]; rfl
    have HK := hid_o hK
    clear hK hk HSO h hx hl rx rl ox ol h0 hM ho
    go_enter Try.func45, Try.ntmps45
    go_wp2_with (first
      | (go_at_call 70; (with_reducible refine HS2.out.mono ?_); rintro e w1 ⟨gd, yd, rfl, hd, rd, hb⟩; have HD := hid_o hd; have HRD := hid_o rd; have HB1 := hid_o hb; clear hb HS2 hd rd)
      | (at_make; refine wpList_make_full _ rfl _ _ 26 rfl w1.heap.size 56 i0 (.complex .f64 0 0) 1 Try.underlying26 hi hz0 hz1 _ _ _ _ N rfl rfl rfl rfl (by rw [hz2]; omega) (by unfold maxLen; omega) (Nat.le_refl _) ?_; intro w2 hown hgrow))
    have BB : Below w1.heap.size w1 w2 := (Below.refl _ _).grown hgrow (Nat.le_refl _) (by intro k hk; simp at hk)
    have HB2 : Hid (Below w.heap.size w w2) := HB1.out.trans (BB.mono HB1.out.size)
    have HD2 := hid_o (HRD.out.below BB).rcb
    have HRR := hid_o HRD.out.rcb
    rw [made_zeroC, ro_zero] at hown
    have RW : Hid (Rw w2 w1.heap.size (.slice (some ⟨w1.heap.size, 0, none⟩) N N) N (ro N (fun _ => (0, 0)))) := ⟨ro_len _ _, hown⟩
    have HBB := hid_o BB
    have hws := HB1.out.size
    clear hown hgrow BB HRD HD2
    obtain ⟨g, hg⟩ : ∃ g, g = w1.heap.size := ⟨_, rfl⟩
    have HG := hid_o hg
    rw [← hg] at RW hws ⊢
    clear hg
    go_loopw [27] (fun iv wr => ∃ (i : Nat) (y : Nat → Cw), i ≤ N ∧ iv = .int .i64 i ∧ (∀ j, j < i → repz (btX N M o xs ls j) (y j)) ∧ Rw wr g (.slice (some ⟨g, 0, none⟩) N N) N (ro N y) ∧ Below w.heap.size w wr ∧ Below w1.heap.size w1 wr) (fun iv _ => N - (intOf iv).toNat)
    case atStart => exact ⟨0, _, Nat.zero_le _, rfl, fun j hj => absurd hj (by omega), RW.out, HB2.out, HBB.out⟩
    case round =>
      clear RW HB2 HBB
      obtain ⟨i, y, hin, rfl, hy, hrw, hbel, hb1⟩ := hrel
      by_cases hlt : i < N
      · obtain ⟨b1, o1, rfl, hbb1, hc1⟩ := (HXR.out.later hbel) i (by rw [HXL.out]; exact hlt)
        have hc2 : wr.cell? ⟨gd, i, none⟩ = some (cx (yd i)) := by
          obtain ⟨hB, hc⟩ := rcb_at HRR.out hlt
          exact (hb1.cell (p := ⟨gd, i, none⟩) hB).trans hc
        have cy := rw_cell hrw hlt
        have fz := hrw.own.frozenAt i
        have hxz := repz_anz (HXO.out i)
        have hdz := HD.out i hlt
        have hBX : btX N M o xs ls i = addZ (anz (zat xs i)) (solX N M o ls i) := rfl
        obtain ⟨x, hxe⟩ : ∃ x, x = zat xs i := ⟨_, rfl⟩
        rw [← hxe] at hc1 hxz hBX
        obtain ⟨d, hde⟩ : ∃ d, d = yd i := ⟨_, rfl⟩
        rw [← hde] at hc2 hdz
        unfold cx at hc1 hc2 cy
        have HXZ := hid_o hxz
        have HDZ := hid_o hdz
        have HBX := hid_o hBX
        have HY := hid_o hy
        have HRW := hid_o hrw
        have HBE := hid_o hbel
        have HBE1 := hid_o hb1
        clear hxz hdz hBX hy hrw hbel hb1 hxe hde
        go_wp2_with (go_at_call 71; (with_reducible refine (add_zz HXZ.out HDZ.out).mono ?_); rintro e w3 ⟨r, m, rfl, hr, rfl⟩; have HR := hid_o hr; clear hr)
        go_roundw
        case measure => simp [intOf]; omega
        case rel =>
          refine ⟨i + 1, upz y i r, by omega, by go_num, fun j hj => ?_, rw_set (HRW.out.drewN _) i r, (below_drewN HBE.out _).setCell (p := ⟨g, i, none⟩) hws _, (below_drewN HBE1.out _).setCell (p := ⟨g, i, none⟩) (by show w1.heap.size ≤ g; rw [HG.out]; exact Nat.le_refl _) _⟩
          by_cases e : j = i
          · subst e; rw [upz_self, HBX.out]; exact HR.out
          · rw [upz_ne _ _ e]; exact HY.out j (by omega)
      · have e : i = N := by omega
        subst e
        have HY := hid_o hy
        have HRW := hid_o hrw
        have HBE := hid_o hbel
        have HAF := hid_o (rallfin_any (some ⟨g, 0, none⟩) i i (ro i y) wr (ro_len _ _) (by omega) hrw.rc (ro_okl hy))
        have hF := finL_S hy i (Nat.le_refl _)
        rw [hF, ← HK.out] at HAF
        clear hrw hbel hy hb1 hF HXR HD HRR
        cases hk : btK i M o xs ls
        all_goals
          rw [hk] at HAF
          go_wp2_with (go_at_call 34; (with_reducible refine HAF.out.mono ?_); rintro e w' ⟨rfl, hw'⟩; subst w')
          go_ret2
        · exact ⟨_, _, rfl, .inr ⟨hk, rfl, rfl⟩, HBE.out⟩
        · exact ⟨_, _, rfl, .inl ⟨hk, rfl, g, y, rfl, HY.out, rw_base HRW.out hws⟩, HBE.out⟩
end Go.Proofs.Ytiohceelphpifaa
