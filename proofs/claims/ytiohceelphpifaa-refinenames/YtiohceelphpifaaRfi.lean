/-
  What refine's allFinite and Left hand back.
-/
import Derived.Test.YtiohceelphpifaaRfh
import Derived.Test.YtiohceelphpifaaSlf
namespace Go.Proofs.Ytiohceelphpifaa
open Fl RowKit

set_option maxHeartbeats 1000000 in
theorem rallfin_any (ao : Option Addr) (cap n : Nat) (xs : List Cw) (w : World) (hn : xs.length = n) (hsz : n ≤ 1000000000000000) (hc : Rc w ao xs) (hx : okl xs) :
    Calls Try.prog 34 #[.slice ao n cap] w fun e w' => e = .returned (.bool (finL xs n)) ∧ w' = w := by
  have NT : Hid (∀ k, k < n → finL xs k = true → finZ (zat xs k) = false → finL xs n = false) := fun k hk a c => by
    cases e : finL xs n
    · rfl
    · rw [finL_iff.1 e k hk] at c; cases c
  obtain ⟨r, hr⟩ : ∃ r, r = finL xs n := ⟨_, rfl⟩
  rw [← hr] at NT ⊢
  have HR := hid_o hr
  clear hr
  go_enter Try.func34, Try.ntmps34
  go_wp2
  go_loopw [7] (fun i wr => ∃ (k : Nat), k ≤ n ∧ i = .int .i64 k ∧ finL xs k = true ∧ wr = w) (fun i _ => n - (intOf i).toNat)
  case atStart => exact ⟨0, Nat.zero_le _, rfl, rfl, rfl⟩
  case round =>
    obtain ⟨k, hk, rfl, hf, hw⟩ := hrel
    by_cases hlt : k < n
    · obtain ⟨b, off, rfl, hb, hcx⟩ := hc k (by omega)
      rw [← hw] at hb hcx
      have HW : Hid (wr = w) := hw
      have F2 : finL xs (k + 1) = (finL xs k && finZ (zat xs k)) := rfl
      rw [hf, Bool.true_and] at F2
      have ho := hx k
      have F1 := hid_o (NT.out k hlt hf)
      obtain ⟨x, hxe⟩ : ∃ x, x = zat xs k := ⟨_, rfl⟩
      rw [← hxe] at hcx F1 F2 ho
      unfold cx at hcx
      have G2 : Hid (finL xs (k + 1) = finZ x) := F2
      clear hxe hc hf hw F2 hx
      cases f1 : finZ x
      · have e1 : r = false := F1.out f1
        subst e1
        go_wp2_with (go_at_call 55; (with_reducible refine (fin_walk ho).mono ?_); rintro e w' ⟨rfl, rfl⟩; rw [f1])
        go_ret
        exact ⟨rfl, HW.out⟩
      · go_wp2_with (go_at_call 55; (with_reducible refine (fin_walk ho).mono ?_); rintro e w' ⟨rfl, rfl⟩; rw [f1])
        exact ⟨⟨k + 1, by omega, by go_num, by rw [G2.out]; exact f1, HW.out⟩, by simp [intOf]; omega⟩
    · have e : k = n := by omega
      subst e
      have HW : Hid (wr = w) := hw
      have e1 : r = true := HR.out.trans hf
      subst e1
      clear hx hc hf hw
      go_wp2
      go_ret
      exact ⟨rfl, HW.out⟩


/-- what is left, row by row -/
def lfF (C : Nat) (data xs bs : List Cw) (i : Nat) : Cn := leftZ C (fun k => zat data (i * C + k)) (zat xs) (zat bs i)
theorem leftZ_congr {n : Nat} {z z' x x' : Nat → Cw} {b : Cw} (hz : ∀ k, k < n → z k = z' k) (hx : ∀ k, k < n → x k = x' k) : leftZ n z x b = leftZ n z' x' b := by
  have h : ∀ m, m ≤ n → reT z x m = reT z' x' m ∧ reL z x m = reL z' x' m ∧ imT z x m = imT z' x' m ∧ imL z x m = imL z' x' m := by
    intro m
    induction m with
    | zero => intro _; exact ⟨rfl, rfl, rfl, rfl⟩
    | succ m ih =>
      intro hm
      obtain ⟨a1, a2, a3, a4⟩ := ih (by omega)
      unfold reT reL imT imL
      rw [a1, a2, a3, a4, hz m (by omega), hx m (by omega)]
      exact ⟨rfl, rfl, rfl, rfl⟩
  obtain ⟨a1, a2, a3, a4⟩ := h n (Nat.le_refl _)
  unfold leftZ
  rw [a1, a2, a3, a4]
set_option maxHeartbeats 8000000 in
theorem left_ok (R C : Nat) (A X B : Option Addr) (ca cx' cb : Nat) (data xs bs : List Cw) (w : World) (hR : R ≤ 64) (hC : C ≤ 64) (hd : data.length = R * C) (hx : xs.length = C) (hb : bs.length = R) (hcap : R * C ≤ ca) (hA : A = none ∧ ca = 0 ∨ ∃ g off, A = some ⟨g, off, none⟩)
    (rd : Rc w A data) (rx : Rc w X xs) (rb : Rc w B bs) (od : okl data) (ox : okl xs) (ob : okl bs) (f1 : finL data (R * C) = true) (f2 : finL xs C = true) (f3 : finL bs R = true) :
    Calls Try.prog 12 #[.agg #[.int .i64 R, .int .i64 C, .slice A (R * C) ca], .slice X C cx', .slice B R cb] w fun e w' => ∃ v E, e = .returned (.tuple #[v, .int .i64 E]) ∧ Got w w' R (finS (lfF C data xs bs) R) (lfF C data xs bs) v E ∧ Below w.heap.size w w' := by
  obtain ⟨i0, hi, hz0, hz1, hz2⟩ := info_parts Try.infoC
  have h4 := le_4096 hR hC
  have hmb : mb R C (R * C) = true := by unfold mb; simp; omega
  obtain ⟨N, hne⟩ : ∃ N, N = R * C := ⟨_, rfl⟩
  rw [← hne] at h4 hcap hd f1 hmb ⊢
  have HN := hid_o hne
  have HMB := hid_o hmb
  have HD := hid_o rd.rcb
  have HX := hid_o rx.rcb
  have HB := hid_o rb.rcb
  have HDO := hid_o od
  have HXO := hid_o ox
  have HBO := hid_o ob
  have HDL := hid_o hd
  have HXL := hid_o hx
  have HBL := hid_o hb
  have F1 := hid_o f1
  have F2 := hid_o f2
  have F3 := hid_o f3
  clear hne hmb rd rx rb od ox ob f1 f2 f3 hd hx hb
  go_enter Try.func12, Try.ntmps12
  go_wp2_with (first
    | (go_at_call 33; refine (mcheck _ _ _ _ _ _ (by omega)).mono ?_; rintro e w1 ⟨rfl, hb1⟩; rw [HMB.out]; have V1 := (v3_new w _ _ _ _).below hb1; have B1 : Below w.heap.size w w1 := (bal _ _).trans (hb1.mono (by simp)); have HV := hid_o V1; have HB1 := hid_o B1; obtain ⟨ql, q0, q1, q2, q3, q4, q5⟩ := V1; clear hb1 B1)
    | (go_at_call 34; (with_reducible refine (rallfin_any A ca N data w1 HDL.out (by omega) ((HD.out.later HB1.out).rc HB1.out.size) HDO.out).mono ?_); rintro e w' ⟨rfl, hw'⟩; subst w'; rw [F1.out])
    | (go_at_call 34; (with_reducible refine (rallfin_any X cx' C xs w1 HXL.out (by omega) ((HX.out.later HB1.out).rc HB1.out.size) HXO.out).mono ?_); rintro e w' ⟨rfl, hw'⟩; subst w'; rw [F2.out])
    | (go_at_call 34; (with_reducible refine (rallfin_any B cb R bs w1 HBL.out (by omega) ((HB.out.later HB1.out).rc HB1.out.size) HBO.out).mono ?_); rintro e w' ⟨rfl, hw'⟩; subst w'; rw [F3.out])
    | (at_make; refine wpList_make_full _ rfl _ _ 26 rfl w1.heap.size 56 i0 (.complex .f64 0 0) 1 Try.underlying26 hi hz0 hz1 _ _ _ _ R rfl rfl rfl rfl (by rw [hz2]; omega) (by unfold maxLen; omega) (Nat.le_refl _) ?_; intro w2 hown hgrow))
  have HB2 : Hid (Below w.heap.size w w2) := HB1.out.grown hgrow HB1.out.size (by intro k hk; simp at hk)
  have BB : Below w1.heap.size w1 w2 := (Below.refl _ _).grown hgrow (Nat.le_refl _) (by intro k hk; simp at hk)
  have HV2 := hid_o (HV.out.below BB)
  rw [made_zeroC, ro_zero] at hown
  have RW : Hid (Rw w2 w1.heap.size (.slice (some ⟨w1.heap.size, 0, none⟩) R R) R (ro R (fun _ => (0, 0)))) := ⟨ro_len _ _, hown⟩
  clear hown hgrow BB HV q0 q1 q2 q3 q4 q5 F1 F2 F3 HMB
  obtain ⟨g, hg⟩ : ∃ g, g = w1.heap.size := ⟨_, rfl⟩
  rw [← hg] at RW ql ⊢
  clear HB1 hg
  go_loopw [49] (fun iv wr => ∃ (i : Nat) (y : Nat → Cw), i ≤ R ∧ iv = .int .i64 i ∧ (∀ j, j < i → repz (lfF C data xs bs j) (y j)) ∧ Rw wr g (.slice (some ⟨g, 0, none⟩) R R) R (ro R y) ∧ V3 w.heap.size (.int .i64 R) (.int .i64 C) (.slice A N ca) wr ∧ Below w.heap.size w wr) (fun iv _ => R - (intOf iv).toNat)
  case atStart => exact ⟨0, _, Nat.zero_le _, rfl, fun j hj => absurd hj (by omega), RW.out, HV2.out, HB2.out⟩
  case round =>
    clear RW HV2 HB2
    obtain ⟨i, y, hin, rfl, hy, hrw, hV, hbel⟩ := hrel
    by_cases hlt : i < R
    · obtain ⟨b2, o2, rfl, hb2, hc2⟩ := (HB.out.later hbel) i (by rw [HBL.out]; exact hlt)
      have hbz := HBO.out i
      have HXW := hid_o ((HX.out.later hbel).rc hbel.size)
      have hkN : i * C + C ≤ N := by rw [HN.out]; have := Nat.mul_le_mul_right C (show i + 1 ≤ R by omega); rw [Nat.succ_mul] at this; exact this
      have cy := rw_cell hrw hlt
      have fz := hrw.own.frozenAt i
      obtain ⟨z, hze⟩ : ∃ z, z = zat bs i := ⟨_, rfl⟩
      rw [← hze] at hc2 hbz
      unfold cx at hc2 cy
      have c0 := hV.c0
      have c1 := hV.c1
      have c2 := hV.c2
      have vl := hV.lt
      have gl := hrw.lt.2
      have hLF : lfF C data xs bs i = leftZ C (fun k => zat data (i * C + k)) (zat xs) z := by unfold lfF; rw [hze]
      have HLF := hid_o hLF
      have HY := hid_o hy
      have HRW := hid_o hrw
      have HVv := hid_o hV
      have HBE := hid_o hbel
      have HZ := hid_o hbz
      have hRc := (HD.out.later hbel).rc hbel.size
      by_cases hC0 : C = 0
      · have HLR := hid_o (fun (r : Option Addr) (cr : Nat) => lirow_any r X cr cx' 0 C [] xs z wr rfl HXL.out (Nat.zero_le _) (by omega) (fun k hk => absurd hk (by simp)) HXW.out HZ.out)
        have hL2 : lfF C data xs bs i = leftZ 0 (zat []) (zat xs) z := by rw [HLF.out, hC0]; exact leftZ_congr (fun k hk => absurd hk (by omega)) (fun k hk => absurd hk (by omega))
        have HL2 := hid_o hL2
        clear hL2 hLF hy hrw hV hbel hbz hRc hze HB HX HD HLF hkN
        have hm : IntKind.i64.wrap ((i : Int) * (C : Int)) = 0 := by rw [hC0]; simp [IntKind.wrap_i64]
        have hm2 : IntKind.i64.wrap (((i : Int) + 1) * (C : Int)) = 0 := by rw [hC0]; simp [IntKind.wrap_i64]
        have hm' : wrap64 ((i : Int) * (C : Int)) = 0 := by rw [hC0]; simp [wrap64]
        have hm2' : wrap64 (((i : Int) + 1) * (C : Int)) = 0 := by rw [hC0]; simp [wrap64]
        have HC0 := hid_o hC0
        clear hC0
        rcases hA with ⟨rfl, rfl⟩ | ⟨ga, oa, rfl⟩
        all_goals
          go_wp2_with (go_at_call 35; (with_reducible refine (HLR.out _ _).mono ?_); rintro e w3 ⟨r, rfl, hr, hb3⟩; have cy3 := (hb3.cell (p := ⟨g, i, none⟩) gl).trans cy; have fz3 := (hb3.frozen (p := ⟨g, i, none⟩) gl).trans fz; have gl3 := Nat.lt_of_lt_of_le gl hb3.size; have HR := hid_o hr; have HB3 := hid_o hb3; clear hr hb3)
        all_goals
          go_roundw
          case measure => simp [intOf]; omega
          case rel =>
            refine ⟨i + 1, upz y i r, by omega, by go_num, fun j hj => ?_, rw_set (HRW.out.below HB3.out) i r, (HVv.out.below HB3.out).other (q := ⟨g, i, none⟩) (by show g ≠ w.heap.size; omega) _, (HBE.out.trans (HB3.out.mono HBE.out.size)).setCell (p := ⟨g, i, none⟩) (by show w.heap.size ≤ g; omega) _⟩
            by_cases e : j = i
            · subst e; rw [upz_self, HL2.out]; exact HR.out
            · rw [upz_ne _ _ e]; exact HY.out j (by omega)
      · have hCp : 0 < C := by omega
        obtain ⟨ga, oa, hAe, hBl, hcell⟩ := hRc (i * C) (by rw [HDL.out]; omega)
        rw [ro_of HDL.out] at hRc
        have hsub := sub_rc hRc hAe hBl (i * C) C (by omega)
        have HLR := hid_o (lirow_any _ X (ca - i * C) cx' C C _ xs z wr (ro_len _ _) HXL.out (Nat.le_refl _) (by omega) hsub HXW.out HZ.out)
        have hL2 : lfF C data xs bs i = leftZ C (zat (ro C (fun j => zat data (i * C + j)))) (zat xs) z := HLF.out.trans (leftZ_congr (fun k hk => by rw [ro_at _ hk]) (fun k hk => rfl))
        have HL2 := hid_o hL2
        clear hA hcell hsub hRc hLF HLF hL2 hy hrw hV hbel hbz hze HB HX HD
        subst hAe
        obtain ⟨k, hke⟩ : ∃ k, k = i * C := ⟨_, rfl⟩
        have k1 : i ≤ 1000 := by omega
        have k2 : C ≤ 1000 := by omega
        have k3 : i + 1 ≤ 1000 := by omega
        have hm := wrap_mul k1 k2
        have hm2 := wrap_mul k3 k2
        rw [Nat.succ_mul, Int.natCast_add, Int.natCast_one] at hm2
        rw [← hke] at hm hm2 hkN HLR HL2
        have HQL := hid_o ql
        have HHB := hid_o hb2
        have HHA := hid_o hBl
        have HGL := hid_o gl
        clear hke ql hb2 hBl hC0 k1 k2 k3 gl vl
        go_wp2_with (go_at_call 35; (try simp only [Nat.add_sub_cancel_left]); (with_reducible refine HLR.out.mono ?_); rintro e w3 ⟨r, rfl, hr, hb3⟩; have cy3 := (hb3.cell (p := ⟨g, i, none⟩) HGL.out).trans cy; have fz3 := (hb3.frozen (p := ⟨g, i, none⟩) HGL.out).trans fz; have HR := hid_o hr; have HB3 := hid_o hb3; clear hr hb3)
        go_roundw
        case measure => simp [intOf]; omega
        case rel =>
          refine ⟨i + 1, upz y i r, by omega, by go_num, fun j hj => ?_, rw_set (HRW.out.below HB3.out) i r, (HVv.out.below HB3.out).other (q := ⟨g, i, none⟩) (by have := HQL.out; show g ≠ w.heap.size; omega) _, (HBE.out.trans (HB3.out.mono HBE.out.size)).setCell (p := ⟨g, i, none⟩) (by have := HQL.out; show w.heap.size ≤ g; omega) _⟩
          by_cases e : j = i
          · subst e; rw [upz_self, HL2.out]; exact HR.out
          · rw [upz_ne _ _ e]; exact HY.out j (by omega)
    · have e : i = R := by omega
      subst e
      have HY := hid_o hy
      have HRW := hid_o hrw
      have HBE := hid_o hbel
      have HAF := hid_o (rallfin_any (some ⟨g, 0, none⟩) i i (ro i y) wr (ro_len _ _) (by omega) hrw.rc (ro_okl hy))
      have hF := finL_S hy i (Nat.le_refl _)
      rw [hF] at HAF
      clear hrw hbel hy hV HB HX HD hF
      cases hk : finS (lfF C data xs bs) i
      all_goals
        rw [hk] at HAF
        go_wp2_with (go_at_call 34; (with_reducible refine HAF.out.mono ?_); rintro e w' ⟨rfl, hw'⟩; subst w')
        go_ret2
      · exact ⟨_, _, rfl, .inr ⟨hk, rfl, rfl⟩, HBE.out⟩
      · exact ⟨_, _, rfl, .inl ⟨hk, rfl, g, y, rfl, HY.out, rw_base HRW.out (by omega)⟩, HBE.out⟩
end Go.Proofs.Ytiohceelphpifaa
