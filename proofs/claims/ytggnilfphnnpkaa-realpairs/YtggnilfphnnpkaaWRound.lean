/-
  Round of gridworkref01: the word nearest to a whole number of two to the power -2200.
-/
import Derived.Test.YtggnilfphnnpkaaLdx
namespace Go.Proofs.Ytggnilfphnnpkaa
open Fl RowKit

theorem div_bit (n j : Nat) : 2 * (n / 2 ^ (j + 1)) + n / 2 ^ j % 2 = n / 2 ^ j := by
  rw [Nat.pow_succ, ← Nat.div_div_eq_div_mul]; omega
theorem top_bit {n : Nat} (h : 0 < n) : n / 2 ^ n.log2 % 2 = 1 := by
  obtain ⟨h1, h2⟩ := log2_bd h
  have e : n / 2 ^ n.log2 = 1 := by
    have a : 1 ≤ n / 2 ^ n.log2 := (Nat.le_div_iff_mul_le (Nat.two_pow_pos _)).2 (by omega)
    have b : n / 2 ^ n.log2 < 2 := (Nat.div_lt_iff_lt_mul (Nat.two_pow_pos _)).2 (by rw [Nat.pow_succ] at h2; omega)
    omega
  rw [e]
theorem high_bit {n t : Nat} (h : n < 2 ^ t) : n / 2 ^ t % 2 = 0 := by rw [Nat.div_eq_of_lt h]
theorem mod_bit (n c : Nat) : n % 2 ^ (c + 1) = n % 2 ^ c + 2 ^ c * (n / 2 ^ c % 2) := by
  rw [Nat.pow_succ, Nat.mod_mul]
theorem rne_bits (n l : Nat) : rne n (l + 1) = n / 2 ^ (l + 1) + (if n / 2 ^ l % 2 = 1 ∧ (n % 2 ^ l ≠ 0 ∨ n / 2 ^ (l + 1) % 2 = 1) then 1 else 0) := by
  unfold rne
  have h := mod_bit n l
  have h2 : n % 2 ^ l < 2 ^ l := Nat.mod_lt _ (Nat.two_pow_pos _)
  have e : 2 ^ (l + 1) = 2 ^ l + 2 ^ l := by rw [Nat.pow_succ]; omega
  congr 1
  rcases Nat.mod_two_eq_zero_or_one (n / 2 ^ l) with hb | hb
  · rw [hb, Nat.mul_zero] at h
    rw [if_neg (by omega), if_neg (by omega)]
  · rw [hb, Nat.mul_one] at h
    generalize n / 2 ^ (l + 1) % 2 = q at *
    by_cases hz : n % 2 ^ l = 0
    · by_cases hq : q = 1
      · rw [if_pos (by right; omega), if_pos ⟨hb, Or.inr hq⟩]
      · rw [if_neg (by omega), if_neg (by rintro ⟨_, h | h⟩; exact h hz; exact hq h)]
    · rw [if_pos (by left; omega), if_pos ⟨hb, Or.inl hz⟩]
theorem emb_of_neg {v : Int} (h : 2 * v.natAbs < MM) (hv : v < 0) : emb v = MM - v.natAbs := by
  have h1 := emb_neg ((v.natAbs : Nat) : Int)
  have e2 : -((v.natAbs : Nat) : Int) = v := by omega
  rw [e2, emb_nat (by omega), Nat.mod_eq_of_lt (by omega)] at h1
  exact h1.symm
theorem emb_of_pos {v : Int} (h : 2 * v.natAbs < MM) (hv : ¬ v < 0) : emb v = v.natAbs := by
  have e2 : v = ((v.natAbs : Nat) : Int) := by omega
  have h1 := emb_nat (n := v.natAbs) (by omega)
  rw [← e2] at h1; exact h1
theorem emb_below {v : Int} (h : 2 * v.natAbs < MM) : decide (MM ≤ 2 * emb v) = decide (v < 0) := by
  by_cases hv : v < 0
  · rw [emb_of_neg h hv]; simp [hv]; omega
  · rw [emb_of_pos h hv]; simp [hv]; omega

structure RRel (w : World) (Z : List Nat) (wr : World) : Prop where
  blk : Blk wr w.heap.size Z
  bel : Below w.heap.size w wr
theorem RRel.then {w wr w1 : World} {Z : List Nat} (h : RRel w Z wr) (hb : Below wr.heap.size wr w1) : RRel w Z w1 := ⟨h.blk.below hb, h.bel.trans (hb.mono h.bel.size)⟩

/-- Round from the search for the first digit on: the block holds n -/
theorem or00 : bits BinOp.or IntKind.u64 0 0 = 0 := by kernel_rfl
theorem or01 : bits BinOp.or IntKind.u64 0 1 = 1 := by kernel_rfl
theorem or10 : bits BinOp.or IntKind.u64 1 0 = 1 := by kernel_rfl
theorem or11 : bits BinOp.or IntKind.u64 1 1 = 1 := by kernel_rfl

theorem log_small {n : Nat} (h0 : 0 < n) (h : 2 * n < MM) : n.log2 < 4607 := by
  have h1 := (log2_bd h0).1
  have h2 : 2 ^ (n.log2 + 1) < 2 ^ KMM := by rw [← MM_pow, Nat.pow_succ]; omega
  have h3 : n.log2 + 1 < KMM := (Nat.pow_lt_pow_iff_right (by omega)).1 h2
  unfold KMM at h3; omega
theorem word_if (bl : Bool) (y : Nat) : Ieee.double.word bl y = if bl then y + 9223372036854775808 else y := by
  unfold Ieee.Format.word; rw [d_sw]; cases bl <;> simp <;> omega
theorem ld_any (n y low : Nat) (hl1 : 1126 ≤ low) (HLOW : low = lowD n) (hy : y = rung2 n) (HR : rung2 n < 9218868437227405312) (m : Nat) (p : Int) (w0 : World) (hm : m = rne n low) (hp : p = (low : Int) - 2200) :
    Calls Try.prog 60 #[.float .f64 (floatOfInt .f64 (m : Int)), .int .i64 p] w0 fun e w' => ∃ n, e = .returned (.float .f64 y) ∧ w' = w0.drewN n := by
  have e1 : (low - 1126) * 4503599627370496 + m = y := by
    rw [hm, hy, HLOW, rung2]
  have h1 : m ≤ 9007199254740992 := by rw [hm, HLOW]; exact rne_le2 n
  have h2 : 4503599627370496 ≤ m ∨ low - 1126 = 0 := by
    rcases Nat.lt_or_ge 1126 low with h | h
    · exact .inl (by rw [hm]; have := rne_ge2 (n := n) (by rw [← HLOW]; exact h); rw [← HLOW] at this; exact this)
    · exact .inr (by omega)
  refine (ldexp_p m (low - 1126) p w0 (by omega) h1 h2 (by rw [e1, hy]; exact HR)).mono ?_
  rintro e w' ⟨n, rfl, rfl⟩
  exact ⟨n, by rw [e1], rfl⟩
theorem rne_bits2 (n c low M hf Q : Nat) (hll : low = c + 1) (hME : M = n / 2 ^ low) (HHF : hf = n / 2 ^ c % 2) (hQ : Q = if n % 2 ^ c = 0 then 0 else 1) : rne n low = M + if hf = 1 ∧ (Q = 1 ∨ M % 2 = 1) then 1 else 0 := by
  have hbits := rne_bits n c
  rw [← hll, ← hME, ← HHF] at hbits
  rw [hbits]; congr 2
  have : (n % 2 ^ c ≠ 0) = (Q = 1) := by
    rw [hQ]; by_cases h : n % 2 ^ c = 0 <;> simp [h]
  rw [this]
set_option maxRecDepth 100000 in
set_option maxHeartbeats 4000000 in
theorem round_any (X : List Nat) (nt : Nat) (v : Int) (n : Nat) (bl : Bool) (w : World) (hn : n = v.natAbs) (hbl : bl = decide (v < 0)) (oX : okL X) (hv : Lv X = emb v) (hsm : 2 * v.natAbs < MM) (hR : rung2 n < 9218868437227405312) (r : Nat) (hr0 : n = 0 → r = nt) (hr1 : 0 < n → r = Ieee.double.word bl (rung2 n)) :
    Calls Try.prog 46 #[.agg (lim X), .float .f64 nt] w fun e w' => e = .returned (.float .f64 r) ∧ Below w.heap.size w w' := by
  have hb0 : decide (MM ≤ 2 * Lv X) = bl := by rw [hv, hbl]; exact emb_below hsm
  have R0 : RRel w X (w.alloc (.cells (lim X) 54)) := ⟨Blk.new w X, (Below.refl w.heap.size w).alloc (Nat.le_refl _) _⟩
  have HB : Hid (bl = decide (v < 0)) := hbl
  have HV : Hid (Lv X = emb v) := hv
  have HN : Hid (n = v.natAbs) := hn
  have HM : Hid (2 * v.natAbs < MM) := hsm
  have HR0 : Hid (n = 0 → r = nt) := hr0
  have HR1 : Hid (0 < n → r = Ieee.double.word bl (rung2 n)) := hr1
  clear hbl hv hn hsm hr0 hr1
  go_enter Try.func46, Try.ntmps46
  go_upto_region 1 with fail
  obtain ⟨W, hW⟩ : ∃ W, W = w.alloc (.cells (lim X) 54) := ⟨_, rfl⟩
  rw [← hW] at R0 ⊢
  clear hW
  go_upto_if 16 with (first
    | (refine wpList_load_row rfl 54 (.tmp 2) rfl w.heap.size rfl 54 (lim X) (0, 0) _ R0.blk Try.underlying54 rfl (infoL oX) ?_)
    | (go_at_call 58; refine (below_any X _ oX).mono ?_; rintro e w1 ⟨rfl, hb1⟩; have R1 := R0.then hb1))
  go_cut [5, 16] (fun b5 _ wc => b5 = .bool bl ∧ ∃ Z, okL Z ∧ Lv Z = n ∧ RRel w Z wc)
  case first =>
    cases hc : bl
    · go_wp2
      go_meet
      case rel => exact ⟨by rw [hc], X, oX, by rw [HV.out, HN.out]; exact emb_of_pos HM.out (by have := HB.out; rw [hc] at this; simpa using this.symm), R1⟩
    · have hneg : v < 0 := by have := HB.out; rw [hc] at this; simpa using this.symm
      go_wp2_with (first
        | (refine wpList_load_row rfl 54 (.tmp 2) rfl w.heap.size rfl 54 (lim X) (0, 0) _ R1.blk Try.underlying54 rfl (infoL oX) ?_)
        | (go_at_call 56; refine (opp_any X _ oX).mono ?_; rintro e w2 ⟨Y, rfl, oY, vY, hb2⟩; have R2 := R1.then hb2)
        | (refine wpList_store_row rfl 54 (.tmp 2) (.tmp 18) rfl w.heap.size (lim Y) rfl rfl 54 (lim X) R2.blk (infoL oY) (by rw [lim_size, lim_size, oX.len, oY.len]) (lim_one _) ?_))
      go_meet
      case rel =>
        refine ⟨by rw [hc], Y, oY, ?_, R2.blk.setRow Y, below_setRow R2.bel _ _ (Nat.le_refl _)⟩
        have hsm := HM.out
        rw [vY, HV.out, emb_of_neg hsm hneg, HN.out, Nat.mod_eq_of_lt (by omega)]; omega
  case rest =>
    obtain ⟨rfl, Z, oZ, vZ, R⟩ := hcut
    have hsn : 2 * n < MM := by rw [HN.out]; exact HM.out
    clear R0 R1 hb1 HV oX hb0 HM HN HB
    have HVZ : Hid (Lv Z = n) := vZ
    clear vZ
    obtain ⟨t0, ht0⟩ : ∃ t0, t0 = (if n = 0 then 0 else n.log2 + 1) := ⟨_, rfl⟩
    have ht1 : n < 2 ^ t0 := by
      rw [ht0]; split
      · rename_i h; rw [h]; decide
      · exact Nat.lt_log2_self
    have ht2 : t0 ≤ 4608 := by
      rw [ht0]; split
      · omega
      · have := log_small (n := n) (by omega) hsn; omega
    have HT0 : Hid (t0 = (if n = 0 then 0 else n.log2 + 1)) := ht0
    clear ht0
    go_upto_region 5 with fail
    go_loopw [6] (fun tp wr => ∃ (t : Nat) (z : Int), t ≤ 4608 ∧ t0 ≤ t ∧ z = (t : Int) - 1 ∧ tp = .int .i64 z ∧ RRel w Z wr) (fun tp _ => (intOf tp + 1).toNat)
    case atStart => exact ⟨4608, 4607, by omega, ht2, by omega, rfl, R⟩
    case round =>
      clear R
      obtain ⟨t, z, htl, htg, hz, rfl, R⟩ := hrel
      by_cases hE : t = t0
      · have hT := HT0.out
        by_cases hn0 : n = 0
        · rw [if_pos hn0] at hT
          obtain rfl : z = -1 := by omega
          have hres : Hid (r = nt) := HR0.out hn0
          clear hn0 hT hE htg htl hz ht1 ht2 HT0
          go_wp2
          go_ret
          exact ⟨retf hres.out.symm, R.bel⟩
        · rw [if_neg hn0] at hT
          obtain rfl : z = (n.log2 : Int) := by omega
          have hpos : 0 < n := by omega
          have hk := log_small hpos hsn
          have hbit : Lv Z / 2 ^ n.log2 % 2 = 1 := by rw [HVZ.out]; exact top_bit hpos
          have HRES : Hid (r = Ieee.double.word bl (rung2 n)) := HR1.out hpos
          have HPOS : Hid (0 < n) := hpos
          obtain ⟨k, hkk⟩ : ∃ k, k = n.log2 := ⟨_, rfl⟩
          rw [← hkk] at hk hbit ⊢
          have HK : Hid (k = n.log2) := hkk
          clear hn0 hT hE htg htl hz ht1 ht2 HT0 hpos hkk
          go_upto_region 11 with (first
            | (refine wpList_load_rowG (by rfl) 54 (.tmp 2) rfl w.heap.size rfl 54 (lim Z) (0, 0) _ R.blk Try.underlying54 rfl (infoL oZ) ?_)
            | (go_at_call 59; refine (bit_any Z k _ oZ (by omega)).mono ?_; rintro e w1 ⟨rfl, hb1⟩; have R1 := R.then hb1))
          obtain ⟨low, hlw⟩ : ∃ low, low = lowD n := ⟨_, rfl⟩
          have hlow : (if (k : Int) - 52 < 1126 then (1126 : Int) else (k : Int) - 52) = (low : Int) := by
            rw [hlw]; unfold lowD; rw [← HK.out]; split <;> omega
          have hl1 : 1126 ≤ low := by rw [hlw]; exact Nat.le_max_right _ _
          have hl2 : k ≤ low + 52 := by rw [hlw]; unfold lowD; rw [← HK.out]; omega
          have hl3 : low ≤ 4607 := by rw [hlw]; unfold lowD; rw [← HK.out]; omega
          have HM3 : Hid (n / 2 ^ low < 9007199254740992) := by
            rw [hlw]; exact (Nat.div_lt_iff_lt_mul (Nat.two_pow_pos _)).2 (low_bd n)
          have HLOW : Hid (low = lowD n) := hlw
          clear hlw
          rw [hlow]
          clear hlow R hb1 hbit
          have HR : Hid (rung2 n < 9218868437227405312) := hR
          clear hR
          go_upto_region 12 with fail
          go_loopw [8, 9] (fun m i wr => ∃ (j M : Nat) (z : Int), z = (j : Int) - 1 ∧ i = .int .i64 z ∧ m = .int .u64 (M : Int) ∧ Hid (M = n / 2 ^ j) ∧ j ≤ k + 1 ∧ (low ≤ j ∨ j = k + 1) ∧ RRel w Z wr) (fun _ i _ => (intOf i + 1).toNat)
          case atStart =>
            refine ⟨k + 1, 0, (k : Int), by omega, rfl, rfl, ?_, by omega, Or.inr rfl, R1⟩
            show 0 = n / 2 ^ (k + 1)
            rw [Nat.div_eq_of_lt]; rw [HK.out]; exact Nat.lt_log2_self
          case round =>
            clear R1
            obtain ⟨j, M, z, hz, rfl, rfl, hM, hj1, hj2, R⟩ := hrel
            by_cases hE : low < j
            · obtain ⟨j, rfl⟩ : ∃ j', j = j' + 1 := ⟨j - 1, by omega⟩
              obtain rfl : z = (j : Int) := by omega
              clear hz
              obtain ⟨b, hb⟩ : ∃ b, b = Lv Z / 2 ^ j % 2 := ⟨_, rfl⟩
              have hd := div_bit n j
              have hm2 : 2 * M + b = n / 2 ^ j := by rw [hM.out, hb, HVZ.out]; exact hd
              have hm3 : n / 2 ^ j < 9007199254740992 := Nat.lt_of_le_of_lt (Nat.div_le_div_left (Nat.pow_le_pow_right (by omega) (by omega)) (Nat.two_pow_pos _)) HM3.out
              have hm4 : 2 * M + b < 9007199254740992 := by omega
              have HM2 : Hid (2 * M + b = n / 2 ^ j) := hm2
              clear hd hm2 hm3
              go_wp2_with (first
                | (refine wpList_load_rowG (by rfl) 54 (.tmp 2) rfl w.heap.size rfl 54 (lim Z) (0, 0) _ R.blk Try.underlying54 rfl (infoL oZ) ?_)
                | (go_at_call 59; refine (bit_any Z j _ oZ (by omega)).mono ?_; rintro e w2 ⟨rfl, hb2⟩; rw [← hb]; have R2 := R.then hb2))
              go_roundw
              case rel => exact ⟨j, 2 * M + b, (j : Int) - 1, rfl, rfl, by rw [hb]; push_cast; rfl, HM2, by omega, by omega, R2⟩
              case measure => simp [intOf]
            · have hME : Hid (M = n / 2 ^ low) := by
                show M = n / 2 ^ low
                rw [hM.out]
                rcases hj2 with h | h
                · have : j = low := by omega
                  rw [this]
                · have h1 : n < 2 ^ j := by rw [h, HK.out]; exact Nat.lt_log2_self
                  rw [Nat.div_eq_of_lt h1, Nat.div_eq_of_lt (Nat.lt_of_lt_of_le h1 (Nat.pow_le_pow_right (by omega) (by omega)))]
              have hML : M < 9007199254740992 := by rw [hME.out]; exact HM3.out
              have hzl : z < (low : Int) := by omega
              clear hM hj1 hj2 hz hE HM3
              obtain ⟨l, hll⟩ : ∃ l, Hid (low = l + 1) := ⟨low - 1, by show low = low - 1 + 1; omega⟩
              have hl4 : l < 4607 := by have := hll.out; omega
              obtain ⟨hf, hhf⟩ : ∃ hf, Hid (hf = Lv Z / 2 ^ l % 2) := ⟨_, rfl⟩
              have HHF : Hid (hf = n / 2 ^ l % 2) := by rw [← HVZ.out]; exact hhf
              have hf2 : hf < 2 := by rw [hhf.out]; omega
              go_upto_region 17 with (first
                | (refine wpList_load_rowG (by rfl) 54 (.tmp 2) rfl w.heap.size rfl 54 (lim Z) (0, 0) _ R.blk Try.underlying54 rfl (infoL oZ) ?_)
                | (go_at_call 59; rw [show (low : Int) - 1 = (l : Int) by have := hll.out; omega]; refine (bit_any Z l _ oZ (by omega)).mono ?_; rintro e w2 ⟨rfl, hb2⟩; rw [← hhf.out]; have R2 := R.then hb2))
              clear hhf R hb2
              go_upto_region 18 with fail
              go_loopw [11, 12] (fun q i wr => ∃ (c Q : Nat), i = .int .i64 (c : Int) ∧ q = .int .u64 (Q : Int) ∧ Hid (Q = if n % 2 ^ c = 0 then 0 else 1) ∧ c ≤ l ∧ RRel w Z wr) (fun _ i _ => l - (intOf i).toNat)
              case atStart =>
                refine ⟨0, 0, rfl, rfl, ?_, by omega, R2⟩
                show 0 = _
                rw [if_pos (by rw [Nat.pow_zero, Nat.mod_one])]
              case round =>
                clear R2
                obtain ⟨c, Q, rfl, rfl, hQ, hc1, R⟩ := hrel
                have hlo : (low : Int) - 1 = (l : Int) := by have := hll.out; omega
                by_cases hE : c < l
                · obtain ⟨b, hb⟩ : ∃ b, Hid (b = Lv Z / 2 ^ c % 2) := ⟨_, rfl⟩
                  obtain ⟨Q2, hQ2⟩ : ∃ Q2 : Nat, Hid (Q2 = if n % 2 ^ (c + 1) = 0 then 0 else 1) := ⟨_, rfl⟩
                  have hor : bits BinOp.or IntKind.u64 (Q : Int) (b : Int) = (Q2 : Int) := by
                    have h1 := mod_bit n c
                    have hp := Nat.two_pow_pos c
                    rw [hQ.out, hb.out, hQ2.out, HVZ.out, h1]
                    rcases Nat.mod_two_eq_zero_or_one (n / 2 ^ c) with h | h
                    · rw [h, Nat.mul_zero, Nat.add_zero]
                      split
                      · exact or00
                      · exact or10
                    · rw [h, Nat.mul_one, if_neg (show ¬ (n % 2 ^ c + 2 ^ c = 0) by omega)]
                      split
                      · exact or01
                      · exact or11
                  go_wp2_with (first
                    | (refine wpList_load_rowG (by rfl) 54 (.tmp 2) rfl w.heap.size rfl 54 (lim Z) (0, 0) _ R.blk Try.underlying54 rfl (infoL oZ) ?_)
                    | (go_at_call 59; refine (bit_any Z c _ oZ (by omega)).mono ?_; rintro e w3 ⟨rfl, hb3⟩; rw [← hb.out]; have R3 := R.then hb3))
                  go_roundw
                  case rel => exact ⟨c + 1, Q2, by push_cast; rfl, rfl, hQ2, by omega, R3⟩
                  case measure => simp [intOf]; omega
                · obtain rfl : c = l := by omega
                  have hQ2 : Q < 2 := by rw [hQ.out]; split <;> omega
                  obtain ⟨y, hy⟩ : ∃ y, Hid (y = rung2 n) := ⟨_, rfl⟩
                  have hyl : y < 9223372036854775808 := by have := HR.out; have := hy.out; omega
                  have hHB := rne_bits2 n c low M hf Q hll.out hME.out HHF.out hQ.out
                  have hrs : Hid (r = if bl then y + 9223372036854775808 else y) := by
                    show _ = _
                    rw [HRES.out, hy.out]; exact word_if _ _
                  by_cases hf1 : hf = 1
                  · subst hf1
                    by_cases hq1 : Q = 1
                    · subst hq1
                      rw [if_pos ⟨rfl, Or.inl rfl⟩] at hHB
                      have HHB : Hid (rne n low = M + 1) := hHB
                      clear hHB
                      cases hbl : bl
                      · rw [hbl] at hrs
                        have hrs : Hid (r = y) := hrs.out
                        go_wp2_with (first
                          | (go_at_call 60; rw [show (M : Int) + 1 = ((M + 1 : Nat) : Int) by push_cast; rfl]; refine (ld_any n y low hl1 HLOW.out hy.out HR.out (M + 1) _ _ HHB.out.symm (by omega)).mono ?_; rintro e w3 ⟨nd, rfl, rfl⟩))
                        go_ret
                        exact ⟨retf hrs.out.symm, below_drewN R.bel nd⟩
                      · rw [hbl] at hrs
                        have hrs : Hid (r = y + 9223372036854775808) := hrs.out
                        go_wp2_with (first
                          | (go_at_call 60; rw [show (M : Int) + 1 = ((M + 1 : Nat) : Int) by push_cast; rfl]; refine (ld_any n y low hl1 HLOW.out hy.out HR.out (M + 1) _ _ HHB.out.symm (by omega)).mono ?_; rintro e w3 ⟨nd, rfl, rfl⟩))
                        go_ret
                        exact ⟨retf (by rw [hrs.out]; exact neg_of_pos hyl), below_drewN R.bel nd⟩
                    · obtain rfl : Q = 0 := by omega
                      by_cases hm1 : M % 2 = 1
                      · rw [if_pos ⟨rfl, Or.inr hm1⟩] at hHB
                        have HHB : Hid (rne n low = M + 1) := hHB
                        have hm1i : (M : Int) % 2 = 1 := by omega
                        clear hHB
                        cases hbl : bl
                        · rw [hbl] at hrs
                          have hrs : Hid (r = y) := hrs.out
                          go_wp2_with (first
                            | (go_at_call 60; rw [show (M : Int) + 1 = ((M + 1 : Nat) : Int) by push_cast; rfl]; refine (ld_any n y low hl1 HLOW.out hy.out HR.out (M + 1) _ _ HHB.out.symm (by omega)).mono ?_; rintro e w3 ⟨nd, rfl, rfl⟩))
                          go_ret
                          exact ⟨retf hrs.out.symm, below_drewN R.bel nd⟩
                        · rw [hbl] at hrs
                          have hrs : Hid (r = y + 9223372036854775808) := hrs.out
                          go_wp2_with (first
                            | (go_at_call 60; rw [show (M : Int) + 1 = ((M + 1 : Nat) : Int) by push_cast; rfl]; refine (ld_any n y low hl1 HLOW.out hy.out HR.out (M + 1) _ _ HHB.out.symm (by omega)).mono ?_; rintro e w3 ⟨nd, rfl, rfl⟩))
                          go_ret
                          exact ⟨retf (by rw [hrs.out]; exact neg_of_pos hyl), below_drewN R.bel nd⟩
                      · rw [if_neg (by omega)] at hHB
                        have HHB : Hid (rne n low = M) := hHB
                        have hm1i : (M : Int) % 2 = 0 := by omega
                        clear hHB
                        cases hbl : bl
                        · rw [hbl] at hrs
                          have hrs : Hid (r = y) := hrs.out
                          go_wp2_with (first
                            | (go_at_call 60; refine (ld_any n y low hl1 HLOW.out hy.out HR.out M _ _ HHB.out.symm (by omega)).mono ?_; rintro e w3 ⟨nd, rfl, rfl⟩))
                          go_ret
                          exact ⟨retf hrs.out.symm, below_drewN R.bel nd⟩
                        · rw [hbl] at hrs
                          have hrs : Hid (r = y + 9223372036854775808) := hrs.out
                          go_wp2_with (first
                            | (go_at_call 60; refine (ld_any n y low hl1 HLOW.out hy.out HR.out M _ _ HHB.out.symm (by omega)).mono ?_; rintro e w3 ⟨nd, rfl, rfl⟩))
                          go_ret
                          exact ⟨retf (by rw [hrs.out]; exact neg_of_pos hyl), below_drewN R.bel nd⟩
                  · rw [if_neg (by omega)] at hHB
                    have HHB : Hid (rne n low = M) := hHB
                    clear hHB
                    cases hbl : bl
                    · rw [hbl] at hrs
                      have hrs : Hid (r = y) := hrs.out
                      go_wp2_with (first
                        | (go_at_call 60; refine (ld_any n y low hl1 HLOW.out hy.out HR.out M _ _ HHB.out.symm (by omega)).mono ?_; rintro e w3 ⟨nd, rfl, rfl⟩))
                      go_ret
                      exact ⟨retf hrs.out.symm, below_drewN R.bel nd⟩
                    · rw [hbl] at hrs
                      have hrs : Hid (r = y + 9223372036854775808) := hrs.out
                      go_wp2_with (first
                        | (go_at_call 60; refine (ld_any n y low hl1 HLOW.out hy.out HR.out M _ _ HHB.out.symm (by omega)).mono ?_; rintro e w3 ⟨nd, rfl, rfl⟩))
                      go_ret
                      exact ⟨retf (by rw [hrs.out]; exact neg_of_pos hyl), below_drewN R.bel nd⟩
      · obtain ⟨j, hj⟩ : ∃ j, t = j + 1 := ⟨t - 1, by omega⟩
        subst hj
        obtain rfl : z = (j : Int) := by omega
        have hbit : Lv Z / 2 ^ j % 2 = 0 := by
          rw [HVZ.out]; exact high_bit (Nat.lt_of_lt_of_le ht1 (Nat.pow_le_pow_right (by omega) (by omega)))
        clear hz ht1
        go_wp2_with (first
          | (refine wpList_load_rowG (by rfl) 54 (.tmp 2) rfl w.heap.size rfl 54 (lim Z) (0, 0) _ R.blk Try.underlying54 rfl (infoL oZ) ?_)
          | (go_at_call 59; refine (bit_any Z j _ oZ (by omega)).mono ?_; rintro e w1 ⟨rfl, hb1⟩; have R1 := R.then hb1))
        go_roundw
        case rel => exact ⟨j, (j : Int) - 1, by omega, by omega, rfl, rfl, R1⟩
        case measure => simp [intOf]

end Go.Proofs.Ytggnilfphnnpkaa
