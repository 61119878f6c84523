/-
  Quotients by 1, -1 and the two units between of numbers whose parts are whole and small: on answers; nothing of any program's text.
-/
import Derived.Test.YtfdnhofkfodcjabTw5
namespace Go.Proofs.Ytfdnhofkfodcjab
open Fl

theorem dq_one {l : Nat} (hl : l < 9218868437227405312) : dq l 4607182418800017408 = l := by
  have e1 : sig 4607182418800017408 = 2 ^ 52 := by decide
  have e2 : ex 4607182418800017408 = 1022 := by decide
  have e3 : ((2 : Nat) ^ 52).log2 = 52 := by decide
  unfold dq
  rw [e1, e2, e3]
  rcases Nat.eq_zero_or_pos (sig l) with h0 | h0
  · have hz : l = 0 := by apply zero_of_sz; unfold sz; rw [h0, Nat.zero_mul]
    rw [h0, Nat.zero_mul, Nat.zero_div, Nat.zero_mod, hz]
    exact nr_zero _
  · have hlog : (sig l).log2 ≤ 52 := by
      have b1 := (log2_bd h0).1
      have h4 : 2 ^ (sig l).log2 < 2 ^ 53 := Nat.lt_of_le_of_lt b1 (sig_lt l)
      have := (Nat.pow_lt_pow_iff_right (by omega : 1 < 2)).1 h4
      omega
    obtain ⟨j, hj⟩ : ∃ j, 54 + 52 - (sig l).log2 = 52 + j := ⟨54 - (sig l).log2, by omega⟩
    rw [hj]
    have q1 : sig l * 2 ^ (52 + j) = sig l * 2 ^ j * 2 ^ 52 := by rw [Nat.add_comm 52 j, Nat.pow_add, Nat.mul_assoc]
    have q2 : sig l * 2 ^ (52 + j) / 2 ^ 52 = sig l * 2 ^ j := by rw [q1]; exact Nat.mul_div_cancel _ (Nat.two_pow_pos 52)
    have q3 : (sig l * 2 ^ (52 + j) % 2 ^ 52 != 0) = false := by rw [q1, Nat.mul_mod_left]; rfl
    rw [q2, q3]
    have q4 : 2 * (sig l * 2 ^ j) + false.toNat = sig l * 2 ^ (j + 1) := by
      show 2 * (sig l * 2 ^ j) + 0 = _
      rw [Nat.pow_succ, Nat.add_zero, Nat.mul_comm 2, Nat.mul_assoc]
    rw [q4]
    have q5 : nr (sig l * 2 ^ (j + 1)) ((ex l : Int) - ((1022 : Nat) : Int) - ((52 + j : Nat) : Int) - 1) = nr (sig l) (-1074 + (ex l : Int)) := by
      rw [← nr_shift (sig l) (j + 1) (-1074 + (ex l : Int))]; congr 1; omega
    rw [q5]
    have q6 : nr (sig l) (-1074 + (ex l : Int)) = nr (sz l) (-1074) := by
      rw [← nr_shift (sig l) (ex l) (-1074 + (ex l : Int))]
      unfold sz; congr 1; omega
    rw [q6]; exact nr_sz (Nat.le_of_lt hl)
theorem div_one {x : Nat} (hx : fin x) : ∃ q, divO x 4607182418800017408 = some q ∧ fin q ∧ val q = val x := by
  have h := div_gen hx (y := 4607182418800017408) (by unfold Fl.fin; decide) (by decide)
  rw [show mg 4607182418800017408 = 4607182418800017408 from by decide, dq_one hx, show ng 4607182418800017408 = false from by decide, Bool.xor_false] at h
  have hb : mg x < 9223372036854775808 := mg_bd x
  refine ⟨_, h, by unfold Fl.fin; rw [word_mg _ hb]; exact hx, ?_⟩
  rw [word_val _ hb]; rfl
theorem div_mone {x : Nat} (hx : fin x) : ∃ q, divO x 13830554455654793216 = some q ∧ fin q ∧ val q = -val x := by
  have h := div_gen hx (y := 13830554455654793216) (by unfold Fl.fin; decide) (by decide)
  rw [show mg 13830554455654793216 = 4607182418800017408 from by decide, dq_one hx, show ng 13830554455654793216 = true from by decide, Bool.xor_true] at h
  have hb : mg x < 9223372036854775808 := mg_bd x
  refine ⟨_, h, by unfold Fl.fin; rw [word_mg _ hb]; exact hx, ?_⟩
  rw [word_val _ hb, sgn_not]; rfl
theorem mul_nought {x z : Nat} (hx : fin x) (hz : mg z = 0) : ∃ m, mulO x z = some m ∧ mg m = 0 := by
  have h := mul_gen hx (fin_zero hz)
  rw [hz, sz_0, Nat.mul_zero, nr_zero] at h
  exact ⟨_, h, mg_word_zero _⟩
theorem add_nought {x z : Nat} (hx : fin x) (hz : mg z = 0) : ∃ r, addO x z = some r ∧ fin r ∧ val r = val x := by
  rw [addO_comm]; exact zero_add hx hz
theorem nought_sub {x z : Nat} (hx : fin x) (lx : x < 18446744073709551616) (hz : mg z = 0) : ∃ r, subO z x = some r ∧ fin r ∧ val r = -val x := by
  rw [subO_add z lx]
  obtain ⟨r, h1, h2, h3⟩ := zero_add (x := ngW x) (by unfold Fl.fin; rw [mg_ngW lx]; exact hx) hz
  exact ⟨r, h1, h2, by rw [h3]; unfold val; rw [mg_ngW lx, ng_ngW lx, sgn_not]⟩
theorem neg_fw {n : Int} (h : n.natAbs < 9007199254740992) : fin (Op.negFloat .f64 (fw n)) ∧ val (Op.negFloat .f64 (fw n)) = -val (fw n) := by
  have l := fw_lt n
  exact ⟨neg_fin l (fw_fin h), neg_val l⟩
section units
variable {p q : Int} (hp : p.natAbs ≤ 32768) (hq : q.natAbs ≤ 32768)
include hp hq
theorem u_m1 {re im : Nat} (h1 : rep (divRe (ans (fw p)) (ans (fw q)) (ans 13830554455654793216) (ans 0)) re) (h2 : rep (divIm (ans (fw p)) (ans (fw q)) (ans 13830554455654793216) (ans 0)) im) :
    FloatKind.f64.format.order re (Op.negFloat .f64 (fw p)) = some .eq ∧ FloatKind.f64.format.order im (Op.negFloat .f64 (fw q)) = some .eq := by
  have fp := fw_fin (small_of hp)
  have fq := fw_fin (small_of hq)
  obtain ⟨np, vp⟩ := neg_fw (small_of hp)
  obtain ⟨nq, vq⟩ := neg_fw (small_of hq)
  have g : geA (sizA (ans 13830554455654793216)) (sizA (ans 0)) = true := by kernel_rfl
  have hR : divA (ans 0) (ans 13830554455654793216) = some 9223372036854775808 := by kernel_rfl
  have hT : addA (ans 13830554455654793216) (mulA (ans 0) (some 9223372036854775808)) = some 13830554455654793216 := by kernel_rfl
  have z0 : mg 9223372036854775808 = 0 := by decide
  obtain ⟨m1, e1, z1⟩ := mul_nought fq z0
  obtain ⟨m2, e2, z2⟩ := mul_nought fp z0
  obtain ⟨a1, f1, k1, v1⟩ := add_nought fp z1
  obtain ⟨a2, f2, k2, v2⟩ := sub_zero fq z2
  obtain ⟨b1, g1, w1, x1⟩ := div_mone k1
  obtain ⟨b2, g2, w2, x2⟩ := div_mone k2
  have c1 : divRe (ans (fw p)) (ans (fw q)) (ans 13830554455654793216) (ans 0) = some b1 := by
    unfold divRe; rw [g]; unfold divRe1; rw [hR, hT, fw_ans (small_of hp), fw_ans (small_of hq)]
    show divA (addA (some (fw p)) (mulO (fw q) 9223372036854775808)) _ = _
    rw [e1]
    show divA (addO (fw p) m1) _ = _
    rw [f1]; exact g1
  have c2 : divIm (ans (fw p)) (ans (fw q)) (ans 13830554455654793216) (ans 0) = some b2 := by
    unfold divIm; rw [g]; unfold divIm1; rw [hR, hT, fw_ans (small_of hp), fw_ans (small_of hq)]
    show divA (subA (some (fw q)) (mulO (fw p) 9223372036854775808)) _ = _
    rw [e2]
    show divA (subO (fw q) m2) _ = _
    rw [f2]; exact g2
  rw [c1] at h1
  rw [c2] at h2
  obtain ⟨_, rfl⟩ := ans_some h1.2
  obtain ⟨_, rfl⟩ := ans_some h2.2
  exact ⟨eq_of_val w1 np (by rw [x1, v1, vp]), eq_of_val w2 nq (by rw [x2, v2, vq])⟩
theorem u_i {re im : Nat} (h1 : rep (divRe (ans (fw p)) (ans (fw q)) (ans 0) (ans 4607182418800017408)) re) (h2 : rep (divIm (ans (fw p)) (ans (fw q)) (ans 0) (ans 4607182418800017408)) im) :
    FloatKind.f64.format.order re (fw q) = some .eq ∧ FloatKind.f64.format.order im (Op.negFloat .f64 (fw p)) = some .eq := by
  have fp := fw_fin (small_of hp)
  have fq := fw_fin (small_of hq)
  obtain ⟨np, vp⟩ := neg_fw (small_of hp)
  have g : geA (sizA (ans 0)) (sizA (ans 4607182418800017408)) = false := by kernel_rfl
  have hR : divA (ans 0) (ans 4607182418800017408) = some 0 := by kernel_rfl
  have hT : addA (mulA (ans 0) (some 0)) (ans 4607182418800017408) = some 4607182418800017408 := by kernel_rfl
  have z0 : mg 0 = 0 := by decide
  obtain ⟨m1, e1, z1⟩ := mul_nought fp z0
  obtain ⟨m2, e2, z2⟩ := mul_nought fq z0
  obtain ⟨a1, f1, k1, v1⟩ := zero_add fq z1
  obtain ⟨a2, f2, k2, v2⟩ := nought_sub fp (fw_lt p) z2
  obtain ⟨b1, g1, w1, x1⟩ := div_one k1
  obtain ⟨b2, g2, w2, x2⟩ := div_one k2
  have c1 : divRe (ans (fw p)) (ans (fw q)) (ans 0) (ans 4607182418800017408) = some b1 := by
    unfold divRe; rw [g]; unfold divRe2; rw [hR, hT, fw_ans (small_of hp), fw_ans (small_of hq)]
    show divA (addA (mulO (fw p) 0) (some (fw q))) _ = _
    rw [e1]
    show divA (addO m1 (fw q)) _ = _
    rw [f1]; exact g1
  have c2 : divIm (ans (fw p)) (ans (fw q)) (ans 0) (ans 4607182418800017408) = some b2 := by
    unfold divIm; rw [g]; unfold divIm2; rw [hR, hT, fw_ans (small_of hp), fw_ans (small_of hq)]
    show divA (subA (mulO (fw q) 0) (some (fw p))) _ = _
    rw [e2]
    show divA (subO m2 (fw p)) _ = _
    rw [f2]; exact g2
  rw [c1] at h1
  rw [c2] at h2
  obtain ⟨_, rfl⟩ := ans_some h1.2
  obtain ⟨_, rfl⟩ := ans_some h2.2
  exact ⟨eq_of_val w1 fq (by rw [x1, v1]), eq_of_val w2 np (by rw [x2, v2, vp])⟩
theorem u_mi {re im : Nat} (h1 : rep (divRe (ans (fw p)) (ans (fw q)) (ans 0) (ans 13830554455654793216)) re) (h2 : rep (divIm (ans (fw p)) (ans (fw q)) (ans 0) (ans 13830554455654793216)) im) :
    FloatKind.f64.format.order re (Op.negFloat .f64 (fw q)) = some .eq ∧ FloatKind.f64.format.order im (fw p) = some .eq := by
  have fp := fw_fin (small_of hp)
  have fq := fw_fin (small_of hq)
  obtain ⟨nq, vq⟩ := neg_fw (small_of hq)
  have g : geA (sizA (ans 0)) (sizA (ans 13830554455654793216)) = false := by kernel_rfl
  have hR : divA (ans 0) (ans 13830554455654793216) = some 9223372036854775808 := by kernel_rfl
  have hT : addA (mulA (ans 0) (some 9223372036854775808)) (ans 13830554455654793216) = some 13830554455654793216 := by kernel_rfl
  have z0 : mg 9223372036854775808 = 0 := by decide
  obtain ⟨m1, e1, z1⟩ := mul_nought fp z0
  obtain ⟨m2, e2, z2⟩ := mul_nought fq z0
  obtain ⟨a1, f1, k1, v1⟩ := zero_add fq z1
  obtain ⟨a2, f2, k2, v2⟩ := nought_sub fp (fw_lt p) z2
  obtain ⟨b1, g1, w1, x1⟩ := div_mone k1
  obtain ⟨b2, g2, w2, x2⟩ := div_mone k2
  have c1 : divRe (ans (fw p)) (ans (fw q)) (ans 0) (ans 13830554455654793216) = some b1 := by
    unfold divRe; rw [g]; unfold divRe2; rw [hR, hT, fw_ans (small_of hp), fw_ans (small_of hq)]
    show divA (addA (mulO (fw p) 9223372036854775808) (some (fw q))) _ = _
    rw [e1]
    show divA (addO m1 (fw q)) _ = _
    rw [f1]; exact g1
  have c2 : divIm (ans (fw p)) (ans (fw q)) (ans 0) (ans 13830554455654793216) = some b2 := by
    unfold divIm; rw [g]; unfold divIm2; rw [hR, hT, fw_ans (small_of hp), fw_ans (small_of hq)]
    show divA (subA (mulO (fw q) 9223372036854775808) (some (fw p))) _ = _
    rw [e2]
    show divA (subO m2 (fw p)) _ = _
    rw [f2]; exact g2
  rw [c1] at h1
  rw [c2] at h2
  obtain ⟨_, rfl⟩ := ans_some h1.2
  obtain ⟨_, rfl⟩ := ans_some h2.2
  exact ⟨eq_of_val w1 nq (by rw [x1, v1, vq]), eq_of_val w2 fp (by rw [x2, v2, Int.neg_neg])⟩
end units

end Go.Proofs.Ytfdnhofkfodcjab
