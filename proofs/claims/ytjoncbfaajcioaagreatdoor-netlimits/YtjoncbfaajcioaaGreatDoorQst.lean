/-
  Short of the package quantity: a real's short digits.
-/
import Derived.Test.YtjoncbfaajcioaaGreatDoorQso
import Derived.Test.YtjoncbfaajcioaaGreatDoorQfu
import Derived.Test.YtjoncbfaajcioaaGreatDoorQpl
import Derived.Test.YtjoncbfaajcioaaGreatDoorQkd
namespace Go.Proofs.YtjoncbfaajcioaaGreatDoor
open RowKit

/-- the short digits of a float of the digits s and the power e, rounded, and how many were told -/
def shD (s e : Nat) : Option (Nat × Nat) := shR (spO s e * 10 ^ spn 2 (spR s e) (spO s e)) (s % 2 == 0) 18 1 0 (spR s e) (spB s e) (spA s e)
/-- without the noughts behind them -/
def shT (D : Nat) : List UInt8 := (dgL 19 D).take (trN (tx (dgL 19 D)) 48 (dgL 19 D).length)
/-- the power of ten of the first -/
def shE (s e D N : Nat) : Int := ((gsP (spT s e) : Int) - gsN (spT s e) + spn 2 (spR s e) (spO s e)) - 1 + (dgL 19 D).length - N
theorem Sv.sp {w : World} {base L : Nat} {vs : Nat → Value} {zs : Nat → Nat} (ends : Bool) (h : Sv w base vs zs L) :
    Sp (w.alloc (.cells #[vs 0, vs 1, vs 2, vs 3, .bool ends] 165)) w.heap.size #[vs 0, vs 1, vs 2, vs 3, .bool ends] base vs zs ends L :=
  ⟨heap_alloc_new w _, fun i hi => by rcases (by omega : i = 0 ∨ i = 1 ∨ i = 2 ∨ i = 3) with q | q | q | q <;> subst q <;> rfl, rfl, fun i hi => wh_alloc (h.wh i hi) _, h.ap, fun i hi hk => by have := ((h.wh i hi).lt hk).1; omega, by have := h.bs; simp; omega⟩
theorem dgL_len : ∀ f u, (dgL f u).length ≤ f + 1 ∧ 0 < (dgL f u).length
  | 0, u => by simp [dgL]
  | f + 1, u => by
    unfold dgL
    split
    · simp
    · have := dgL_len f (u / 10); simp; omega

theorem trN_le (s : ByteArray) (c : Nat) : ∀ n, trN s c n ≤ n
  | 0 => Nat.le_refl _
  | n + 1 => by
    unfold trN
    split
    · exact Nat.le_trans (trN_le s c n) (by omega)
    · exact Nat.le_refl _
theorem tx_take {t : ByteArray} {l : List UInt8} {n : Nat} (h1 : t.size = n) (hn : n ≤ l.length) (h2 : ∀ j, j < t.size → qbyt t j = qbyt (tx l) j) : t = tx (l.take n) := by
  apply tx_ext
  have hl : t.data.toList.length = n := by rw [Array.length_toList]; exact h1
  refine List.ext_getElem (by rw [hl]; simp [tx]; omega) (fun j hj hj2 => ?_)
  have h3 := h2 j (by rw [h1, ← hl]; exact hj)
  unfold qbyt at h3
  have hj3 : j < l.length := by omega
  have hj4 : j < t.size := by rw [h1, ← hl]; exact hj
  simp [tx, Array.getD, hj3, hj4] at h3
  simp [tx]
  exact UInt8.toNat_inj.1 h3
theorem fuint_tx (D : Nat) (hD : D < 10000000000000000000) (w : World) (htab : Pw w) :
    Calls Tryz.prog 110 #[.int .u64 D, .int .i64 10] w fun e w' => e = .returned (.string (tx (dgL 19 D))) ∧ Below w.heap.size w w' := by
  refine (fuint_any D (by omega) w htab).mono ?_
  rintro e w' ⟨rfl, hb⟩
  rw [dgL_eq 19 D (by omega)]
  exact ⟨rfl, hb⟩
set_option maxRecDepth 10000 in
set_option maxHeartbeats 1000000 in
theorem Short_any (x s e D N : Nat) (hx : x < 18446744073709551616) (w : World) (htab : Pw w) (hs : Fl.sig (Fl.mg x) = s) (he : Fl.ex (Fl.mg x) = e) (hs0 : 0 < s) (hsb : s < 9007199254740992) (heb : e ≤ 2046) (hD : shD s e = some (D, N)) (hD2 : D < 10000000000000000000) (hN : N ≤ 20) (hfin : Fl.mg x < 9218868437227405312) :
    Calls Tryz.prog 89 #[.float .f64 x] w fun r w' => r = .returned (.tuple #[.string (tx (shT D)), .int .i64 (shE s e D N), .int .i64 0]) ∧ Below w.heap.size w w' := by
  have hn : Fl.nan x = false := by unfold Fl.nan; simp; omega
  have hmz : 0 < Fl.mg x := by
    rcases Nat.eq_zero_or_pos (Fl.mg x) with h | h
    · rw [h] at hs; exact absurd hs (by rw [show Fl.sig 0 = 0 from rfl]; omega)
    · exact h
  have hk : Qk.kdB x ≤ 2 := by unfold Qk.kdB; rw [hn, if_neg (by simp)]; (repeat' split) <;> omega
  have hkd := fun W => Qk.kind_any x W hx
  have hz : (FloatKind.f64.format.order x 0 == some Ordering.eq) = false := by
    rw [Fl.order_eqb hn rfl]
    refine decide_eq_false (fun h => ?_)
    rw [show Fl.plc 0 = 0 from rfl] at h
    unfold Fl.plc Fl.sgn at h
    split at h <;> omega
  obtain ⟨kd, hkk⟩ : ∃ k, Qk.kdB x = k := ⟨_, rfl⟩
  rw [hkk] at hk hkd
  clear hkk
  have hRO : spR s e < spO s e * 10 ^ spn 2 (spR s e) (spO s e) := spn_lt 2 _ _ (sp_bound hs0 (by have := nbits_le (m := s) (k := 53) (by omega); unfold spT; omega))
  have hlt : q4 (spR s e) (spO s e * 10 ^ spn 2 (spR s e) (spO s e)) (spB s e) (spA s e) 0 < q4 (spR s e) (spO s e * 10 ^ spn 2 (spR s e) (spO s e)) (spB s e) (spA s e) 1 := hRO
  have HD : Hid (shR (q4 (spR s e) (spO s e * 10 ^ spn 2 (spR s e) (spO s e)) (spB s e) (spA s e) 1) (s % 2 == 0) 18 1 0 (q4 (spR s e) (spO s e * 10 ^ spn 2 (spR s e) (spO s e)) (spB s e) (spA s e) 0) (q4 (spR s e) (spO s e * 10 ^ spn 2 (spR s e) (spO s e)) (spB s e) (spA s e) 2) (q4 (spR s e) (spO s e * 10 ^ spn 2 (spR s e) (spO s e)) (spB s e) (spA s e) 3) = some (D, N)) := hD
  clear hD hRO
  have HSO := fun W => spanOf_any x s e hx W hs he hs0 hsb heb
  have hpb : -400 ≤ (gsP (spT s e) : Int) - gsN (spT s e) + spn 2 (spR s e) (spO s e) ∧ (gsP (spT s e) : Int) - gsN (spT s e) + spn 2 (spR s e) (spO s e) ≤ 400 := by
    have h1 := spn_le 2 (spR s e) (spO s e)
    have h2 : spT s e < 2100 := by have := nbits_le (m := s) (k := 53) (by omega); unfold spT; omega
    have h3 : gsP (spT s e) ≤ 320 := by unfold gsP; omega
    have h4 : gsN (spT s e) ≤ 330 := by unfold gsN; omega
    omega
  obtain ⟨dl, hdl⟩ : ∃ n, (dgL 19 D).length = n := ⟨_, rfl⟩
  have hdb := dgL_len 19 D
  rw [hdl] at hdb
  have HE : Hid (shE s e D N = ((gsP (spT s e) : Int) - gsN (spT s e) + spn 2 (spR s e) (spO s e)) - 1 + dl - N) := by show _ = _; unfold shE; rw [hdl]
  obtain ⟨pw, hpw⟩ : ∃ pw, (gsP (spT s e) : Int) - gsN (spT s e) + spn 2 (spR s e) (spO s e) = pw := ⟨_, rfl⟩
  rw [hpw] at hpb HE
  simp only [hpw] at HSO
  have htz : (tx (dgL 19 D)).size = dl := by rw [tx_size, hdl]
  have HT : Hid (shT D = (dgL 19 D).take (trN (tx (dgL 19 D)) 48 dl)) := by show _ = _; unfold shT; rw [hdl]
  obtain ⟨T, hT⟩ : ∃ T, tx (dgL 19 D) = T := ⟨_, rfl⟩
  have HTT : Hid (tx (dgL 19 D) = T ∧ (dgL 19 D).length = dl) := ⟨hT, hdl⟩
  have HFU := fun W h => fuint_tx D hD2 W h
  rw [hT] at htz HT
  simp only [hT] at HFU
  clear hpw hdl hT
  go_enter Tryz.func89, Tryz.ntmps89
  go_wp2_with (first
    | (go_at_call 55; (with_reducible refine (hkd _).mono ?_); rintro e0 w0 ⟨rfl, rfl⟩)
    | (go_at_call 108; (with_reducible refine (HSO _).mono ?_); rintro e1 w1 ⟨vs, rfl, S1, B1⟩; obtain ⟨a0, b0, c0, s0⟩ := (S1.wh 0 (by decide)).sl; obtain ⟨a1, b1, c1, s1⟩ := (S1.wh 1 (by decide)).sl; obtain ⟨a2, b2, c2, s2⟩ := (S1.wh 2 (by decide)).sl; obtain ⟨a3, b3, c3, s3⟩ := (S1.wh 3 (by decide)).sl; have S2 := S1.sp (s % 2 == 0); have S3 := hid_q S2; rw [s0, s1, s2, s3] at S2 ⊢; have H2 := hid_q S2; clear S2)
    | (go_at_call 109; (with_reducible refine (short_any H2.out hlt S1.bs (by decide) HD.out).mono ?_); rintro e2 w2 ⟨rfl, B3⟩; have B4 := (B1.alloc B1.size _).trans (below_le B3 (by omega)); have T4 := htab.kept B4)
    | (go_at_call 110; (with_reducible refine (HFU _ T4).mono ?_); rintro e4 w4 ⟨rfl, B5⟩)
    | (go_at_call 111; (with_reducible refine (trimRight_any T _ (by omega) (by omega)).mono ?_); rintro e5 w5 ⟨t, rfl, j1, j2, rfl⟩))
  go_ret3
  obtain ⟨t1, t2⟩ := HTT.out
  have et : t = tx (shT D) := by
    rw [HT.out, ← htz]
    refine tx_take j1 (by rw [htz, t2]; exact trN_le _ _ _) (by rw [t1]; exact j2)
  refine ⟨?_, B4.trans (below_le B5 B4.size)⟩
  rw [et, HE.out]
  rfl

end Go.Proofs.YtjoncbfaajcioaaGreatDoor
