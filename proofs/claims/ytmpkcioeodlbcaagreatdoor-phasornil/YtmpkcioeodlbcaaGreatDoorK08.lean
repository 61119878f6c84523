/-
  Several texts in one: Qd Qe Qf.
-/
import Derived.Test.YtmpkcioeodlbcaaGreatDoorK07
import Derived.Deep.AppendLies
namespace Go.Proofs.YtmpkcioeodlbcaaGreatDoor
open RowKit
theorem sub64_v (x y b d c : Nat) (h : d + y + b = x + c * 18446744073709551616) (hd : d < 18446744073709551616) (hb : b ≤ 1) (hx : x < 18446744073709551616) (hy : y < 18446744073709551616) (w : World) : (callFunc 293 #[.int .u64 x, .int .u64 y, .int .u64 b]).run Tryz.prog w =
    .ok (.value (.tuple #[.int .u64 d, .int .u64 c])) w := by
  have hc : c ≤ 1 := by omega
  have e2 : bro x y b = c := by
    unfold bro
    split <;> omega
  rw [sub64_any x y b hb, e2, show (x + 18446744073709551616 - y - b) % 18446744073709551616 = d by omega]
theorem sub64_z (x b d c : Nat) (h : d + 0 + b = x + c * 18446744073709551616) (hd : d < 18446744073709551616) (hb : b ≤ 1) (hx : x < 18446744073709551616) (w : World) : (callFunc 293 #[.int .u64 x, .int .u64 0, .int .u64 b]).run Tryz.prog w =
    .ok (.value (.tuple #[.int .u64 d, .int .u64 c])) w := sub64_v x 0 b d c h hd hb hx (by omega) w
def lenS : Value → Nat | .slice _ n _ => n | _ => 0
theorem ob_len {ao : Option Addr} {n m c d k : Nat} (h : Ob (.slice ao n c) k) : Ob (.slice ao m d) k := by
  cases ao <;> exact h
theorem own_take {w : World} {base n m : Nat} {e : TypeId} {ao : Option Addr} {cap : Nat} {xs : List Value} (h : w.ownsRow base e 1 (.slice ao n cap) n xs) (hm : m ≤ n) (h0 : 0 < n) : w.ownsRow base e 1 (.slice ao m cap) m (xs.take m) := by
  refine ⟨by rw [List.length_take, h.1]; omega, ?_⟩
  rcases h.2 with ⟨_, h1⟩ | ⟨g, cap', cur, hv, hb, hg, hnc, hcm, hcs, htake⟩
  · omega
  · cases hv
    refine .inr ⟨g, cap, cur, rfl, hb, hg, by omega, hcm, hcs, ?_⟩
    rw [← htake, List.take_take]; congr 1; omega
theorem qv_take (ws : List Nat) (m : Nat) : (qv ws).take m = qv (ws.take m) := by unfold qv; rw [List.map_take]
theorem qs_step {os us vs : List Nat} {i b x y d c : Nat} (hl : os.length = us.length) (hi : i < us.length) (hx : x = us.getD i 0) (hy : y = vs.getD i 0) (h : d + y + b = x + c * 18446744073709551616) (hn : qn (os.take i) + qn (vs.take i) = qn (us.take i) + 18446744073709551616 ^ i * b) :
    qn ((os.set i d).take (i + 1)) + qn (vs.take (i + 1)) = qn (us.take (i + 1)) + 18446744073709551616 ^ (i + 1) * c := by
  have tk : qn (vs.take (i + 1)) = qn (vs.take i) + 18446744073709551616 ^ i * y := by
    rw [hy]
    rcases Nat.lt_or_ge i vs.length with h1 | h1
    · exact qn_take_succ vs i h1
    · rw [List.take_of_length_le h1, List.take_of_length_le (by omega), List.getD_eq_getElem?_getD, List.getElem?_eq_none h1]; simp
  rw [qn_take_succ _ i (by simpa using by omega), qn_take_succ us i hi, ← hx, List.take_set_of_le (Nat.le_refl _), tk]
  have e : (os.set i d).getD i 0 = d := by simp [List.getD_eq_getElem?_getD, hl, hi]
  rw [e, Nat.pow_succ]
  generalize 18446744073709551616 ^ i = B at *
  have e2 : B * d + B * y + B * b = B * x + B * 18446744073709551616 * c := by
    rw [← Nat.mul_add, ← Nat.mul_add, h, Nat.mul_add, Nat.mul_comm c, Nat.mul_assoc]
  omega
theorem qs_len {us vs : List Nat} (ku : okQ us) (tv : trimQ vs) (h : qn vs ≤ qn us) : vs.length ≤ us.length := by
  rcases Nat.lt_or_ge us.length vs.length with h1 | h1
  · have := cmq_len ku tv h1; omega
  · exact h1
theorem qs_end {os us vs : List Nat} {b : Nat} (hl : os.length = us.length) (ko : okQ os) (h : qn vs ≤ qn us) (hv : vs.length ≤ us.length) (hn : qn (os.take us.length) + qn (vs.take us.length) = qn (us.take us.length) + 18446744073709551616 ^ us.length * b) : qn os = qn us - qn vs := by
  rw [List.take_of_length_le (by omega), List.take_of_length_le hv, List.take_of_length_le (by omega)] at hn
  have h1 := qn_lt ko
  rw [hl] at h1
  rcases Nat.eq_zero_or_pos b with h0 | h0
  · subst h0; omega
  · have : 18446744073709551616 ^ us.length * 1 ≤ 18446744073709551616 ^ us.length * b := Nat.mul_le_mul_left _ h0
    omega
set_option maxRecDepth 10000 in
set_option maxHeartbeats 2000000 in
theorem qminus_any {va vb : Value} {base bb x y La Lb : Nat} (w : World) (ha : Wh w base va x La) (hb : Wh w bb vb y Lb) (hyx : y ≤ x) (hap : ∀ k, Ob va k → ¬ Ob vb k) (hLa : La ≤ 200000) :
    Calls Tryz.prog 266 #[va, vb] w fun e w' => ∃ v', e = .returned v' ∧ Wh w' base v' (x - y) La ∧ Only (Ob va) w w' ∧ (∀ k, Ob v' k → Ob va k) := by
  obtain ⟨us, hoa, ka, ta, nu, hla⟩ := ha
  obtain ⟨vs, hob, kb, tb, nv, hlb⟩ := hb
  subst nu
  subst nv
  have hvl := qs_len ka tb hyx
  obtain ⟨ao, ca, rfl, _, hca, hsh⟩ := own_rd hoa
  obtain ⟨bo, cb, hvb, hrb, hcb, _⟩ := own_rd hob
  subst hvb
  clear hrb
  have hcm : ca ≤ maxLen := by
    rcases hoa.2 with ⟨hv, h0⟩ | ⟨g, cap, cur, hv, hb, hg, hnc, hcm, hcs, htake⟩
    · simp only [Value.slice.injEq] at hv; rw [hv.2.2]; unfold maxLen; omega
    · cases hv; exact hcm
  go_enter Tryz.func266, Tryz.ntmps266
  go_wp2
  go_loopw [5, 10] (fun bv iv wr => ∃ (i b : Nat) (os : List Nat), bv = .int .u64 b ∧ iv = .int .i64 i ∧ i ≤ us.length ∧ b ≤ 1 ∧ os.length = us.length ∧ okQ os ∧ os.drop i = us.drop i ∧ qn (os.take i) + qn (vs.take i) = qn (us.take i) + 18446744073709551616 ^ i * b ∧ wr.ownsRow base 47 1 (.slice ao us.length ca) us.length (qv os) ∧ Only (Ob (.slice ao us.length ca)) w wr) (fun _ iv _ => us.length - (intOf iv).toNat)
  case atStart => exact ⟨0, 0, us, rfl, rfl, Nat.zero_le _, by omega, rfl, ka, rfl, by simp [qn], hoa, Only.refl _ _⟩
  case round =>
    obtain ⟨i, b, os, rfl, rfl, hi, hb1, hol, hok', hdr, hnum, hown', honly⟩ := hrel
    by_cases hlt : i < us.length
    · obtain ⟨g, rfl⟩ : ∃ g, ao = some ⟨g, 0, none⟩ := by
        rcases hsh with h | h
        · omega
        · exact h
      have hob' := ownsRow_only hob honly (fun k hk hk2 => hap k hk2 hk)
      obtain ⟨bo', cb', hvb, hrb, _⟩ := own_rd hob'
      simp only [Value.slice.injEq] at hvb
      obtain ⟨rfl, _, rfl⟩ := hvb
      obtain ⟨x, hx⟩ : ∃ x, x = us.getD i 0 := ⟨_, rfl⟩
      obtain ⟨y, hy⟩ : ∃ y, y = vs.getD i 0 := ⟨_, rfl⟩
      obtain ⟨hox, hdr'⟩ := drop_get hol hlt hdr
      have hxk : x < 18446744073709551616 := by rw [hx]; exact okQ_getD ka i
      have hyk : y < 18446744073709551616 := by rw [hy]; exact okQ_getD kb i
      have hcell := hown'.cellAt i (by omega)
      have hfz := hown'.frozenAt i
      rw [qv_get _ _ (by omega), hox, ← hx] at hcell
      obtain ⟨d, c, hd, hc1, hdc⟩ : ∃ d c : Nat, d < 18446744073709551616 ∧ c ≤ 1 ∧ d + y + b = x + c * 18446744073709551616 := by
        by_cases h : x < y + b
        · exact ⟨x + 18446744073709551616 - y - b, 1, by omega, by omega, by omega⟩
        · exact ⟨x - y - b, 0, by omega, by omega, by omega⟩
      have hst := qs_step hol hlt hx hy hdc hnum
      have hso := hown'.stored i (.int .u64 (d : Int))
      rw [qv_set] at hso
      have HST : Hid (qn ((os.set i d).take (i + 1)) + qn (vs.take (i + 1)) = qn (us.take (i + 1)) + 18446744073709551616 ^ (i + 1) * c) := hst
      have HSO : Hid ((wr.setCell ⟨g, i, none⟩ (.int .u64 (d : Int))).ownsRow base 47 1 (.slice (some ⟨g, 0, none⟩) us.length ca) us.length (qv (os.set i d))) := hso.1
      have HON : Hid (Only (Ob (.slice (some ⟨g, 0, none⟩) us.length ca)) w wr) := honly
      have HDR : Hid ((os.set i d).drop (i + 1) = us.drop (i + 1)) := by show _ = _; rw [drop_set_succ]; exact hdr'
      have HOK : Hid (okQ (os.set i d)) := okQ_set hok' i d hd
      have HC : Hid (d + y + b = x + c * 18446744073709551616) := hdc
      clear hst hso honly hdr hdr' hok' hnum hdc hx hox hown' hoa hob ka kb ta tb hap hob' hyx hsh
      by_cases hlv : i < vs.length
      · obtain ⟨b2, rfl, hb2, hc2⟩ := hrb i hlv
        rw [← hy] at hc2
        clear hrb hy
        go_wp2_with (first | simp only [sub64_v x y b d c HC.out hd hb1 hxk hyk])
        go_roundw
        case rel => exact ⟨i + 1, c, os.set i d, rfl, by go_num, hlt, hc1, by simpa using hol, HOK.out, HDR.out, HST.out, HSO.out, HON.out.set _ _ (.inl rfl)⟩
        case measure => simp [intOf]; omega
      · have hy0 : y = 0 := by rw [hy, List.getD_eq_getElem?_getD, List.getElem?_eq_none (by omega)]; rfl
        subst hy0
        clear hrb hy
        go_wp2_with (first | simp only [sub64_z x b d c HC.out hd hb1 hxk])
        go_roundw
        case rel => exact ⟨i + 1, c, os.set i d, rfl, by go_num, hlt, hc1, by simpa using hol, HOK.out, HDR.out, HST.out, HSO.out, HON.out.set _ _ (.inl rfl)⟩
        case measure => simp [intOf]; omega
    · have e : i = us.length := by omega
      subst e
      have hq := qs_end hol hok' hyx hvl hnum
      clear hnum hdr hob tb kb ta hap hoa
      go_wp2
      go_loopw [0] (fun sv wq => ∃ m : Nat, sv = .slice ao m ca ∧ m ≤ us.length ∧ (∀ j, m ≤ j → os.getD j 0 = 0) ∧ wq = wr) (fun sv _ => lenS sv)
      case atStart => exact ⟨us.length, rfl, Nat.le_refl _, fun j hj => by rw [List.getD_eq_getElem?_getD, List.getElem?_eq_none (by omega)]; rfl, rfl⟩
      case round =>
        obtain ⟨m, rfl, hm, hz, rfl⟩ := hrel
        have HQ : Hid (qn os = qn us - qn vs) := hq
        have HZ : Hid (∀ j, m ≤ j → os.getD j 0 = 0) := hz
        have HON : Hid (Only (Ob (.slice ao us.length ca)) w wr) := honly
        clear hq hz honly
        by_cases h0 : 0 < m
        · obtain ⟨g, rfl⟩ : ∃ g, ao = some ⟨g, 0, none⟩ := by
            rcases hsh with h | h
            · omega
            · exact h
          have hcell := hown'.cellAt (m - 1) (by omega)
          rw [qv_get _ _ (by omega)] at hcell
          obtain ⟨x, hx⟩ : ∃ x, x = os.getD (m - 1) 0 := ⟨_, rfl⟩
          rw [← hx] at hcell
          have HX : Hid (x = os.getD (m - 1) 0) := hx
          have ei : (m : Int) - 1 = ((m - 1 : Nat) : Int) := by omega
          clear hx
          by_cases hx0 : x = 0
          · subst hx0
            go_wp2
            go_roundw
            case rel =>
              refine ⟨m - 1, ?_, by omega, ?_, by first | rfl | trivial⟩
              · first | rfl | (simp; omega) | (simp)
              · intro j hj
                by_cases hjm : j = m - 1
                · rw [hjm]; exact HX.out.symm
                · exact HZ.out j (by omega)
            case measure => simp [lenS]; omega
          · have hxi : ((x : Int) == 0) = false := by simp; omega
            go_wp2
            go_ret
            have hr := own_take hown' hm (by omega)
            rw [qv_take] at hr
            have hl2 : (os.take m).length = m := by rw [List.length_take]; omega
            refine ⟨_, rfl, ⟨os.take m, by rw [hl2]; exact hr, okQ_take hok' m, ?_, by rw [qn_take_of HZ.out]; exact HQ.out, by omega⟩, HON.out, fun k hk => hk⟩
            intro _
            rw [hl2]
            have := HX.out
            simp only [List.getD_eq_getElem?_getD, List.getElem?_take, show m - 1 < m by omega, if_true]
            rw [← List.getD_eq_getElem?_getD, ← this]; exact hx0
        · have e : m = 0 := by omega
          subst e
          have hz0 : qn os = 0 := qn_zero (fun j => HZ.out j (Nat.zero_le _))
          have hq0 : qn us - qn vs = 0 := by rw [← HQ.out]; exact hz0
          have HW : Hid (Wh wr base (.slice ao 0 ca) (qn us - qn vs) La) := by
            rcases Nat.eq_zero_or_pos us.length with h | h
            · refine ⟨[], ?_, fun x hx => by simp at hx, fun h => by simp at h, by rw [hq0]; rfl, Nat.zero_le _⟩
              have e0 : os = [] := List.length_eq_zero_iff.1 (by omega)
              subst e0
              rw [h] at hown'
              exact hown'
            · have hr := own_take (m := 0) hown' (Nat.zero_le _) h
              exact ⟨[], hr, fun x hx => by simp at hx, fun h => by simp at h, by rw [hq0]; rfl, Nat.zero_le _⟩
          clear hown' hz0 hq0
          go_wp2
          go_ret
          exact ⟨_, rfl, HW.out, HON.out, fun k hk => ob_len hk⟩

end Go.Proofs.YtmpkcioeodlbcaaGreatDoor
namespace Go.Proofs.YtmpkcioeodlbcaaGreatDoor
open RowKit
theorem Only.tail {v v' : Value} {a b c : World} (h : Only (Ob v) a b) (hv : ∀ k, Ob v' k → Ob v k ∨ a.heap.size ≤ k) (h2 : Only (Ob v') b c) : Only (Ob v) a c := h.next h2 hv
theorem ob_tail {v v' v'' : Value} {a b : World} (h : a.heap.size ≤ b.heap.size) (hv : ∀ k, Ob v' k → Ob v k ∨ a.heap.size ≤ k) (h2 : ∀ k, Ob v'' k → Ob v' k ∨ b.heap.size ≤ k) : ∀ k, Ob v'' k → Ob v k ∨ a.heap.size ≤ k := by
  intro k hk
  rcases h2 k hk with h3 | h3
  · exact hv k h3
  · exact .inr (by omega)
theorem qtimesI {v : Value} {base z L : Nat} (f m : Nat) {F M : Int} {w : World} (hv : Wh w base v z L) (hF : F = ((f : Nat) : Int)) (hM : M = ((m : Nat) : Int)) (hL : L ≤ 100000) (hf : f < 18446744073709551616) (hm : m < 18446744073709551616) (hf1 : 1 ≤ f) (hbase : base ≤ w.heap.size) :
    Calls Tryz.prog 261 #[v, .int .u64 F, .int .u64 M] w fun e w' => ∃ v', e = .returned v' ∧ Wh w' base v' (z * f + m) (L + 1) ∧ Only (Ob v) w w' ∧ (∀ k, Ob v' k → Ob v k ∨ w.heap.size ≤ k) := by
  subst hF hM
  exact qtimes_any v base z L f m w hv hL hf hm hf1 hbase
theorem ten19 (z n : Nat) (h : 19 ≤ n) : (z * 10000000000000000000 + 0) * 10 ^ (n - 19) = z * 10 ^ n := by
  obtain ⟨k, rfl⟩ : ∃ k, n = k + 19 := ⟨n - 19, by omega⟩
  rw [Nat.add_sub_cancel, Nat.add_zero, Nat.mul_assoc, Nat.pow_add, Nat.mul_comm (10 ^ k)]
theorem ten1 (z n : Nat) (h : 1 ≤ n) : (z * 10 + 0) * 10 ^ (n - 1) = z * 10 ^ n := by
  obtain ⟨k, rfl⟩ : ∃ k, n = k + 1 := ⟨n - 1, by omega⟩
  rw [Nat.add_sub_cancel, Nat.add_zero, Nat.mul_assoc, Nat.pow_succ, Nat.mul_comm (10 ^ k)]
set_option maxHeartbeats 1000000 in
theorem qtens_any (v : Value) (base z L n : Nat) (w : World) (hv : Wh w base v z L) (hL : L + n ≤ 100000) (hbase : base ≤ w.heap.size) :
    Calls Tryz.prog 242 #[v, .int .i64 n] w fun e w' => ∃ v', e = .returned v' ∧ Wh w' base v' (z * 10 ^ n) (L + n) ∧ Only (Ob v) w w' ∧ (∀ k, Ob v' k → Ob v k ∨ w.heap.size ≤ k) := by
  go_enter Tryz.func242, Tryz.ntmps242
  go_wp2
  go_loopw [0, 1] (fun vv nv wr => ∃ (n' z' L' : Nat) (v0 : Value), v0 = vv ∧ nv = .int .i64 n' ∧ Wh wr base v0 z' L' ∧ z' * 10 ^ n' = z * 10 ^ n ∧ L' + n' ≤ L + n ∧ Only (Ob v) w wr ∧ (∀ k, Ob v0 k → Ob v k ∨ w.heap.size ≤ k)) (fun _ nv _ => (intOf nv).toNat)
  case atStart => exact ⟨n, z, L, v, rfl, rfl, hv, rfl, Nat.le_refl _, Only.refl _ _, fun k hk => .inl hk⟩
  case round =>
    clear hv
    obtain ⟨n', z', L', v0, rfl, rfl, hv, hz, hl, ho, hf⟩ := hrel
    have hsz := ho.size
    by_cases h19 : 19 ≤ n'
    · have h19I : (19 : Int) ≤ n' := by omega
      go_wp2_with (go_at_call 261; (with_reducible refine (qtimesI 10000000000000000000 0 hv (by omega) (by omega) (by omega) (by omega) (by omega) (by omega) (by omega)).mono ?_); rintro e w1 ⟨v1, rfl, h1, h2, h3⟩)
      go_roundw
      case rel => exact ⟨n' - 19, z' * 10000000000000000000 + 0, L' + 1, v1, rfl, congrArg (Value.int .i64) (by omega), h1, by rw [ten19 z' n' h19]; exact hz, by omega, ho.tail hf h2, ob_tail hsz hf h3⟩
      case measure => simp [intOf]; omega
    · have h19I : ¬ (19 : Int) ≤ n' := by omega
      go_wp2
      go_loopw [0, 1] (fun vv nv wr => ∃ (n' z' L' : Nat) (v0 : Value), v0 = vv ∧ nv = .int .i64 n' ∧ Wh wr base v0 z' L' ∧ z' * 10 ^ n' = z * 10 ^ n ∧ L' + n' ≤ L + n ∧ Only (Ob v) w wr ∧ (∀ k, Ob v0 k → Ob v k ∨ w.heap.size ≤ k)) (fun _ nv _ => (intOf nv).toNat)
      case atStart => exact ⟨n', z', L', v0, rfl, rfl, hv, hz, hl, ho, hf⟩
      case round =>
        clear hv hz hl ho hf hsz h19 h19I
        obtain ⟨n', z', L', v0, rfl, rfl, hv, hz, hl, ho, hf⟩ := hrel
        have hsz := ho.size
        by_cases h1 : 1 ≤ n'
        · have h1I : (0 : Int) < n' := by omega
          go_wp2_with (go_at_call 261; (with_reducible refine (qtimesI 10 0 hv (by omega) (by omega) (by omega) (by omega) (by omega) (by omega) (by omega)).mono ?_); rintro e w1 ⟨v1, rfl, h1', h2, h3⟩)
          go_roundw
          case rel => exact ⟨n' - 1, z' * 10 + 0, L' + 1, v1, rfl, congrArg (Value.int .i64) (by omega), h1', by rw [ten1 z' n' h1]; exact hz, by omega, ho.tail hf h2, ob_tail hsz hf h3⟩
          case measure => simp [intOf]; omega
        · have e : n' = 0 := by omega
          subst e
          rw [Nat.pow_zero, Nat.mul_one] at hz
          subst hz
          go_wp2
          go_ret
          exact ⟨_, rfl, hv.mono (by omega), ho, hf⟩

end Go.Proofs.YtmpkcioeodlbcaaGreatDoor
namespace Go.Proofs.YtmpkcioeodlbcaaGreatDoor
open RowKit
theorem run_make64 (q : Nat) (hq : q ≤ 100000) (w : World) : (Instr.makeSlice 288 (.int .i64 (q : Int)) (.int .i64 (q : Int))).run Tryz.prog w = .ok (.slice (some ⟨w.heap.size, 0, none⟩) q q) (w.alloc (.cells (madeCells #[.int .u64 0] q) 47)) := by
  obtain ⟨i0, hi0, hz0, hz1, hz2⟩ := info_parts3 Tryz.info64
  have h := run_make (P := Tryz.prog) w 288 47 i0 (.int .u64 0) Tryz.underlying288 hi0 hz0 .i64 .i64 q q (by omega) (Int.le_refl _) (by rw [hz2]; omega) (by omega)
  simp only [Int.toNat_natCast, hz1, Nat.mul_one] at h
  exact h
theorem Only.undrew {S : Nat → Prop} {a b : World} (h : Only S a.drew b) : Only S a b := ⟨h.os, h.tape, h.output, h.size, h.block⟩
theorem wrap_i64n (q : Nat) (h : q < 9223372036854775808) : IntKind.i64.wrap (q : Int) = (q : Int) := by rw [IntKind.wrap_i64]; omega
theorem made_q (q : Nat) : (madeCells #[.int .u64 0] q).toList = qv (List.replicate q 0) := by
  unfold qv
  apply List.ext_getElem?
  intro i
  simp only [madeCells, Array.toList_map, List.getElem?_map, Array.toList_range, List.getElem?_replicate]
  by_cases h : i < q
  · simp [h, Nat.mod_one]
  · simp [h]
theorem two_wrap {r : Nat} (h : r < 64) : IntKind.u64.wrap (2 ^ r) = (((2 ^ r : Nat)) : Int) := by
  have h1 : 2 ^ r < 2 ^ 64 := Nat.pow_lt_pow_right (by decide) h
  rw [IntKind.wrap_u64, Int.natCast_pow]
  have h2 : ((2 : Int) ^ r) = ((2 ^ r : Nat) : Int) := by rw [Int.natCast_pow]; rfl
  show (2 : Int) ^ r % 18446744073709551616 = 2 ^ r
  rw [h2]
  generalize 2 ^ r = x at *
  have : (2 : Nat) ^ 64 = 18446744073709551616 := by decide
  omega
theorem wh_alloc {w : World} {base z L : Nat} {v : Value} (h : Wh w base v z L) (o : Obj) : Wh (w.alloc o) base v z L := by
  obtain ⟨ws, h1, h2⟩ := h
  exact ⟨ws, h1.alloc o, h2⟩
theorem wh_drew {w : World} {base z L : Nat} {v : Value} (h : Wh w base v z L) : Wh w.drew base v z L := h
theorem own_made_Qf (w : World) (q base : Nat) (hq : q ≤ 100000) (hb : base ≤ w.heap.size) : (w.alloc (.cells (madeCells #[.int .u64 0] q) 47)).ownsRow base 47 1 (.slice (some ⟨w.heap.size, 0, none⟩) q q) q (qv (List.replicate q 0)) := by
  rw [← made_q]
  exact World.ownsRow_lit w _ q hb (by unfold maxLen; omega) (by simp [madeCells])
theorem qn_noughts (q : Nat) : qn (List.replicate q 0) = 0 := qn_zero (fun j => by simp [List.getD_eq_getElem?_getD, List.getElem?_replicate]; split <;> rfl)
/-- the words behind noughts -/
theorem twos_wh {w : World} {base q r z n : Nat} {v : Value} {ws : List Nat} (hw : w.ownsRow base 47 1 v (q + ws.length) (qv (List.replicate q 0) ++ qv ws)) (ok : okQ ws) (tr : trimQ ws) (hz : qn ws = z * 2 ^ r + 0) (hz0 : 0 < z) (hn : n = 64 * q + r) (L : Nat) (hl : ws.length ≤ L + 1) : Wh w base v (z * 2 ^ n) (L + n / 64 + 1) := by
  have e : qv (List.replicate q 0) ++ qv ws = qv (List.replicate q 0 ++ ws) := by simp [qv]
  have hl2 : (List.replicate q 0 ++ ws).length = q + ws.length := by simp
  have hp : 0 < z * 2 ^ r := Nat.mul_pos hz0 (Nat.two_pow_pos r)
  have hne : ws.length ≠ 0 := by
    intro h0
    have := (qn_pos tr).2 h0
    omega
  refine ⟨List.replicate q 0 ++ ws, by rw [hl2, ← e]; exact hw, okQ_append (fun x hx => by simp at hx; omega) ok, ?_, ?_, by rw [hl2]; omega⟩
  · intro _
    have h1 := tr (by omega)
    rw [hl2, List.getD_eq_getElem?_getD, List.getElem?_append_right (by simp; omega)]
    rw [List.getD_eq_getElem?_getD] at h1
    simpa [show q + ws.length - 1 - q = ws.length - 1 by omega] using h1
  · rw [qn_append, qn_noughts, hz, hn, List.length_replicate, Nat.zero_add, Nat.add_zero, Nat.pow_add, Nat.pow_mul, show (2 : Nat) ^ 64 = 18446744073709551616 by decide, Nat.mul_left_comm]
theorem qtimesS {v : Value} {base z L : Nat} (f : Nat) {F : Int} {w : World} (hv : Wh w base v z L) (hF : F = ((f : Nat) : Int)) (hL : L ≤ 100000) (hf : f < 18446744073709551616) (hf1 : 1 ≤ f) (hz : 0 < z) (hbase : base ≤ w.heap.size) :
    Calls Tryz.prog 261 #[v, .int .u64 F, .int .u64 0] w fun e w' => ∃ g c ws, e = .returned (.slice (some ⟨g, 0, none⟩) ws.length c) ∧ w'.ownsRow base 47 1 (.slice (some ⟨g, 0, none⟩) ws.length c) ws.length (qv ws) ∧ okQ ws ∧ trimQ ws ∧ qn ws = z * f + 0 ∧ ws.length ≤ L + 1 ∧ 0 < ws.length ∧ Only (Ob v) w w' := by
  refine (qtimesI f 0 hv hF (by omega) hL hf (by omega) hf1 hbase).mono ?_
  rintro e w' ⟨v', rfl, ⟨ws, h1, h2, h3, h4, h5⟩, h6, h7⟩
  have hp : 0 < z * f := Nat.mul_pos hz hf1
  have hne : ws.length ≠ 0 := by
    intro h0
    have := (qn_pos h3).2 h0
    omega
  obtain ⟨ao, cap, rfl, _, _, hs⟩ := own_rd h1
  rcases hs with hs | ⟨g, rfl⟩
  · omega
  · exact ⟨g, cap, ws, rfl, h1, h2, h3, h4, h5, by omega, h6⟩
theorem step_app64 {w : World} {ops : Array Oper} {o : Oper} {a : Act} {K : Act → World → Prop} {Q : Exit → Act → World → Prop} {E : Prop} (hgd : o.guard = none) (s x : Operand)
    (ho : o.op = .call { callee := .builtin .append, args := #[s, x], argTypes := #[288, 288] })
    (base q gm g1 c1 : Nat) (ws : List Nat) (hs : a.eval s = .slice (some ⟨gm, 0, none⟩) q q) (hown : w.ownsRow base 47 1 (.slice (some ⟨gm, 0, none⟩) q q) q (qv (List.replicate q 0)))
    (hx : a.eval x = .slice (some ⟨g1, 0, none⟩) ws.length c1) (how : w.ownsRow base 47 1 (.slice (some ⟨g1, 0, none⟩) ws.length c1) ws.length (qv ws)) (hp : 0 < ws.length) (hl : q + ws.length ≤ 200000) (hbase : base ≤ w.heap.size)
    (h : ∀ g cap w', w'.ownsRow base 47 1 (.slice (some ⟨g, 0, none⟩) (q + ws.length) cap) (q + ws.length) (qv (List.replicate q 0) ++ qv ws) → w.grownBy w' (some gm) → (gm = g ∨ g = w.heap.size) → g < w'.heap.size → K (a.put o.dst (.slice (some ⟨g, 0, none⟩) (q + ws.length) cap)) w') :
    if Region.wanted o (yielded ops a.tmps) = true then Oper.wp Tryz.prog o a w K Q else E := by
  obtain ⟨i0, hi0, hz0, hz1, hz2⟩ := info_parts3 Tryz.info64
  refine step_append_lies w hgd s x 288 ho base 47 i0 (.int .u64 0) 1 8 Tryz.underlying288 hi0 hz0 hz1 hz2 rfl (by decide) _ q _ hs hown ⟨g1, 0, none⟩ ws.length c1 (qv ws) hx (by rw [qv_len, Nat.mul_one]) (how.cells (g := g1) rfl) (fun u hu => ?_) hp (by unfold maxLen; omega) (by omega) hbase _ rfl (fun g cap w' h1 h2 h3 h4 => h g cap w' h1 h2 (h3.imp (fun e => by simpa [Value.ownBlock] using e) id) h4)
  unfold qv at hu
  obtain ⟨y, _, rfl⟩ := List.mem_map.1 hu
  rfl
set_option maxRecDepth 100000 in
set_option maxHeartbeats 1000000 in
theorem qtwos_any (v : Value) (base z L n : Nat) (w : World) (hv : Wh w base v z L) (hz : 0 < z) (hL : L ≤ 50000) (hn : n ≤ 1000000) (hbase : base ≤ w.heap.size) :
    Calls Tryz.prog 264 #[v, .int .i64 n] w fun e w' => ∃ v', e = .returned v' ∧ Wh w' base v' (z * 2 ^ n) (L + n / 64 + 1) ∧ Only (Ob v) w w' ∧ (∀ k, Ob v' k → w.heap.size ≤ k) := by
  obtain ⟨q, r, hr, hqr⟩ : ∃ q r : Nat, r < 64 ∧ n = 64 * q + r := ⟨n / 64, n % 64, Nat.mod_lt _ (by omega), by omega⟩
  have hmk := run_make64 q (by omega)
  rw [← wrap_i64n q (by omega)] at hmk
  have hq : (n : Int).tdiv 64 = (q : Int) := by rw [Int.tdiv_eq_ediv_of_nonneg (by omega)]; omega
  have hm : (n : Int).tmod 64 = (r : Int) := by rw [Int.tmod_eq_emod_of_nonneg (by omega)]; omega
  have HN : Hid (n = 64 * q + r) := hqr
  have hq5 : q ≤ 20000 := by omega
  have h2r : 2 ^ r < 18446744073709551616 := Nat.lt_of_lt_of_le (Nat.pow_lt_pow_right (by decide) hr) (by decide)
  have hlt : ∀ k, Ob v k → k < w.heap.size := fun k hk => (hv.lt hk).1
  clear hqr
  go_enter Tryz.func264, Tryz.ntmps264
  go_wp2_with fail
  go_region_held_law (fun _ => True) (trivial) (first
    | (go_at_call 261; (with_reducible refine (qtimesS (2 ^ r) (wh_drew (wh_alloc hv _)) (two_wrap hr) (by omega) h2r Nat.one_le_two_pow hz (by simp; omega)).mono ?_); rintro e w1 ⟨g1, c1, ws, rfl, h1, h2, h3, h4, h5, h6, h7⟩; have h7 := h7.undrew; have OM := ownsRow_only (own_made_Qf w q base (by omega) hbase) h7 (fun k hk hk2 => by have := hlt k hk2; simp [Ob, Value.ownBlock] at hk; omega); have ON : Only (Ob v) w w1 := ((Only.refl _ w).alloc _).trans h7)
    | (go_at_call 261; (with_reducible refine (qtimesS (2 ^ r) (wh_drew hv) (two_wrap hr) (by omega) h2r Nat.one_le_two_pow hz (by simp; omega)).mono ?_); rintro e w1 ⟨g1, c1, ws, rfl, h1, h2, h3, h4, h5, h6, h7⟩; have ON : Only (Ob v) w w1 := h7.undrew; have hs1 := ON.size)
    | (refine step_app64 (by rfl) _ _ (by rfl) base q w.heap.size g1 c1 ws (by rfl) OM (by rfl) h1 h6 (by omega) (Nat.le_trans hbase ON.size) ?_; intro g cap w2 k1 k2 k3 k4; have ON2 : Only (Ob v) w w2 := ON.grown k2 (fun i hi => .inr (by simp at hi; omega)); have hgn : w.heap.size ≤ g := by (have := ON.size; omega))
    | (refine step_app64 (by rfl) _ _ (by rfl) base q w1.heap.size g1 c1 ws (by rfl) (own_made_Qf w1 q base (by omega) (Nat.le_trans hbase ON.size)) (by rfl) (h1.alloc _) h6 (by omega) (by simp; omega) ?_; intro g cap w2 k1 k2 k3 k4; have ON2 : Only (Ob v) w w2 := (ON.alloc _).grown k2 (fun i hi => .inr (by simp at hi; omega)); have hgn : w.heap.size ≤ g := by (have := ON.size; simp at k3; omega))
    )
  all_goals
    go_wp2
    go_ret
    refine ⟨.slice (some ⟨g, 0, none⟩) (q + ws.length) cap, ?_, twos_wh k1 h2 h3 h4 hz HN.out L h5, ON2, fun k hk => ?_⟩
    · first | rfl | (simp)
    simp [Ob, Value.ownBlock] at hk
    omega

end Go.Proofs.YtmpkcioeodlbcaaGreatDoor
