/-
  Inverses by columns: what package inverse's ofColumns and the function that it is handed say.
-/
import Derived.Test.YtomllbpkjhoepaaSlw
namespace Go.Proofs.Ytomllbpkjhoepaa
open Fl RowKit

/-- how many of the first n are so, one behind the other -/
def fstN (p : Nat → Bool) : Nat → Nat
  | 0 => 0
  | k + 1 => if fstN p k = k ∧ p k = true then k + 1 else fstN p k
theorem fstN_le (p : Nat → Bool) (n : Nat) : fstN p n ≤ n := by
  induction n with
  | zero => exact Nat.le_refl _
  | succ n ih => unfold fstN; split <;> omega
theorem fstN_all {p : Nat → Bool} {n : Nat} (h : ∀ j, j < n → p j = true) : fstN p n = n := by
  induction n with
  | zero => rfl
  | succ n ih => unfold fstN; rw [if_pos ⟨ih (fun j hj => h j (by omega)), h n (by omega)⟩]
theorem fstN_stay {p : Nat → Bool} {k : Nat} (h : fstN p k = k) (hp : p k = false) : ∀ n, k < n → fstN p n = k := by
  intro n
  induction n with
  | zero => intro h; omega
  | succ n ih =>
    intro hn
    unfold fstN
    by_cases e : k = n
    · subst e; rw [if_neg (by rw [hp]; simp), h]
    · rw [if_neg (by rw [ih (by omega)]; omega), ih (by omega)]
theorem fstN_iff {p : Nat → Bool} {n : Nat} : fstN p n = n ↔ ∀ j, j < n → p j = true := by
  refine ⟨fun h => ?_, fstN_all⟩
  induction n with
  | zero => exact fun j hj => absurd hj (by omega)
  | succ n ih =>
    unfold fstN at h
    by_cases c : fstN p n = n ∧ p n = true
    · intro j hj
      by_cases e : j = n
      · subst e; exact c.2
      · exact ih c.1 j (by omega)
    · rw [if_neg c] at h
      have := fstN_le p n
      omega
theorem fstN_congr {p q : Nat → Bool} {n : Nat} (h : ∀ j, j < n → p j = q j) : fstN p n = fstN q n := by
  induction n with
  | zero => rfl
  | succ n ih => unfold fstN; rw [ih (fun j hj => h j (by omega)), h n (by omega)]
/-- a column of the ones -/
def uV (j i : Nat) : Cw := if i = j then (4607182418800017408, 0) else (0, 0)
theorem uV_ok (j i : Nat) : okz (uV j i) := by unfold uV; split <;> exact ⟨by decide, by decide⟩
theorem uV_fin (j i : Nat) : finZ (uV j i) = true := by unfold uV; split <;> decide
theorem uV_upz (j : Nat) : upz (fun _ => (0, 0)) j (4607182418800017408, 0) = uV j := rfl
/-- the column j of the inverse, and whether all of it is finite -/
def inX (n : Nat) (M : Nat → Nat → Cw) (o : Nat → Nat) (j : Nat) : Nat → Cn := solX n M o (ro n (uV j))
def inK (n : Nat) (M : Nat → Nat → Cw) (o : Nat → Nat) (j : Nat) : Bool := solK n M o (ro n (uV j))
/-- a column's outcome -/
def nK (n : Nat) (k : Bool) : Nat := if k = true then n else 0
def eK (k : Bool) : Int := if k = true then 0 else 6
theorem uV_rf {n j : Nat} {s : Int} (hs : ¬ s = 0) : rfS n s n (ro n (uV j)) = 0 := by
  unfold rfS
  rw [if_neg hs, if_neg (by simp), if_pos (finL_iff.2 fun k hk => by rw [ro_at _ hk]; exact uV_fin j k)]
theorem cell_below {w w' : World} {p : Addr} {v : Value} (hb : Below w.heap.size w w') (h : w.cell? p = some v) : w'.cell? p = some v := (hb.cell (World.block_lt_of_cell? w p h)).trans h
theorem got_t {w w' : World} {n : Nat} {x : Nat → Cn} {v : Value} {E : Int} (h : Got w w' n true x v E) : ∃ g y, v = .slice (some ⟨g, 0, none⟩) n n ∧ E = 0 ∧ (∀ j, j < n → repz (x j) (y j)) ∧ Rw w' w.heap.size (.slice (some ⟨g, 0, none⟩) n n) n (ro n y) := by
  rcases h with ⟨_, rfl, g, y, rfl, h1, h2⟩ | ⟨h, _⟩
  · exact ⟨g, y, rfl, rfl, h1, h2⟩
  · cases h
theorem got_f {w w' : World} {n : Nat} {x : Nat → Cn} {v : Value} {E : Int} (h : Got w w' n false x v E) : v = .slice none 0 0 ∧ E = 6 := by
  rcases h with ⟨h, _⟩ | ⟨_, rfl, rfl⟩
  · cases h
  · exact ⟨rfl, rfl⟩
/-- what a function value of a column says, in all worlds from w on -/
def SaysC (w : World) (F : FuncId) (caps : Array Value) (n : Nat) (X : Nat → Nat → Cn) (K : Nat → Bool) : Prop :=
  ∀ (j : Nat) (W : World), j < n → Below w.heap.size w W → Calls Try.prog F (#[.int .i64 j] ++ caps) W fun e W' => ∃ v E, e = .returned (.tuple #[v, .int .i64 E]) ∧ Got W W' n (K j) (X j) v E ∧ Below W.heap.size W W'
theorem ent_of1 : Ent 41 := fun args w => by go_simp
set_option maxHeartbeats 2000000 in
theorem says_of1 {w : World} {pn pl n : Nat} {v : Value} {M : Nat → Nat → Cw} {o : Nat → Nat} {s : Int} (hn : n ≤ 64) (cn : w.cell? ⟨pn, 0, none⟩ = some (.int .i64 n)) (cl : w.cell? ⟨pl, 0, none⟩ = some v) (h : Lhd w v n M o s) (hs : ¬ s = 0) (hM : okM n M) (ho : inO n o) :
    SaysC w 41 #[.pointer (some ⟨pn, 0, none⟩), .pointer (some ⟨pl, 0, none⟩)] n (inX n M o) (inK n M o) := by
  obtain ⟨i0, hi, hz0, hz1, hz2⟩ := info_parts Try.infoC
  intro j W hj hB
  have c1 := (cell_below hB cn)
  have c2 := (cell_below hB cl)
  have HL := hid_o (h.below hB)
  have HS := hid_o hs
  have HM := hid_o hM
  have HO := hid_o ho.1
  clear cn cl h hs hM ho hB
  show Calls Try.prog _ #[.int .i64 j, .pointer (some ⟨pn, 0, none⟩), .pointer (some ⟨pl, 0, none⟩)] W _
  go_enter Try.func41, Try.ntmps41
  go_wp2_with (first
    | (at_make; refine wpList_make_full _ rfl _ _ 25 rfl W.heap.size 43 i0 (.complex .f64 0 0) 1 Try.underlying25 hi hz0 hz1 _ _ _ _ n rfl rfl rfl rfl (by rw [hz2]; omega) (by unfold maxLen; omega) (Nat.le_refl _) ?_; intro w1 hown hgrow; (have B1 : Below W.heap.size W w1 := (Below.refl _ _).grown hgrow (Nat.le_refl _) (by intro k hk; simp at hk)); (rw [made_zeroC, ro_zero] at hown); (have R1 : Rw w1 W.heap.size (.slice (some ⟨W.heap.size, 0, none⟩) n n) n (ro n (fun _ => (0, 0))) := ⟨ro_len _ _, hown⟩); (have d1 := rw_cell R1 hj); (have fz := R1.own.frozenAt j); (have R2 := rw_set R1 j (4607182418800017408, 0)); (have B2 := B1.setCell (p := ⟨W.heap.size, j, none⟩) (Nat.le_refl _) (cx (4607182418800017408, 0))); (have cc3 := cell_below B2 c2); (rw [uV_upz] at R2); (have HR := hid_o R2); (have HB := hid_o B2); unfold cx at d1 HR HB cc3; clear hown hgrow B1 R1 R2 B2)
    | (go_at_call 42; (with_reducible refine (solve_ok (HL.out.below HB.out) (ro_len n (uV j)) (by omega) hn HR.out.rc (ro_ok (fun k _ => uV_ok j k)) (uV_rf HS.out) HM.out HO.out).mono ?_); rintro e w2 ⟨u, E, rfl, hG, hb⟩; (have HB2 := hid_o (bt HB.out hb)); (have HG := hid_o (hG.base HB.out.size)); clear hG hb))
  go_ret2
  exact ⟨u, E, rfl, HG.out, HB2.out⟩
/-- what ofColumns hands back -/
def GotM (w w' : World) (n : Nat) (X : Nat → Nat → Cn) (K : Nat → Bool) (e : Ending) : Prop :=
  (fstN K n = n ∧ ∃ g d, e = .returned (.tuple #[.agg #[.int .i64 n, .int .i64 n, .slice (some ⟨g, 0, none⟩) (n * n) (n * n)], .agg #[.int .i64 0, .int .i64 0]]) ∧ (∀ i j, i < n → j < n → repz (X j i) (d (i * n + j))) ∧ Rw w' w.heap.size (.slice (some ⟨g, 0, none⟩) (n * n) (n * n)) (n * n) (ro (n * n) d)) ∨
  (fstN K n < n ∧ e = .returned (.tuple #[.agg #[.int .i64 0, .int .i64 0, .slice none 0 0], .agg #[.int .i64 6, .int .i64 (fstN K n : Nat)]]))
theorem pl_inj {C a b i j : Nat} (hb : b < C) (hj : j < C) (e : a * C + b = i * C + j) : a = i ∧ b = j := by
  have h1 : (a * C + b) / C = a := by rw [Nat.add_comm, Nat.add_mul_div_right _ _ (by omega), Nat.div_eq_of_lt hb, Nat.zero_add]
  have h2 : (i * C + j) / C = i := by rw [Nat.add_comm, Nat.add_mul_div_right _ _ (by omega), Nat.div_eq_of_lt hj, Nat.zero_add]
  have : a = i := by rw [← h1, ← h2, e]
  subst this
  exact ⟨rfl, by omega⟩
/-- two structs written, one behind the other -/
def set5 (w : World) (p q : Nat) (a b c d e : Value) : World := ((set3 w p a b c).setCell ⟨q, 0, none⟩ d).setCell ⟨q, 1, none⟩ e
theorem V2.otherV {p : Nat} {a b : Value} {w : World} (h : V2 p a b w) {q : Addr} (hq : q.block ≠ p) (u : Value) : V2 p a b (w.setCell q u) := by
  have hb : (w.setCell q u).heap[p]? = w.heap[p]? := Below.heap_setCell _ _ _ _ (Ne.symm hq)
  exact ⟨by rw [World.size_setCell]; exact h.lt, (World.cell?_of_block hb).trans h.c0, (World.cell?_of_block hb).trans h.c1, (World.frozen?_of_block hb).trans h.f0, (World.frozen?_of_block hb).trans h.f1⟩
theorem v2_at (w : World) {p : Nat} (a b : Value) (t : TypeId) (hp : w.heap.size = p) : V2 p a b (w.alloc (.cells #[a, b] t)) := by subst hp; exact v2_new w a b t
theorem reads5 {p q : Nat} {x y z u v : Value} {w : World} (hpq : p ≠ q) (h : V3 p x y z w) (k : V2 q u v w) (a b c d e : Value) :
    (set5 w p q a b c d e).cell? ⟨p, 0, none⟩ = some a ∧ (set5 w p q a b c d e).cell? ⟨p, 1, none⟩ = some b ∧ (set5 w p q a b c d e).cell? ⟨p, 2, none⟩ = some c ∧ (set5 w p q a b c d e).cell? ⟨q, 0, none⟩ = some d ∧ (set5 w p q a b c d e).cell? ⟨q, 1, none⟩ = some e := by
  have P := h.put a b c
  have K : V2 q u v (set3 w p a b c) := ((k.otherV (q := ⟨p, 0, none⟩) hpq a).otherV (q := ⟨p, 1, none⟩) hpq b).otherV (q := ⟨p, 2, none⟩) hpq c
  have far : ∀ i, (set5 w p q a b c d e).cell? ⟨p, i, none⟩ = (set3 w p a b c).cell? ⟨p, i, none⟩ := fun i => by
    unfold set5
    rw [World.cell?_setCell_far _ _ _ _ (Ne.symm hpq), World.cell?_setCell_far _ _ _ _ (Ne.symm hpq)]
  refine ⟨(far 0).trans P.c0, (far 1).trans P.c1, (far 2).trans P.c2, ?_, K.reads.2 d e⟩
  unfold set5
  rw [other_cell _ (by simp)]
  exact K.reads.1 d
theorem below_set5 {w0 w : World} {p q : Nat} (h : Below w0.heap.size w0 w) (hp : w0.heap.size ≤ p) (hq : w0.heap.size ≤ q) (a b c d e : Value) : Below w0.heap.size w0 (set5 w p q a b c d e) := by
  unfold set5 set3
  exact ((((h.setCell (p := ⟨p, 0, none⟩) hp a).setCell (p := ⟨p, 1, none⟩) hp b).setCell (p := ⟨p, 2, none⟩) hp c).setCell (p := ⟨q, 0, none⟩) hq d).setCell (p := ⟨q, 1, none⟩) hq e
theorem set5_block {w : World} {p q g : Nat} {a b c d e : Value} (hp : g ≠ p) (hq : g ≠ q) : (set5 w p q a b c d e).heap[g]? = w.heap[g]? := by
  unfold set5 set3
  rw [Below.heap_setCell _ _ _ _ hq, Below.heap_setCell _ _ _ _ hq, Below.heap_setCell _ _ _ _ hp, Below.heap_setCell _ _ _ _ hp, Below.heap_setCell _ _ _ _ hp]
set_option maxHeartbeats 4000000 in
theorem ofcol_any (F : FuncId) (caps : Array Value) (X : Nat → Nat → Cn) (K : Nat → Bool) (n : Nat) (w : World) (hn : n ≤ 64) (hE : Ent F) (hF : SaysC w F caps n X K) :
    Calls Try.prog 40 #[.int .i64 n, .func (.func F) #[] caps] w fun e w' => GotM w w' n X K e ∧ Below w.heap.size w w' := by
  obtain ⟨i0, hi, hz0, hz1, hz2⟩ := info_parts Try.infoC
  have h4 := le_4096 hn hn
  have hm := wrap_mul (i := n) (C := n) (by omega) (by omega)
  obtain ⟨T, hT⟩ : ∃ T, T = n * n := ⟨_, rfl⟩
  have HG : Hid (∀ (w' : World) (e : Ending), GotM w w' n X K e = ((fstN K n = n ∧ ∃ g d, e = .returned (.tuple #[.agg #[.int .i64 n, .int .i64 n, .slice (some ⟨g, 0, none⟩) T T], .agg #[.int .i64 0, .int .i64 0]]) ∧ (∀ i j, i < n → j < n → repz (X j i) (d (i * n + j))) ∧ Rw w' w.heap.size (.slice (some ⟨g, 0, none⟩) T T) T (ro T d)) ∨ (fstN K n < n ∧ e = .returned (.tuple #[.agg #[.int .i64 0, .int .i64 0, .slice none 0 0], .agg #[.int .i64 6, .int .i64 (fstN K n : Nat)]])))) := fun w' e => by rw [hT]; rfl
  rw [← hT] at hm h4
  have HT := hid_o hT
  have HF := hid_o hF
  have HE := hE
  unfold Ent at HE
  clear hT hF hE
  go_enter Try.func40, Try.ntmps40
  obtain ⟨wb, hwb⟩ : ∃ wb, wb = (w.alloc (.cells #[.int .i64 0, .int .i64 0, .slice none 0 0] 28)).alloc (.cells #[.int .i64 0, .int .i64 0] 39) := ⟨_, rfl⟩
  have hsb : wb.heap.size = w.heap.size + 1 + 1 := by rw [hwb]; simp
  have VM : Hid (V3 w.heap.size (.int .i64 0) (.int .i64 0) (.slice none 0 0) wb) := by rw [hwb]; exact (v3_new w _ _ _ _).below (bal _ _)
  have VF : Hid (V2 (w.heap.size + 1) (.int .i64 0) (.int .i64 0) wb) := by rw [hwb]; exact v2_at _ _ _ _ (by simp)
  have Bb : Hid (Below w.heap.size w wb) := by rw [hwb]; exact (bal _ _).trans ((bal _ _).mono (by simp))
  go_wp2_with (at_make; (rw [← hwb]); refine wpList_make_full _ rfl _ _ 25 rfl _ 43 i0 (.complex .f64 0 0) 1 Try.underlying25 hi hz0 hz1 _ _ _ _ T rfl rfl (by first | rfl | exact hm) (by first | rfl | exact hm) (by rw [hz2]; omega) (by unfold maxLen; omega) (Nat.le_refl _) ?_; intro w7 hown hgrow)
  have hB7 : Below wb.heap.size wb w7 := (Below.refl _ _).grown hgrow (Nat.le_refl _) (by intro k hk; simp at hk)
  rw [made_zeroC, ro_zero] at hown
  have RW0 : Hid (Rw w7 wb.heap.size (.slice (some ⟨wb.heap.size, 0, none⟩) T T) T (ro T (fun _ => (0, 0)))) := ⟨ro_len _ _, hown⟩
  have HB7 := hid_o hB7
  obtain ⟨gv, hgv⟩ : ∃ gv, gv = wb.heap.size := ⟨_, rfl⟩
  have hgv2 : w.heap.size + 1 + 1 = gv := by omega
  rw [← hgv] at RW0 HB7
  try rw [hgv2]
  try rw [← hgv]
  have HGV := hid_o hgv
  have HGV2 := hid_o hgv2
  clear hown hgrow hB7 hwb hsb hgv hgv2 hm
  go_loopw [17] (fun jv wr => ∃ (j : Nat) (y : Nat → Cw), j ≤ n ∧ jv = .int .i64 j ∧ (∀ b, b < j → K b = true) ∧ (∀ i b, i < n → b < j → repz (X b i) (y (i * n + b))) ∧ Rw wr gv (.slice (some ⟨gv, 0, none⟩) T T) T (ro T y) ∧ Below gv wb wr) (fun jv _ => n - (intOf jv).toNat)
  case atStart => exact ⟨0, _, Nat.zero_le _, rfl, fun b hb => absurd hb (by omega), fun i b _ hb => absurd hb (by omega), RW0.out, HB7.out⟩
  case round =>
    clear RW0 HB7
    obtain ⟨j, y, hjn, rfl, hk, hy, hrw, hbel⟩ := hrel
    have HBW : Hid (Below wb.heap.size wb wr) := by rw [← HGV.out]; exact hbel
    have HK := hid_o hk
    have HY := hid_o hy
    have HRW := hid_o hrw
    have HBE := hid_o hbel
    clear hk hy hrw hbel
    by_cases hlt : j < n
    · have HC := hid_o (HF.out j wr hlt (bt Bb.out HBW.out))
      cases hcK : K j
      · rw [hcK] at HC
        have HKF : Hid (fstN K n = j) := fstN_stay (fstN_all HK.out) hcK n hlt
        clear hcK HRW HY
        go_wp2_with ((refine HC.out.mono ?_); (rintro e w9 ⟨u, E, rfl, hG, hb⟩); (obtain ⟨rfl, rfl⟩ := got_f hG); (have B9 : Below wb.heap.size wb w9 := bt HBW.out hb); (have HB9 := hid_o B9); (have Vr := VM.out.below B9); (have HVr := hid_o Vr); (have Vs := VF.out.below B9); (have HVs := hid_o Vs); (obtain ⟨rl, r0, r1, r2, r3, r4, r5⟩ := Vr); (obtain ⟨sl, s0, s1, s3, s4⟩ := Vs); clear hb hG B9)
        have M := reads5 (by omega : w.heap.size ≠ w.heap.size + 1) HVr.out HVs.out (.int .i64 0) (.int .i64 0) (.slice none 0 0) (.int .i64 6) (.int .i64 j)
        unfold set5 set3 at M
        obtain ⟨m0, m1, m2, m3, m4⟩ := M
        refine bodyPost_ret (by simp [results, Try.results40, go_sem, m0, m1, m2, m3, m4]; try rfl) rfl ?_
        refine ⟨?_, below_set5 (bt Bb.out HB9.out) (Nat.le_refl _) (by omega) _ _ _ _ _⟩
        rw [HG.out]
        exact .inr ⟨by rw [HKF.out]; exact hlt, by rw [HKF.out]⟩
      · rw [hcK] at HC
        have HCK2 := hid_o hcK
        clear hcK
        go_wp2_with ((refine HC.out.mono ?_); (rintro e w9 ⟨u, E, rfl, hG, hb⟩); (obtain ⟨gx, xw, rfl, rfl, hx, hxr⟩ := got_t hG); (have HX := hid_o hx); (have HXR := hid_o hxr); (have HRW9 := hid_o (HRW.out.below hb)); (have HB9 : Hid (Below gv wb w9) := (by rw [HGV.out]; exact bt HBW.out hb)); (have HGX : Hid (gv < gx) := Nat.lt_of_lt_of_le HRW.out.lt.2 hxr.lt.1); clear hb hG hx hxr)
        go_loopw [34] (fun iv wr => ∃ (i : Nat) (y : Nat → Cw), i ≤ n ∧ iv = .int .i64 i ∧ (∀ a b, a < n → b < j → repz (X b a) (y (a * n + b))) ∧ (∀ a, a < i → repz (X j a) (y (a * n + j))) ∧ Rw wr gv (.slice (some ⟨gv, 0, none⟩) T T) T (ro T y) ∧ Rw wr gv (.slice (some ⟨gx, 0, none⟩) n n) n (ro n xw) ∧ Below gv wb wr) (fun iv _ => n - (intOf iv).toNat)
        case atStart => exact ⟨0, y, Nat.zero_le _, rfl, HY.out, fun a ha => absurd ha (by omega), HRW9.out, ⟨HXR.out.len, own_base HXR.out.own (by have := HRW.out.lt; omega)⟩, HB9.out⟩
        case round =>
          clear HRW9 HXR HB9 HY HRW
          obtain ⟨i, y, hiN, rfl, hy, hyj, hrw, hrx, hbel⟩ := hrel
          have HY := hid_o hy
          have HYJ := hid_o hyj
          have HRW2 := hid_o hrw
          have HRX := hid_o hrx
          have HBE2 := hid_o hbel
          by_cases hil : i < n
          · have hp := place_lt hil hlt
            rw [← HT.out] at hp
            have hm := hid_o (wrap_mul (i := i) (C := n) (by omega) (by omega))
            have d1 := rw_cell hrx hil
            have d2 := rw_cell hrw hp
            have fz := hrw.own.frozenAt (i * n + j)
            have glv := hid_o hrw.lt.2
            have glx := hid_o hrx.lt.2
            obtain ⟨x, hxe⟩ : ∃ x, x = xw i := ⟨_, rfl⟩
            rw [← hxe] at d1
            have HXE := hid_o hxe
            obtain ⟨k, hke⟩ : ∃ k, k = i * n := ⟨_, rfl⟩
            have HKE := hid_o hke
            rw [← hke] at hm d2 fz hp
            unfold cx at d1 d2
            clear hxe hke hy hyj hrw hrx hbel
            have hmm := hm.out
            go_wp2
            go_roundw
            case measure => first | (simp [intOf]; done) | (simp [intOf]; omega)
            case rel =>
              refine ⟨i + 1, upz y (k + j) x, by omega, by go_num, fun a b ha hb => ?_, fun a ha => ?_, rw_set HRW2.out (k + j) x, ⟨HRX.out.len, own_at HRX.out.own (fun q hq => by cases hq; exact Below.heap_setCell _ _ _ _ (show gx ≠ gv by have := HGX.out; omega))⟩, HBE2.out.setCell (p := ⟨gv, k + j, none⟩) (Nat.le_refl _) _⟩
              · rw [upz_ne _ _ (fun e => by have := (pl_inj (C := n) (by omega) hlt (e.trans (by rw [HKE.out]))).2; omega)]
                exact HY.out a b ha hb
              · by_cases e : a = i
                · rw [e, HKE.out, upz_self, HXE.out]
                  exact HX.out i hil
                · rw [upz_ne _ _ (fun e2 => e (pl_inj (C := n) hlt hlt (e2.trans (by rw [HKE.out]))).1)]
                  exact HYJ.out a (by omega)
          · have e : i = n := by omega
            subst e
            clear hy hyj hrw hrx hbel
            go_wp2
            go_roundw
            case measure => first | (simp [intOf]; done) | (simp [intOf]; omega)
            case rel =>
              refine ⟨j + 1, y, by omega, by go_num, fun b hb => ?_, fun a b ha hb => ?_, HRW2.out, HBE2.out⟩
              · by_cases e : b = j
                · rw [e]; exact HCK2.out
                · exact HK.out b (by omega)
              · by_cases e : b = j
                · rw [e]; exact HYJ.out a ha
                · exact HY.out a b ha (by omega)
    · have e : j = n := by omega
      subst e
      have Vr := VM.out.below HBW.out
      have HVr := hid_o Vr
      have Vs := VF.out.below HBW.out
      have HVs := hid_o Vs
      obtain ⟨rl, r0, r1, r2, r3, r4, r5⟩ := Vr
      obtain ⟨sl, s0, s1, s3, s4⟩ := Vs
      go_wp2
      have M := reads5 (by omega : w.heap.size ≠ w.heap.size + 1) HVr.out HVs.out (.int .i64 j) (.int .i64 j) (.slice (some ⟨gv, 0, none⟩) T T) (.int .i64 0) (.int .i64 0)
      unfold set5 set3 at M
      obtain ⟨m0, m1, m2, m3, m4⟩ := M
      refine bodyPost_ret (by simp [results, Try.results40, go_sem, m0, m1, m2, m3, m4]; try rfl) rfl ?_
      refine ⟨?_, below_set5 (bt Bb.out HBW.out) (Nat.le_refl _) (by omega) _ _ _ _ _⟩
      rw [HG.out]
      refine .inl ⟨fstN_all HK.out, gv, y, rfl, fun i b hi hb => HY.out i b hi hb, HRW.out.len, ?_⟩
      exact own_at (own_base HRW.out.own (by have := HGV2.out; omega)) (fun q hq => by cases hq; exact set5_block (show gv ≠ w.heap.size by have := HGV2.out; omega) (show gv ≠ w.heap.size + 1 by have := HGV2.out; omega))

end Go.Proofs.Ytomllbpkjhoepaa
