/-
  spanOf of the package quantity: a float's span.
-/
import Derived.Test.YtjoncbfaajcioaaGreatDoorQea
import Derived.Test.YtjoncbfaajcioaaGreatDoorQeb
import Derived.Test.YtjoncbfaajcioaaGreatDoorQsn
import Derived.Test.YtjoncbfaajcioaaGreatDoorBqb
import Derived.Deep.Cut
import Derived.Deep.DeepCutAuto
import Derived.Deep.CutBlock
import Derived.Deep.CutRange
namespace Go.Proofs.YtjoncbfaajcioaaGreatDoor
open RowKit

/-- a span's value: four whole numbers of their own memory -/
structure Sv (w : World) (base : Nat) (vs : Nat → Value) (zs : Nat → Nat) (L : Nat) : Prop where
  wh : ∀ i, i < 4 → Wh w base (vs i) (zs i) L
  ap : ∀ i, i < 4 → ∀ j, j < 4 → i ≠ j → ∀ k, Ob (vs i) k → ¬ Ob (vs j) k
  bs : base ≤ w.heap.size
def q4 (a b c d : Nat) : Nat → Nat := fun i => if i = 0 then a else if i = 1 then b else if i = 2 then c else d
theorem Sp.eqz {w : World} {p base L : Nat} {cur : Array Value} {vs : Nat → Value} {zs zs' : Nat → Nat} {ends : Bool} (h : Sp w p cur base vs zs ends L) (e0 : zs 0 = zs' 0) (e1 : zs 1 = zs' 1) (e2 : zs 2 = zs' 2) (e3 : zs 3 = zs' 3) : Sp w p cur base vs zs' ends L :=
  ⟨h.blk, h.c, h.e4, fun i hi => by rcases (by omega : i = 0 ∨ i = 1 ∨ i = 2 ∨ i = 3) with q | q | q | q <;> subst q; rw [← e0]; exact h.wh 0 hi; rw [← e1]; exact h.wh 1 hi; rw [← e2]; exact h.wh 2 hi; rw [← e3]; exact h.wh 3 hi, h.ap, h.pp, h.bs⟩
def v4 (a b c d : Value) : Nat → Value := fun i => if i = 0 then a else if i = 1 then b else if i = 2 then c else d
/-- the span as it is laid first -/
theorem sp_start {w1 : World} {base z L : Nat} {v : Value} (ends : Bool) (h : Wh w1 base v z L) (hb : base ≤ w1.heap.size) (hL : 1 ≤ L) :
    Sp ((((w1.alloc (.cells #[.int .u64 1] 48)).alloc (.cells #[.int .u64 2] 48)).alloc (.cells #[.int .u64 2] 48)).alloc (.cells #[v, .slice (some ⟨w1.heap.size, 0, none⟩) 1 1, .slice (some ⟨w1.heap.size + 1, 0, none⟩) 1 1, .slice (some ⟨w1.heap.size + 1 + 1, 0, none⟩) 1 1, .bool ends] 165)) (w1.heap.size + 1 + 1 + 1)
      #[v, .slice (some ⟨w1.heap.size, 0, none⟩) 1 1, .slice (some ⟨w1.heap.size + 1, 0, none⟩) 1 1, .slice (some ⟨w1.heap.size + 1 + 1, 0, none⟩) 1 1, .bool ends] base
      (v4 v (.slice (some ⟨w1.heap.size, 0, none⟩) 1 1) (.slice (some ⟨w1.heap.size + 1, 0, none⟩) 1 1) (.slice (some ⟨w1.heap.size + 1 + 1, 0, none⟩) 1 1)) (q4 z 1 2 2) ends L := by
  have hlt : ∀ k, Ob v k → k < w1.heap.size := fun k hk => (h.lt hk).1
  have x1 := wh_one w1 base 1 L hb (by omega) (by omega) hL
  have x2 := wh_one (w1.alloc (.cells #[.int .u64 1] 48)) base 2 L (by simp; omega) (by omega) (by omega) hL
  have x3 := wh_one ((w1.alloc (.cells #[.int .u64 1] 48)).alloc (.cells #[.int .u64 2] 48)) base 2 L (by simp; omega) (by omega) (by omega) hL
  rw [show (w1.alloc (.cells #[.int .u64 1] 48)).heap.size = w1.heap.size + 1 by simp] at x2
  rw [show ((w1.alloc (.cells #[.int .u64 1] 48)).alloc (.cells #[.int .u64 2] 48)).heap.size = w1.heap.size + 1 + 1 by simp] at x3
  refine ⟨?_, fun i hi => ?_, rfl, fun i hi => ?_, fun i hi j hj hij k h1 h2 => ?_, fun i hi hk => ?_, by simp; omega⟩
  · have := heap_alloc_new (((w1.alloc (.cells #[.int .u64 1] 48)).alloc (.cells #[.int .u64 2] 48)).alloc (.cells #[.int .u64 2] 48)) (.cells #[v, .slice (some ⟨w1.heap.size, 0, none⟩) 1 1, .slice (some ⟨w1.heap.size + 1, 0, none⟩) 1 1, .slice (some ⟨w1.heap.size + 1 + 1, 0, none⟩) 1 1, .bool ends] 165)
    simpa using this
  · rcases (by omega : i = 0 ∨ i = 1 ∨ i = 2 ∨ i = 3) with q | q | q | q <;> subst q <;> rfl
  · rcases (by omega : i = 0 ∨ i = 1 ∨ i = 2 ∨ i = 3) with q | q | q | q <;> subst q
    · exact wh_alloc (wh_alloc (wh_alloc (wh_alloc h _) _) _) _
    · exact wh_alloc (wh_alloc (wh_alloc x1 _) _) _
    · exact wh_alloc (wh_alloc x2 _) _
    · exact wh_alloc x3 _
  · rcases (by omega : i = 0 ∨ i = 1 ∨ i = 2 ∨ i = 3) with q | q | q | q <;> subst q <;> rcases (by omega : j = 0 ∨ j = 1 ∨ j = 2 ∨ j = 3) with q | q | q | q <;> subst q <;> simp [v4, Ob, Value.ownBlock] at h1 h2 hij <;> first | omega | (have := hlt k h1; omega) | (have := hlt k h2; omega)
  · rcases (by omega : i = 0 ∨ i = 1 ∨ i = 2 ∨ i = 3) with q | q | q | q <;> subst q <;> first | (have := hlt _ (by simpa [v4] using hk); omega) | (simp [v4, Ob, Value.ownBlock] at hk; omega) | (simp [v4, Ob, Value.ownBlock] at hk)
theorem Sp.only {w w' : World} {p base L : Nat} {cur : Array Value} {vs : Nat → Value} {zs : Nat → Nat} {ends : Bool} (h : Sp w p cur base vs zs ends L) {S : Nat → Prop} (ho : Only S w w') (hp : ¬ S p) (hv : ∀ i, i < 4 → ∀ k, Ob (vs i) k → ¬ S k) : Sp w' p cur base vs zs ends L :=
  ⟨by rw [ho.block p h.plt hp]; exact h.blk, h.c, h.e4, fun i hi => (h.wh i hi).only ho (hv i hi), h.ap, h.pp, Nat.le_trans h.bs ho.size⟩
theorem Sp.bl {w w' : World} {p base L i : Nat} {cur : Array Value} {vs : Nat → Value} {zs : Nat → Nat} {ends : Bool} (h : Sp w p cur base vs zs ends L) (hi : i < 4) (hbp : base ≤ p) (ho : Only (fun k => Ob (vs i) k ∨ k = p) w w') : Below base w w' :=
  ho.below base h.bs (fun k hk => by rcases hk with hk | hk; exact ((h.wh i hi).lt hk).2; omega)
theorem Sp.bl3 {w w' : World} {p base L : Nat} {cur : Array Value} {vs : Nat → Value} {zs : Nat → Nat} {ends : Bool} (h : Sp w p cur base vs zs ends L) (hbp : base ≤ p) (ho : Only (fun k => Ob (vs 0) k ∨ Ob (vs 2) k ∨ Ob (vs 3) k ∨ k = p) w w') : Below base w w' :=
  ho.below base h.bs (fun k hk => by rcases hk with hk | hk | hk | hk; exact ((h.wh 0 (by decide)).lt hk).2; exact ((h.wh 2 (by decide)).lt hk).2; exact ((h.wh 3 (by decide)).lt hk).2; omega)
theorem Sp.al {w : World} {p base L : Nat} {cur : Array Value} {vs : Nat → Value} {zs : Nat → Nat} {ends : Bool} (h : Sp w p cur base vs zs ends L) (o : Obj) : Sp (w.alloc o) p cur base vs zs ends L :=
  h.below ((Below.refl _ w).alloc (Nat.le_refl _) o)
theorem Vr.not {w : World} {q base z L : Nat} {x : Int} {v : Value} (h : Vr w q x) (hv : Wh w base v z L) : ¬ Ob v q := by
  intro hk
  obtain ⟨us, ho, -⟩ := hv
  obtain ⟨hl, h0 | ⟨g, cap, cur, hv, hb, hh, r⟩⟩ := ho
  · obtain ⟨h0, -⟩ := h0
    subst h0
    simp [Ob, Value.ownBlock] at hk
  · subst hv
    simp [Ob, Value.ownBlock] at hk
    subst hk
    unfold Vr at h
    rw [h] at hh
    simp at hh
theorem Sp.vr {w : World} {p base L q : Nat} {cur : Array Value} {vs : Nat → Value} {zs : Nat → Nat} {ends : Bool} {x : Int} (h : Sp w p cur base vs zs ends L) (hq : Vr w q x) : ∀ j, j < 4 → ¬ Ob (vs j) q := fun j hj => hq.not (h.wh j hj)
theorem vr_new (w : World) (x : Int) : Vr (w.alloc (.cells #[.int .i64 x] 3)) w.heap.size x := heap_alloc_new w _
theorem Sp.new {w : World} {p base L : Nat} {cur : Array Value} {vs : Nat → Value} {zs : Nat → Nat} {ends : Bool} (h : Sp w p cur base vs zs ends L) : ∀ j, j < 4 → ¬ Ob (vs j) w.heap.size := fun j hj hk => by
  have := ((h.wh j hj).lt hk).1; omega
theorem qtwosI {v : Value} {base z L : Nat} (n : Nat) {N : Int} {w : World} (hv : Wh w base v z L) (hN : N = ((n : Nat) : Int)) (hz : 0 < z) (hL : L ≤ 50000) (hn : n ≤ 1000000) (hbase : base ≤ w.heap.size) :
    Calls Tryz.prog 104 #[v, .int .i64 N] w fun e w' => ∃ v', e = .returned v' ∧ Wh w' base v' (z * 2 ^ n) (L + n / 64 + 1) ∧ Only (Ob v) w w' ∧ (∀ k, Ob v' k → w.heap.size ≤ k) := by
  subst hN
  exact qtwos_any v base z L n w hv hz hL hn hbase

theorem hid_q {P : Prop} (h : P) : Hid P := h
def vrOf (w : World) (q : Nat) : Int := match w.cell? ⟨q, 0, none⟩ with | some (.int _ x) => x | _ => 0
theorem Vr.of {w : World} {q : Nat} {x : Int} (h : Vr w q x) : vrOf w q = x := by unfold vrOf; rw [h.cell]
theorem Vr.set {w : World} {q : Nat} {x y : Int} (h : Vr w q x) : Vr (w.setCell ⟨q, 0, none⟩ (.int .i64 y)) q y := heap_setCell_same w q 0 _ _ _ h
theorem spn_go {R o j K : Nat} (h : j + spn (2 - j) R o = K) (hR : R < o * 10 ^ (2 - j)) (ho : o ≤ R) : j < 2 ∧ (j + 1) + spn (2 - (j + 1)) R (o * 10 + 0) = K ∧ R < (o * 10 + 0) * 10 ^ (2 - (j + 1)) := by
  have hj : j < 2 := by
    rcases Nat.lt_or_ge j 2 with h1 | h1
    · exact h1
    · rw [show 2 - j = 0 by omega, Nat.pow_zero, Nat.mul_one] at hR; omega
  have e : 2 - j = (2 - (j + 1)) + 1 := by omega
  rw [e] at h hR
  unfold spn at h
  rw [if_neg (by omega)] at h
  refine ⟨hj, by omega, ?_⟩
  rw [Nat.pow_succ, Nat.mul_comm _ 10, ← Nat.mul_assoc] at hR
  rw [Nat.add_zero]; exact hR
theorem spn_no {R o j K : Nat} (h : j + spn (2 - j) R o = K) (ho : R < o) : K = j := by
  have : spn (2 - j) R o = 0 := by
    cases 2 - j with
    | zero => rfl
    | succ f => unfold spn; rw [if_pos ho]
  omega
set_option maxRecDepth 10000 in
set_option maxHeartbeats 4000000 in
theorem spanOf_any (x s e : Nat) (hx : x < 18446744073709551616) (w : World) (hs : Fl.sig (Fl.mg x) = s) (he : Fl.ex (Fl.mg x) = e) (hs0 : 0 < s) (hsb : s < 9007199254740992) (heb : e ≤ 2046) :
    Calls Tryz.prog 108 #[.float .f64 x] w fun r w' => ∃ vs, r = .returned (.tuple #[.agg #[vs 0, vs 1, vs 2, vs 3, .bool (s % 2 == 0)], .int .i64 ((gsP (spT s e) : Int) - gsN (spT s e) + spn 2 (spR s e) (spO s e))]) ∧
      Sv w' (w.heap.size + 1) vs (q4 (spR s e) (spO s e * 10 ^ spn 2 (spR s e) (spO s e)) (spB s e) (spA s e)) 1000 ∧ Below w.heap.size w w' := by
  have HA := apart_any x hx
  rw [hs, he] at HA
  obtain ⟨ends, hE⟩ : ∃ b, b = (s % 2 == 0) := ⟨_, rfl⟩
  rw [← hE]
  have hE2 : ((s : Int) % 2 == 0) = ends := by
    rw [hE]
    rcases Nat.mod_two_eq_zero_or_one s with h | h
    · rw [h, show (s : Int) % 2 = 0 by omega]; rfl
    · rw [h, show (s : Int) % 2 = 1 by omega]; rfl
  clear hE hs he
  have hW := wh_one (w.alloc (.cells #[.slice none 0 0, .slice none 0 0, .slice none 0 0, .slice none 0 0, .bool false] 165)) (w.heap.size + 1) s 1 (by simp) hs0 (by omega) (by omega)
  rw [show (w.alloc (.cells #[.slice none 0 0, .slice none 0 0, .slice none 0 0, .slice none 0 0, .bool false] 165)).heap.size = w.heap.size + 1 by simp] at hW
  go_enter Tryz.func108, Tryz.ntmps108
  go_upto_region 3 with (first
    | (go_at_call 134; (with_reducible refine (HA _).mono ?_); rintro e0 w0 ⟨rfl, rfl⟩)
    | (go_at_call 101; (with_reducible refine (qtimesI 4 0 hW (by omega) (by omega) (by omega) (by omega) (by omega) (by omega) (by simp)).mono ?_); rintro e1 w1 ⟨v1, rfl, a1, a2, a3⟩; obtain ⟨a4, a5, a6, rfl⟩ := a1.sl))
  obtain ⟨W0, hW0⟩ : ∃ W0, W0 = w.alloc (.cells #[.slice none 0 0, .slice none 0 0, .slice none 0 0, .slice none 0 0, .bool false] 165) := ⟨_, rfl⟩
  have hB0 : w.heap.size + 1 = W0.heap.size := by rw [hW0]; simp
  rw [← hW0] at a2 a3
  rw [hB0] at a1
  have o2 : Only (Ob (Value.slice (some ⟨w.heap.size + 1, 0, none⟩) 1 1)) (W0.alloc (.cells #[.int .u64 (s : Int)] 48)) w1 := a2
  have hb1 : W0.heap.size ≤ w1.heap.size := by have := a2.size; simp at this; omega
  have BL : Below W0.heap.size W0 w1 := ((Below.refl W0.heap.size W0).alloc (Nat.le_refl _) _).trans (a2.below W0.heap.size (by simp) (fun i hi => by simp [Ob, Value.ownBlock] at hi; omega))
  have S0 := sp_start ends a1 hb1 (by omega)
  obtain ⟨p, hp⟩ : ∃ p, p = w1.heap.size + 1 + 1 + 1 := ⟨_, rfl⟩
  rw [← hp] at S0 ⊢
  have hbp : W0.heap.size ≤ p := by omega
  obtain ⟨W1, hW1⟩ : ∃ W1, W1 = ((((w1.alloc (.cells #[.int .u64 1] 48)).alloc (.cells #[.int .u64 2] 48)).alloc (.cells #[.int .u64 2] 48)).alloc (.cells #[.slice a4 a5 a6, .slice (some ⟨w1.heap.size, 0, none⟩) 1 1, .slice (some ⟨w1.heap.size + 1, 0, none⟩) 1 1, .slice (some ⟨w1.heap.size + 1 + 1, 0, none⟩) 1 1, .bool ends] 165)) := ⟨_, rfl⟩
  have BL1 : Below W0.heap.size W0 W1 := by
    rw [hW1]
    exact (((BL.alloc hb1 _).alloc (by simp; omega) _).alloc (by simp; omega) _).alloc (by simp; omega) _
  rw [← hW1] at S0 ⊢
  clear hW hW1 a1 a2 a3 o2 BL hE2 HA hp
  obtain ⟨b, hb⟩ : ∃ b, b = if s = 4503599627370496 ∧ 0 < e then 1 else 2 := ⟨_, rfl⟩
  obtain ⟨cb, hcb⟩ : ∃ cb, cb = decide (s = 4503599627370496 ∧ 0 < e) := ⟨_, rfl⟩
  go_cut [30] (fun v wc => v = .bool cb ∧ wc = W1)
  case first =>
    by_cases h1 : s = 4503599627370496
    · by_cases h2 : 0 < e
      · have hc : Hid (cb = true) := by show _ = _; rw [hcb]; exact decide_eq_true ⟨h1, h2⟩
        have h1I : ((s : Int) == 4503599627370496) = true := by simp; omega
        have h2I : (-1074 : Int) < -1074 + (e : Int) := by omega
        clear S0 hcb hb
        go_wp2_with fail
        go_meet
        case rel => rw [hc.out]; exact ⟨rfl, rfl⟩
      · have hc : Hid (cb = false) := by show _ = _; rw [hcb]; exact decide_eq_false (fun h => h2 h.2)
        have h1I : ((s : Int) == 4503599627370496) = true := by simp; omega
        obtain rfl : e = 0 := by omega
        clear S0 hcb hb h2
        go_wp2_with fail
        go_meet
        case rel => rw [hc.out]; exact ⟨rfl, rfl⟩
    · have hc : Hid (cb = false) := by show _ = _; rw [hcb]; exact decide_eq_false (fun h => h1 h.1)
      have h1I : ((s : Int) == 4503599627370496) = false := by simp; omega
      clear S0 hcb hb
      go_wp2_with fail
      go_meet
      case rel => rw [hc.out]; exact ⟨rfl, rfl⟩
  case rest =>
    obtain ⟨rfl, rfl⟩ := hcut
    go_upto_if 30 with fail
    go_cut [] (fun wd => ∃ cur vs, Sp wd p cur W0.heap.size vs (q4 (s * 4) 1 b 2) ends 3 ∧ Below W0.heap.size W0 wd)
    case first =>
      have c2 := S0.cell 2 (by decide)
      have f2 : wc.frozen? ⟨p, 2, none⟩ = false := frozen_of_row wc p 2 _ _ S0.blk
      cases cb
      · have hb2 : Hid (b = 2) := by show _ = _; rw [hb, if_neg (of_decide_eq_false hcb.symm)]
        clear hb hcb
        go_wp2_with fail
        go_meet
        case rel => exact ⟨_, _, (S0.mono' (by omega)).eqz rfl rfl (by rw [hb2.out]; rfl) rfl, BL1⟩
      · have hb2 : Hid (b = 1) := by show _ = _; rw [hb, if_pos (of_decide_eq_true hcb.symm)]
        clear hb hcb
        have hO := (Only.refl (Ob (v4 (.slice a4 a5 a6) (.slice (some ⟨w1.heap.size, 0, none⟩) 1 1) (.slice (some ⟨w1.heap.size + 1, 0, none⟩) 1 1) (.slice (some ⟨w1.heap.size + 1 + 1, 0, none⟩) 1 1) 2)) wc).alloc (.cells #[.int .u64 1] 48)
        obtain ⟨S1, O1⟩ := S0.put (i := 2) (by decide) hO (wh_one wc W0.heap.size 1 3 S0.bs (by omega) (by omega) (by omega)) (fun k hk => by simp [Ob, Value.ownBlock] at hk; exact .inr (by omega)) (by omega)
        have c2' : (wc.alloc (.cells #[.int .u64 1] 48)).cell? ⟨p, 2, none⟩ = some (.slice (some ⟨w1.heap.size + 1, 0, none⟩) 1 1) := by rw [World.cell?_alloc_lt _ _ _ S0.plt]; exact c2
        have f2' : (wc.alloc (.cells #[.int .u64 1] 48)).frozen? ⟨p, 2, none⟩ = false := frozen_of_row _ p 2 _ _ (S0.al _).blk
        have hpl := S0.plt
        have hpn : ¬ p = wc.heap.size := by omega
        rw [World.setCell_alloc_past (hn := S0.plt)] at S1 O1
        go_wp2_with fail
        go_meet
        case rel => exact ⟨_, _, S1.eqz rfl rfl (by rw [hb2.out]; rfl) rfl, BL1.trans (S0.bl (i := 2) (by decide) hbp O1)⟩
    case rest =>
      clear S0 BL1 hb1 hcb cb
      obtain ⟨cur, vs, S1, BL2⟩ := hcut
      have hb0 : 0 < b := by rw [hb]; split <;> decide
      have HBB : Hid (b = if s = 4503599627370496 ∧ 0 < e then 1 else 2) := hb
      clear hb
      go_upto_if 36 with fail
      obtain ⟨wq, hwq⟩ : ∃ wq, wq = wc.alloc (.cells #[.int .i64 (-1074 + (e : Int) - 2)] 3) := ⟨_, rfl⟩
      have S2 := S1.al (.cells #[.int .i64 (-1074 + (e : Int) - 2)] 3)
      have V2 := vr_new wc (-1074 + (e : Int) - 2)
      have N2 := S1.new
      have BL3 := BL2.alloc (Nat.le_trans S1.bs (Nat.le_refl _)) (.cells #[.int .i64 (-1074 + (e : Int) - 2)] 3)
      rw [← hwq] at S2 V2 BL3 ⊢
      obtain ⟨q1, hq1⟩ : ∃ q1, q1 = wc.heap.size := ⟨_, rfl⟩
      rw [← hq1] at V2 N2 ⊢
      clear S1 BL2 hwq hq1
      go_cut [] (fun wd => ∃ cur vs, Sp wd p cur W0.heap.size vs (q4 (s * 4 * 2 ^ (e - 1076)) (2 ^ (1076 - e)) (b * 2 ^ (e - 1076)) (2 * 2 ^ (e - 1076))) ends 40 ∧ Below W0.heap.size W0 wd)
      case first =>
        have vq := V2.cell
        by_cases hq : e < 1076
        · have hqI : -1074 + (e : Int) - 2 < 0 := by omega
          have c1 := S2.cell 1 (by decide)
          have hz1 : 0 < q4 (s * 4) 1 b 2 1 := Nat.one_pos
          go_wp2_with (go_at_call 104; (with_reducible refine (qtwosI (1076 - e) (S2.wh 1 (by decide)) (by omega) hz1 (by omega) (by omega) S2.bs).mono ?_); rintro e1 w2 ⟨v2, rfl, k1, k2, k3⟩; obtain ⟨x1, x2, x3, rfl⟩ := k1.sl; obtain ⟨y1, y2⟩ := S2.later k2 (S2.pp 1 (by decide)); have y3 := y1 1 (by decide); have y4 := y2 1; clear y1 y2)
          go_meet
          case rel =>
            obtain ⟨S3, O3⟩ := S2.put (i := 1) (by decide) k2 (k1.mono (L' := 40) (by omega)) (fun k hk => .inr (k3 k hk)) (by omega)
            have e0 : e - 1076 = 0 := by omega
            refine ⟨_, _, S3.eqz ?_ ?_ ?_ ?_, BL3.trans (S2.bl (by decide) hbp O3)⟩ <;> simp [upd, q4, e0]
        · have hqI : ¬ -1074 + (e : Int) - 2 < 0 := by omega
          have V3 : Vr wq q1 ((e - 1076 : Nat) : Int) := by rw [show (((e - 1076 : Nat)) : Int) = -1074 + (e : Int) - 2 by omega]; exact V2
          have hz : ∀ j, j < 4 → 0 < q4 (s * 4) 1 b 2 j := fun j hj => by rcases (by omega : j = 0 ∨ j = 1 ∨ j = 2 ∨ j = 3) with q | q | q | q <;> subst q <;> simp [q4] <;> omega
          clear V2
          go_wp2_with (go_at_call 135; (with_reducible refine (each1_any S2 V3 N2 hz (by omega) (by omega)).mono ?_); rintro e1 w2 ⟨rfl, cur2, us, S3, O3⟩)
          go_meet
          case rel =>
            have e0 : 1076 - e = 0 := by omega
            refine ⟨_, _, (S3.mono' (L' := 40) (by omega)).eqz ?_ ?_ ?_ ?_, BL3.trans (S2.bl3 hbp O3)⟩ <;> simp [upd, q4, e0]
      case rest =>
        clear S2 BL3 N2 V2 hb0
        obtain ⟨cur, vs, S1, BL2⟩ := hcut
        have hn1 : 1 ≤ nbits s := by rw [nbits_pos hs0]; omega
        have hn2 : nbits s ≤ 53 := nbits_le (by omega)
        have ht : spT s e < 2100 := by unfold spT; omega
        obtain ⟨t, hT⟩ : ∃ t, spT s e = t := ⟨_, rfl⟩
        have hTI : (-1074 + (e : Int) + (nbits s : Int) - 1) = (t : Int) - 1074 := by rw [← hT]; unfold spT; omega
        obtain ⟨g, hg⟩ : ∃ g : Int, (((t : Int) - 1074) * 30103).tdiv 100000 = g := ⟨_, rfl⟩
        rw [hT] at ht
        have hG : g = (gsP t : Int) - gsN t ∧ (0 ≤ g → gsN t = 0) ∧ (g < 0 → gsP t = 0) ∧ gsP t ≤ 320 ∧ gsN t ≤ 330 := by
          have b1 : gsP t ≤ 320 := by unfold gsP; omega
          have b2 : gsN t ≤ 330 := by unfold gsN; omega
          rcases Nat.lt_or_ge t 1074 with h | h
          · obtain ⟨h1, h2⟩ := gs_neg h
            rw [h1] at hg
            exact ⟨by omega, fun _ => by omega, fun _ => h2, b1, b2⟩
          · obtain ⟨h1, h2⟩ := gs_pos h
            rw [h1] at hg
            exact ⟨by omega, fun _ => h2, fun _ => by omega, b1, b2⟩
        obtain ⟨hg1, hg2, hg3, hg4, hg5⟩ := hG
        have hwg : wrap64 g = g := by unfold wrap64; omega
        have HT : Hid (spT s e = t) := hT
        have HG1 : Hid (g = (gsP t : Int) - gsN t) := hg1
        clear hT hg1
        go_upto_if 55 with (go_at_call 129; (with_reducible refine (len64_any s (by omega) _).mono ?_); rintro e1 w2 ⟨rfl, rfl⟩)
        obtain ⟨wq, hwq⟩ : ∃ wq, wq = w2.alloc (.cells #[.int .i64 g] 3) := ⟨_, rfl⟩
        have S2 := S1.al (.cells #[.int .i64 g] 3)
        have V2 := vr_new w2 g
        have N2 := S1.new
        have hpq : p ≠ w2.heap.size := by have := S1.plt; omega
        have hbq : W0.heap.size ≤ w2.heap.size := S1.bs
        have BL3 := BL2.alloc S1.bs (.cells #[.int .i64 g] 3)
        rw [← hwq] at S2 V2 BL3 ⊢
        obtain ⟨q2, hq2⟩ : ∃ q2, q2 = w2.heap.size := ⟨_, rfl⟩
        rw [← hq2] at V2 N2 hpq hbq ⊢
        clear S1 BL2 hwq hq2 hg hTI hn1 hn2 hwg
        go_cut [] (fun wd => ∃ cur vs, Sp wd p cur W0.heap.size vs (q4 (spR s e) (spO s e) (spB s e) (spA s e)) ends 400 ∧ Below W0.heap.size W0 wd ∧ Vr wd q2 g)
        case first =>
          have vq := V2.cell
          by_cases hq : g < 0
          · have V3 : Vr wq q2 (-((gsN t : Nat) : Int)) := by
              have h1 := hg3 hq
              rw [show (-((gsN t : Nat) : Int)) = g by have := HG1.out; omega]; exact V2
            go_wp2_with (go_at_call 135; (with_reducible refine (each2_any S2 V3 N2 (by omega)).mono ?_); rintro e1 w3 ⟨rfl, cur2, us, S3, O3⟩)
            go_meet
            case rel =>
              have hP0 := hg3 hq
              have hTT := HT.out
              refine ⟨_, _, (S3.mono' (L' := 400) (by omega)).eqz ?_ ?_ ?_ ?_, BL3.trans (S2.bl3 hbp O3), V2.only O3 (fun h => ?_)⟩
              · simp [upd, q4, spR, hTT, Nat.mul_comm s 4]
              · simp [upd, q4, spO, hTT, hP0]
              · simp [upd, q4, spB, hTT, HBB.out]
              · simp [upd, q4, spA, hTT]
              · rcases h with h | h | h | h
                · exact N2 0 (by decide) h
                · exact N2 2 (by decide) h
                · exact N2 3 (by decide) h
                · exact hpq h.symm
          · have c1 := S2.cell 1 (by decide)
            have hgp : g = ((gsP t : Nat) : Int) := by have := HG1.out; have := hg2 (by omega); omega
            go_wp2_with (go_at_call 85; (with_reducible refine (qtensI (gsP t) (S2.wh 1 (by decide)) (by first | exact hgp | rfl) (by omega) S2.bs).mono ?_); rintro e1 w2 ⟨v2, rfl, k1, k2, k3⟩; obtain ⟨x1, x2, x3, rfl⟩ := k1.sl; obtain ⟨y1, y2⟩ := S2.later k2 (S2.pp 1 (by decide)); have y3 := y1 1 (by decide); have y4 := y2 1; clear y1 y2)
            go_meet
            case rel =>
              obtain ⟨S3, O3⟩ := S2.put (i := 1) (by decide) k2 (k1.mono (L' := 400) (by omega)) k3 (by omega)
              have hN0 := hg2 (by omega)
              have hTT := HT.out
              refine ⟨_, _, S3.eqz ?_ ?_ ?_ ?_, BL3.trans (S2.bl (by decide) hbp O3), V2.only O3 (fun h => ?_)⟩
              · simp [upd, q4, spR, hTT, hN0, Nat.mul_comm s 4]
              · simp [upd, q4, spO, hTT]
              · simp [upd, q4, spB, hTT, hN0, HBB.out]
              · simp [upd, q4, spA, hTT, hN0]
              · rcases h with h | h
                · exact N2 1 (by decide) h
                · exact hpq h.symm
        case rest =>
          clear S2 BL3 N2 V2
          obtain ⟨cur, vs, S1, BL2, V1⟩ := hcut
          have hRO : spR s e < spO s e * 100 := sp_bound hs0 (by rw [HT.out]; exact ht)
          have hgb : -400 ≤ g ∧ g ≤ 400 := by have := HG1.out; omega
          obtain ⟨R, hR⟩ : ∃ R, spR s e = R := ⟨_, rfl⟩
          obtain ⟨O, hO⟩ : ∃ O, spO s e = O := ⟨_, rfl⟩
          obtain ⟨BB, hBB⟩ : ∃ BB, spB s e = BB := ⟨_, rfl⟩
          obtain ⟨AA, hAA⟩ : ∃ AA, spA s e = AA := ⟨_, rfl⟩
          rw [hR, hO, hBB, hAA] at S1
          rw [hR, hO] at hRO
          obtain ⟨K, hK⟩ : ∃ K, spn 2 R O = K := ⟨_, rfl⟩
          have HQ : Hid (spR s e = R ∧ spO s e = O ∧ spB s e = BB ∧ spA s e = AA ∧ spn 2 R O = K ∧ spT s e = t ∧ g = (gsP t : Int) - gsN t) := ⟨hR, hO, hBB, hAA, hK, HT.out, HG1.out⟩
          clear hR hO hBB hAA hg2 hg3 hg4 hg5 HT HG1 HBB ht
          go_wp2_with fail
          go_loopw [] (fun wr => ∃ (j : Nat) (cur : Array Value) (vs : Nat → Value), j ≤ 2 ∧ Sp wr p cur W0.heap.size vs (q4 R (O * 10 ^ j) BB AA) ends (400 + j) ∧ Below W0.heap.size W0 wr ∧ Vr wr q2 (g + j) ∧ j + spn (2 - j) R (O * 10 ^ j) = K ∧ R < O * 10 ^ j * 10 ^ (2 - j)) (fun wr => (g + 3 - vrOf wr q2).toNat)
          case atStart => exact ⟨0, cur, vs, by omega, S1.eqz rfl (by simp [q4]) rfl rfl, BL2, by simpa using V1, by simpa using hK, by simpa using hRO⟩
          case round =>
            clear S1 BL2 V1 hRO hK
            clear cur vs
            obtain ⟨j, cur, vs, hj9, S1, BL2, V1, hK, hRo⟩ := hrel
            obtain ⟨o, ho⟩ : ∃ o, O * 10 ^ j = o := ⟨_, rfl⟩
            rw [ho] at S1 hK hRo
            have c0 := S1.cell 0 (by decide)
            have c1 := S1.cell 1 (by decide)
            have H0 : Wh wr W0.heap.size (vs 0) R (400 + j) := S1.wh 0 (by decide)
            have H1 : Wh wr W0.heap.size (vs 1) o (400 + j) := S1.wh 1 (by decide)
            by_cases hc : o ≤ R
            · have hcI : (0 : Int) ≤ cmI R o := cmI_ge.2 hc
              obtain ⟨hj2, hK2, hR2⟩ := spn_go hK hRo hc
              have HKR : Hid ((j + 1) + spn (2 - (j + 1)) R (o * 10 + 0) = K ∧ R < (o * 10 + 0) * 10 ^ (2 - (j + 1)) ∧ O * 10 ^ j = o) := ⟨hK2, hR2, ho⟩
              clear hK hRo hK2 hR2 ho hc
              have hpq' : ¬ q2 = p := fun h => hpq h.symm
              go_wp2_with (first
                | (go_at_call 105; (with_reducible refine (qcmp_any _ H0 H1 (by omega) (by omega)).mono ?_); rintro e1 w3 ⟨n3, rfl, rfl⟩; have S2 := S1.hp (w' := wr.drewN n3) rfl)
                | (go_at_call 101; (with_reducible refine (qtimesI 10 0 (Wh.hp (w' := wr.drewN n3) H1 rfl) (by omega) (by omega) (by omega) (by omega) (by omega) (by omega) S2.bs).mono ?_); rintro e1 w4 ⟨v2, rfl, k1, k2, k3⟩; obtain ⟨x1, x2, x3, rfl⟩ := k1.sl; obtain ⟨y1, y2⟩ := S2.later k2 (S2.pp 1 (by decide)); have y3 := y1 1 (by decide); have y4 := y2 1; have V2 : Vr w4 q2 (g + j) := Vr.only (w := wr.drewN n3) V1 k2 (S1.vr V1 1 (by decide)); have y5 := V2.cell; have y6 := V2.froz; clear y1 y2))
              obtain ⟨S3, O3⟩ := S2.put (i := 1) (by decide) k2 (k1.mono (L' := 400 + (j + 1)) (by omega)) k3 (by omega)
              have V3 := V2.only ((Only.refl (fun k => k = p) w4).set ⟨p, 1, none⟩ (.slice x1 x2 x3) (.inl rfl)) hpq'
              have O4 := (Only.refl (fun k => k = q2) (w4.setCell ⟨p, 1, none⟩ (.slice x1 x2 x3))).set ⟨q2, 0, none⟩ (.int .i64 (g + j + 1)) (.inl rfl)
              have S4 := S3.only O4 hpq (fun i hi k hk hk2 => S3.vr V3 i hi (hk2 ▸ hk))
              have V4 : Vr ((w4.setCell ⟨p, 1, none⟩ (.slice x1 x2 x3)).setCell ⟨q2, 0, none⟩ (.int .i64 (g + j + 1))) q2 (g + j + 1) := V3.set
              have BL4 := ((show Below W0.heap.size W0 (wr.drewN n3) from ⟨BL2.os, BL2.tape, BL2.output, BL2.size, BL2.block⟩).trans (S2.bl (i := 1) (by decide) hbp O3)).trans (O4.below W0.heap.size S3.bs (fun k hk => by omega))
              go_roundw
              case rel =>
                obtain ⟨z1, z2, z3⟩ := HKR.out
                have e1 : o * 10 + 0 = O * 10 ^ (j + 1) := by rw [← z3, Nat.pow_succ, Nat.mul_assoc]; rfl
                rw [e1] at z1 z2
                exact ⟨j + 1, _, _, by omega, S4.eqz rfl (by rw [← e1]; rfl) rfl rfl, BL4, by rw [show g + ((j + 1 : Nat) : Int) = g + j + 1 by omega]; exact V4, z1, z2⟩
              case measure => rw [V4.of, V1.of]; omega
            · have hcI : ¬ (0 : Int) ≤ cmI R o := fun h => hc (cmI_ge.1 h)
              have hKj := spn_no hK (by omega)
              have HKR : Hid (K = j ∧ O * 10 ^ j = o) := ⟨hKj, ho⟩
              clear hK hRo ho hc hKj
              have c2 := S1.cell 2 (by decide)
              have c3 := S1.cell 3 (by decide)
              have c4 := S1.cell4
              obtain ⟨a0, n0, k0, s0⟩ := (S1.wh 0 (by decide)).sl
              obtain ⟨a1, n1, k1, s1⟩ := (S1.wh 1 (by decide)).sl
              obtain ⟨a2, n2, k2, s2⟩ := (S1.wh 2 (by decide)).sl
              obtain ⟨a3, n3', k3, s3⟩ := (S1.wh 3 (by decide)).sl
              have HSL : Hid (vs 0 = .slice a0 n0 k0 ∧ vs 1 = .slice a1 n1 k1 ∧ vs 2 = .slice a2 n2 k2 ∧ vs 3 = .slice a3 n3' k3) := ⟨s0, s1, s2, s3⟩
              rw [s0] at c0 H0
              rw [s1] at c1 H1
              rw [s2] at c2
              rw [s3] at c3
              clear s0 s1 s2 s3
              have vq := V1.cell
              have hbR : wr.heap[w.heap.size]? = some (.cells #[.slice none 0 0, .slice none 0 0, .slice none 0 0, .slice none 0 0, .bool false] 165 (0, 0)) := by
                rw [BL2.block _ (by omega), hW0]; exact heap_alloc_new w _
              have r0 : wr.cell? ⟨w.heap.size, 0, none⟩ = some (.slice none 0 0) := by rw [cell_of_row wr w.heap.size 0 _ _ (0, 0) hbR]; rfl
              have r1 : wr.cell? ⟨w.heap.size, 1, none⟩ = some (.slice none 0 0) := by rw [cell_of_row wr w.heap.size 1 _ _ (0, 0) hbR]; rfl
              have r2 : wr.cell? ⟨w.heap.size, 2, none⟩ = some (.slice none 0 0) := by rw [cell_of_row wr w.heap.size 2 _ _ (0, 0) hbR]; rfl
              have r3 : wr.cell? ⟨w.heap.size, 3, none⟩ = some (.slice none 0 0) := by rw [cell_of_row wr w.heap.size 3 _ _ (0, 0) hbR]; rfl
              have r4 : wr.cell? ⟨w.heap.size, 4, none⟩ = some (.bool false) := by rw [cell_of_row wr w.heap.size 4 _ _ (0, 0) hbR]; rfl
              have f0 : wr.frozen? ⟨w.heap.size, 0, none⟩ = false := frozen_of_row wr w.heap.size 0 _ _ hbR
              have f1 : wr.frozen? ⟨w.heap.size, 1, none⟩ = false := frozen_of_row wr w.heap.size 1 _ _ hbR
              have f2 : wr.frozen? ⟨w.heap.size, 2, none⟩ = false := frozen_of_row wr w.heap.size 2 _ _ hbR
              have f3 : wr.frozen? ⟨w.heap.size, 3, none⟩ = false := frozen_of_row wr w.heap.size 3 _ _ hbR
              have f4 : wr.frozen? ⟨w.heap.size, 4, none⟩ = false := frozen_of_row wr w.heap.size 4 _ _ hbR
              have hpR : ¬ p = w.heap.size := by omega
              have hpR' : ¬ w.heap.size = p := by omega
              have hqR : ¬ q2 = w.heap.size := by omega
              have hqR' : ¬ w.heap.size = q2 := by omega
              go_upto_region 16 with (go_at_call 105; (with_reducible refine (qcmp_any _ H0 H1 (by omega) (by omega)).mono ?_); rintro e1 w3 ⟨n3, rfl, rfl⟩)
              go_cut [3] (fun v wz => v = .int .i64 (g + j) ∧ wz.heap[w.heap.size]? = some (.cells #[.slice a0 n0 k0, .slice a1 n1 k1, .slice a2 n2 k2, .slice a3 n3' k3, .bool ends] 165 (0, 0)) ∧ Only (fun k => k = w.heap.size) wr wz)
              case first =>
                have HBR := hid_q hbR
                clear hbR HQ HKR HSL S1 BL2 V1 H0 H1 hcI hgb hbp hbq hpq hj9 hW0 hB0 hs0 hsb heb hx
                go_region_held_law (fun W => W.cell? ⟨p, 0, none⟩ = some (.slice a0 n0 k0) ∧ W.cell? ⟨p, 1, none⟩ = some (.slice a1 n1 k1) ∧ W.cell? ⟨p, 2, none⟩ = some (.slice a2 n2 k2) ∧ W.cell? ⟨p, 3, none⟩ = some (.slice a3 n3' k3) ∧ W.cell? ⟨p, 4, none⟩ = some (.bool ends) ∧ W.cell? ⟨q2, 0, none⟩ = some (.int .i64 (g + j))) (go_keep) (fail)
                go_wp2_with fail
                go_meet
                case rel =>
                  refine ⟨rfl, ?_, ?_⟩
                  · exact heap_setCell_same _ _ 4 _ _ _ (heap_setCell_same _ _ 3 _ _ _ (heap_setCell_same _ _ 2 _ _ _ (heap_setCell_same _ _ 1 _ _ _ (heap_setCell_same (wr.drewN (n3 + 1)) _ 0 _ _ _ HBR.out))))
                  · exact ((((((Only.refl (fun k => k = w.heap.size) wr).drewN (n3 + 1)).set ⟨_, 0, none⟩ _ (.inl rfl)).set ⟨_, 1, none⟩ _ (.inl rfl)).set ⟨_, 2, none⟩ _ (.inl rfl)).set ⟨_, 3, none⟩ _ (.inl rfl)).set ⟨_, 4, none⟩ _ (.inl rfl)
              case rest =>
                obtain ⟨rfl, hz, oz⟩ := hcut
                have z0 : wc.cell? ⟨w.heap.size, 0, none⟩ = some (.slice a0 n0 k0) := by rw [cell_of_row wc w.heap.size 0 _ _ (0, 0) hz]; rfl
                have z1 : wc.cell? ⟨w.heap.size, 1, none⟩ = some (.slice a1 n1 k1) := by rw [cell_of_row wc w.heap.size 1 _ _ (0, 0) hz]; rfl
                have z2 : wc.cell? ⟨w.heap.size, 2, none⟩ = some (.slice a2 n2 k2) := by rw [cell_of_row wc w.heap.size 2 _ _ (0, 0) hz]; rfl
                have z3 : wc.cell? ⟨w.heap.size, 3, none⟩ = some (.slice a3 n3' k3) := by rw [cell_of_row wc w.heap.size 3 _ _ (0, 0) hz]; rfl
                have z4 : wc.cell? ⟨w.heap.size, 4, none⟩ = some (.bool ends) := by rw [cell_of_row wc w.heap.size 4 _ _ (0, 0) hz]; rfl
                clear hbR r0 r1 r2 r3 r4 f0 f1 f2 f3 f4 c0 c1 c2 c3 c4 vq hcI
                go_wp2_with fail
                (try simp only [Exit.inBlock, Exit.then])
                refine bodyPost_ret (by simp [results, Tryz.results108, go_sem, z0, z1, z2, z3, z4]; try rfl) rfl ?_
                obtain ⟨q1', q2', q3', q4', q5', q6', q7'⟩ := HQ.out
                obtain ⟨p1, p2⟩ := HKR.out
                obtain ⟨t0, t1, t2, t3⟩ := HSL.out
                refine ⟨vs, ?_, ⟨fun i hi => ?_, S1.ap, ?_⟩, ?_⟩
                · rw [t0, t1, t2, t3, q1', q2', q5', q6', p1, ← q7']
                · rw [q1', q2', q3', q4', q5', p1, p2, hB0]
                  exact ((S1.wh i hi).only oz (fun k hk hk2 => by have := ((S1.wh i hi).lt hk).2; omega)).mono (by omega)
                · have := S1.bs; have := oz.size; omega
                · have b1 : Below w.heap.size w W0 := by rw [hW0]; exact (Below.refl _ w).alloc (Nat.le_refl _) _
                  exact (b1.trans (below_le BL2 (by omega))).trans (oz.below w.heap.size (by have := S1.bs; omega) (fun k hk => by omega))

end Go.Proofs.YtjoncbfaajcioaaGreatDoor
