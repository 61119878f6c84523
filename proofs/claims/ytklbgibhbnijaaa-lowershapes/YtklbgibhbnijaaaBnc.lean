/-
  Several texts in one: Ma Mb Mc Md Me Mf Mg Mh Ml Mw Mva.
-/
import Derived.Test.YtklbgibhbnijaaaBnb
import Derived.Deep.RegionHeldLaw
namespace Go.Proofs.Ytklbgibhbnijaaa
open Fl RowKit

/-- may a matrix be? -/
def mb (R C : Int) (n : Nat) : Bool := decide (0 ≤ R ∧ R ≤ 64 ∧ 0 ≤ C ∧ C ≤ 64 ∧ (n : Int) = R * C)
def cnt (n : Int) : Bool := decide (0 ≤ n ∧ n ≤ 64)
theorem cnt_any (n : Int) (w : World) : Calls Try.prog 113 #[.int .i64 n] w fun e w' => e = .returned (.bool (cnt n)) ∧ w' = w := by
  by_cases h1 : 0 ≤ n
  · by_cases h2 : n ≤ 64
    · have e : cnt n = true := decide_eq_true ⟨h1, h2⟩
      rw [e]
      go_enter Try.func113, Try.ntmps113
      go_wp2
      go_ret
      exact ⟨rfl, rfl⟩
    · have e : cnt n = false := decide_eq_false (fun h => h2 h.2)
      rw [e]
      go_enter Try.func113, Try.ntmps113
      go_wp2
      go_ret
      exact ⟨rfl, rfl⟩
  · have e : cnt n = false := decide_eq_false (fun h => h1 h.1)
    rw [e]
    go_enter Try.func113, Try.ntmps113
    go_wp2
    go_ret
    exact ⟨rfl, rfl⟩
theorem within_any (i n : Int) (w : World) : Calls Try.prog 104 #[.int .i64 i, .int .i64 n] w fun e w' => e = .returned (.bool (decide (0 ≤ i ∧ i < n))) ∧ w' = w := by
  by_cases h1 : 0 ≤ i
  · by_cases h2 : i < n
    · rw [decide_eq_true (show 0 ≤ i ∧ i < n from ⟨h1, h2⟩)]
      go_enter Try.func104, Try.ntmps104
      go_wp2
      go_ret
      exact ⟨rfl, rfl⟩
    · rw [decide_eq_false (show ¬ (0 ≤ i ∧ i < n) from fun h => h2 h.2)]
      go_enter Try.func104, Try.ntmps104
      go_wp2
      go_ret
      exact ⟨rfl, rfl⟩
  · rw [decide_eq_false (show ¬ (0 ≤ i ∧ i < n) from fun h => h1 h.1)]
    go_enter Try.func104, Try.ntmps104
    go_wp2
    go_ret
    exact ⟨rfl, rfl⟩

theorem wrap_small {z : Int} (h0 : 0 ≤ z) (h1 : z ≤ 1000000) : wrap64 z = z := by
  unfold wrap64
  omega
theorem mb_val {R C : Int} {n : Nat} (h1 : cnt R = true) (h2 : cnt C = true) : mb R C n = ((n : Int) == wrap64 (R * C)) := by
  obtain ⟨a, b⟩ := of_decide_eq_true h1
  obtain ⟨c, d⟩ := of_decide_eq_true h2
  have e0 : 0 ≤ R * C := Int.mul_nonneg a c
  have e1 : R * C ≤ 64 * 64 := Int.mul_le_mul b d c (by omega)
  rw [wrap_small e0 (by omega)]
  unfold mb
  by_cases h : (n : Int) = R * C
  · rw [decide_eq_true ⟨a, b, c, d, h⟩, h]; exact (beq_self_eq_true _).symm
  · rw [decide_eq_false (fun k => h k.2.2.2.2)]; exact (beq_false_of_ne h).symm
theorem mb_no1 {R C : Int} {n : Nat} (h1 : cnt R = false) : mb R C n = false := decide_eq_false (fun k => of_decide_eq_false h1 ⟨k.1, k.2.1⟩)
theorem mb_no2 {R C : Int} {n : Nat} (h1 : cnt C = false) : mb R C n = false := decide_eq_false (fun k => of_decide_eq_false h1 ⟨k.2.2.1, k.2.2.2.1⟩)
theorem mayBe_any (R C : Int) (A : Option Addr) (n c : Nat) (w : World) (_hn : n ≤ 1000000000000000) :
    Calls Try.prog 81 #[.agg #[.int .i64 R, .int .i64 C, .slice A n c]] w fun e w' => e = .returned (.bool (mb R C n)) ∧ w' = w.alloc (.cells #[.int .i64 R, .int .i64 C, .slice A n c] 26) := by
  cases h1 : cnt R <;> cases h2 : cnt C
  all_goals
    first | rw [mb_no1 h1] | rw [mb_no2 h2] | rw [mb_val h1 h2]
    go_enter Try.func81, Try.ntmps81
    go_wp2_with (go_at_call 113; refine (cnt_any _ _).mono ?_; rintro e w' ⟨rfl, rfl⟩)
    go_ret
    exact ⟨rfl, rfl⟩
/-- places: row i, column j -/
theorem place_lt {R C i j : Nat} (hi : i < R) (hj : j < C) : i * C + j < R * C := by
  have h1 : (i + 1) * C ≤ R * C := Nat.mul_le_mul_right _ (by omega)
  rw [Nat.succ_mul] at h1
  omega
theorem le_4096 {R C : Nat} (hR : R ≤ 64) (hC : C ≤ 64) : R * C ≤ 4096 := Nat.mul_le_mul hR hC
theorem wrap_mul {i C : Nat} (hi : i ≤ 1000) (hC : C ≤ 1000) : wrap64 ((i : Int) * (C : Int)) = ((i * C : Nat) : Int) := by
  have := Nat.mul_le_mul hi hC
  rw [← Int.natCast_mul]
  exact wrap_small (by omega) (by omega)
theorem at_any (R C i j : Nat) (A : Option Addr) (c : Nat) (xs : List Cw) (w : World) (hn : xs.length = R * C) (hR : R ≤ 64) (hC : C ≤ 64) (hi : i < R) (hj : j < C) (hc : Rc w A xs) :
    Calls Try.prog 107 #[.agg #[.int .i64 R, .int .i64 C, .slice A (R * C) c], .int .i64 i, .int .i64 j] w fun e w' => e = .returned (cx (zat xs (i * C + j))) ∧ w' = w.alloc (.cells #[.int .i64 R, .int .i64 C, .slice A (R * C) c] 26) := by
  have hk := place_lt hi hj
  have h4 := le_4096 hR hC
  obtain ⟨b, off, rfl, hb, hcx⟩ := hc (i * C + j) (by omega)
  have hm := wrap_mul (i := i) (C := C) (by omega) (by omega)
  obtain ⟨x, hx⟩ : ∃ x, x = zat xs (i * C + j) := ⟨_, rfl⟩
  rw [← hx] at hcx ⊢
  obtain ⟨k, hke⟩ : ∃ k, k = i * C := ⟨_, rfl⟩
  obtain ⟨n, hne⟩ : ∃ n, n = R * C := ⟨_, rfl⟩
  rw [← hke] at hm hk hcx
  rw [← hne] at hk h4 ⊢
  clear hn hc hke hne hx
  unfold cx at hcx ⊢
  go_enter Try.func107, Try.ntmps107
  go_wp2
  go_ret
  exact ⟨rfl, rfl⟩
/-- row i of a list of rows of C -/
def rowL (C : Nat) (xs : List Cw) (i : Nat) : List Cw := (xs.drop (i * C)).take C
theorem rowL_len {R C i : Nat} {xs : List Cw} (hn : xs.length = R * C) (hi : i < R) : (rowL C xs i).length = C := by
  have h1 : (i + 1) * C ≤ R * C := Nat.mul_le_mul_right _ (by omega)
  rw [Nat.succ_mul] at h1
  simp [rowL]; omega
theorem rowL_at {C i j : Nat} {xs : List Cw} (hj : j < C) : zat (rowL C xs i) j = zat xs (i * C + j) := by
  simp [rowL, zat, List.getD_eq_getElem?_getD, hj, List.getElem?_drop]
theorem rowL_ok {C i : Nat} {xs : List Cw} (h : okl xs) : okl (rowL C xs i) := by
  intro j
  rcases Nat.lt_or_ge j C with hj | hj
  · rw [rowL_at hj]; exact h _
  · rw [zat_ge (by simp [rowL]; omega)]; exact ⟨by decide, by decide⟩
end Go.Proofs.Ytklbgibhbnijaaa

namespace Go.Proofs.Ytklbgibhbnijaaa
open Fl RowKit

theorem other_cell {w : World} {a b : Addr} (u : Value) (h : a ≠ b) : (w.setCell a u).cell? b = w.cell? b := World.cell?_setCell_other _ _ _ _ h
/-- a struct of three cells that may be written -/
structure V3 (p : Nat) (a b c : Value) (w : World) : Prop where
  lt : p < w.heap.size
  c0 : w.cell? ⟨p, 0, none⟩ = some a
  c1 : w.cell? ⟨p, 1, none⟩ = some b
  c2 : w.cell? ⟨p, 2, none⟩ = some c
  f0 : w.frozen? ⟨p, 0, none⟩ = false
  f1 : w.frozen? ⟨p, 1, none⟩ = false
  f2 : w.frozen? ⟨p, 2, none⟩ = false
theorem V3.later {p n : Nat} {a b c : Value} {w w' : World} (h : V3 p a b c w) (hb : Below n w w') (hn : p < n) : V3 p a b c w' :=
  ⟨Nat.lt_of_lt_of_le h.lt hb.size, (hb.cell hn).trans h.c0, (hb.cell hn).trans h.c1, (hb.cell hn).trans h.c2, (hb.frozen hn).trans h.f0, (hb.frozen hn).trans h.f1, (hb.frozen hn).trans h.f2⟩
theorem V3.below {p : Nat} {a b c : Value} {w w' : World} (h : V3 p a b c w) (hb : Below w.heap.size w w') : V3 p a b c w' := h.later hb h.lt
theorem V3.drewN {p : Nat} {a b c : Value} {w : World} (h : V3 p a b c w) (n : Nat) : V3 p a b c (w.drewN n) := ⟨h.lt, h.c0, h.c1, h.c2, h.f0, h.f1, h.f2⟩
theorem v3_new (w : World) (a b c : Value) (t : TypeId) : V3 w.heap.size a b c (w.alloc (.cells #[a, b, c] t)) :=
  ⟨by simp, World.cell?_alloc_new w _ _ 0, World.cell?_alloc_new w _ _ 1, World.cell?_alloc_new w _ _ 2, by simp, by simp, by simp⟩
theorem V3.other {p : Nat} {a b c : Value} {w : World} (h : V3 p a b c w) {q : Addr} (hq : q.block ≠ p) (u : Value) : V3 p a b c (w.setCell q u) := by
  have key : ∀ j : Nat, q ≠ (⟨p, j, none⟩ : Addr) := fun j e => hq (congrArg Addr.block e)
  refine ⟨by simpa using h.lt, ?_, ?_, ?_, ?_, ?_, ?_⟩
  · rw [other_cell _ (key _)]; exact h.c0
  · rw [other_cell _ (key _)]; exact h.c1
  · rw [other_cell _ (key _)]; exact h.c2
  · simpa using h.f0
  · simpa using h.f1
  · simpa using h.f2
theorem V3.reads {p : Nat} {x y z : Value} {w : World} (h : V3 p x y z w) : (∀ a, (w.setCell ⟨p, 0, none⟩ a).cell? ⟨p, 0, none⟩ = some a) ∧ (∀ a b, ((w.setCell ⟨p, 0, none⟩ a).setCell ⟨p, 1, none⟩ b).cell? ⟨p, 1, none⟩ = some b) ∧
    (∀ a b c, (((w.setCell ⟨p, 0, none⟩ a).setCell ⟨p, 1, none⟩ b).setCell ⟨p, 2, none⟩ c).cell? ⟨p, 2, none⟩ = some c) := by
  refine ⟨fun a => World.cell?_setCell_same _ _ _ h.c0, fun a b => World.cell?_setCell_same _ _ _ (u := y) ?_, fun a b c => World.cell?_setCell_same _ _ _ (u := z) ?_⟩
  · rw [other_cell _ (by simp)]; exact h.c1
  · rw [other_cell _ (by simp), other_cell _ (by simp)]; exact h.c2
/-- three cells written -/
def set3 (w : World) (p : Nat) (a b c : Value) : World := ((w.setCell ⟨p, 0, none⟩ a).setCell ⟨p, 1, none⟩ b).setCell ⟨p, 2, none⟩ c
theorem V3.put {p : Nat} {x y z : Value} {w : World} (h : V3 p x y z w) (a b c : Value) : V3 p a b c (set3 w p a b c) := by
  obtain ⟨r0, r1, r2⟩ := h.reads
  refine ⟨by simpa [set3] using h.lt, ?_, ?_, r2 a b c, by simpa [set3] using h.f0, by simpa [set3] using h.f1, by simpa [set3] using h.f2⟩
  · unfold set3; rw [other_cell _ (by simp), other_cell _ (by simp)]; exact r0 a
  · unfold set3; rw [other_cell _ (by simp)]; exact r1 a b
theorem V3.other3 {p n : Nat} {a b c : Value} {w : World} (h : V3 p a b c w) (hn : n ≠ p) (x y z : Value) : V3 p a b c (set3 w n x y z) :=
  ((h.other (q := ⟨n, 0, none⟩) hn x).other (q := ⟨n, 1, none⟩) hn y).other (q := ⟨n, 2, none⟩) hn z
theorem below_set3 {n p : Nat} {w w' : World} (h : Below n w w') (hp : n ≤ p) (a b c : Value) : Below n w (set3 w' p a b c) :=
  ((h.setCell (p := ⟨p, 0, none⟩) hp _).setCell (p := ⟨p, 1, none⟩) hp _).setCell (p := ⟨p, 2, none⟩) hp _
theorem set3_block {w : World} {p g : Nat} {a b c : Value} (h : p ≠ g) : (set3 w p a b c).heap[g]? = w.heap[g]? := by
  unfold set3
  rw [Below.heap_setCell _ _ _ _ (Ne.symm h), Below.heap_setCell _ _ _ _ (Ne.symm h), Below.heap_setCell _ _ _ _ (Ne.symm h)]
theorem New.set3 {base n p g cap : Nat} {f : Nat → Cn} {zs : List Cw} {w : World} (h : New base f n zs (.slice (some ⟨g, 0, none⟩) n cap) w) (hp : p ≠ g) (a b c : Value) : New base f n zs (.slice (some ⟨g, 0, none⟩) n cap) (Go.Proofs.Ytklbgibhbnijaaa.set3 w p a b c) :=
  ⟨h.len, h.rep, own_at h.own (fun q hq => by cases hq; exact set3_block hp)⟩

/-- what a function value of a row and a column says, in all worlds from w on; it may lay new memory -/
def SaysE (w : World) (F : FuncId) (caps : Array Value) (R C : Nat) (f : Nat → Nat → Cn) : Prop :=
  ∀ (i j : Nat) (W : World), i < R → j < C → Below w.heap.size w W → Calls Try.prog F (#[.int .i64 i, .int .i64 j] ++ caps) W fun e W' => ∃ r : Cw, e = .returned (cx r) ∧ repz (f i j) r ∧ Below W.heap.size W W'
/-- a function of rows and columns, by places -/
def flat (C : Nat) (f : Nat → Nat → Cn) (k : Nat) : Cn := f (k / C) (k % C)
theorem flat_at {C i j : Nat} {f : Nat → Nat → Cn} (hj : j < C) : flat C f (i * C + j) = f i j := by
  unfold flat
  rw [Nat.add_comm, Nat.add_mul_div_right _ _ (by omega), Nat.div_eq_of_lt hj, Nat.add_mul_mod_self_right, Nat.mod_eq_of_lt hj, Nat.zero_add]
set_option maxHeartbeats 2000000 in
theorem made_any (F : FuncId) (caps : Array Value) (f : Nat → Nat → Cn) (R C : Nat) (w : World) (hR : R ≤ 64) (hC : C ≤ 64) (hE : Ent F) (hF : SaysE w F caps R C f) :
    Calls Try.prog 105 #[.int .i64 R, .int .i64 C, .func (.func F) #[] caps] w fun e w' => ∃ g zs, e = .returned (.agg #[.int .i64 R, .int .i64 C, .slice (some ⟨g, 0, none⟩) (R * C) (R * C)]) ∧ New w.heap.size (flat C f) (R * C) zs (.slice (some ⟨g, 0, none⟩) (R * C) (R * C)) w' ∧ Below w.heap.size w w' := by
  obtain ⟨i0, hi, hz0, hz1, hz2⟩ := info_parts Try.infoC
  have h4 := le_4096 hR hC
  have hm := wrap_mul (i := R) (C := C) (by omega) (by omega)
  obtain ⟨n, hne⟩ : ∃ n, n = R * C := ⟨_, rfl⟩
  rw [← hne] at hm h4 ⊢
  have HN : Hid (n = R * C) := hne
  clear hne
  have V0 : V3 w.heap.size (.int .i64 0) (.int .i64 0) (.slice none 0 0) (w.alloc (.cells #[.int .i64 0, .int .i64 0, .slice none 0 0] 26)) := v3_new w _ _ _ _
  have B0 : Below w.heap.size w (w.alloc (.cells #[.int .i64 0, .int .i64 0, .slice none 0 0] 26)) := (Below.refl _ _).alloc (Nat.le_refl _) _
  go_enter Try.func105, Try.ntmps105
  go_wp2_with (at_make; refine wpList_make_full _ rfl _ _ 24 rfl w.heap.size 52 i0 (.complex .f64 0 0) 1 Try.underlying24 hi hz0 hz1 _ _ _ _ n rfl rfl (by first | rfl | exact hm) (by first | rfl | exact hm) (by rw [hz2]; omega) (by unfold maxLen; omega) (by simp) ?_; intro w1 hown hgrow)
  have hb0 : Below w.heap.size w w1 := B0.grown hgrow (by simp) (by intro k hk; simp at hk)
  have V1 : V3 w.heap.size (.int .i64 0) (.int .i64 0) (.slice none 0 0) w1 := V0.below ((Below.refl _ _).grown hgrow (Nat.le_refl _) (by intro k hk; simp at hk))
  rw [made_zeroC] at hown
  simp only [size_al] at hown
  clear hgrow V0 B0
  go_wp2
  go_loopw [15] (fun iv wr => ∃ (i : Nat) (zs : List Cw), i ≤ R ∧ iv = .int .i64 i ∧ zs.length = n ∧ repl (flat C f) (i * C) zs ∧ wr.ownsRow w.heap.size 52 1 (.slice (some ⟨w.heap.size + 1, 0, none⟩) n n) n (zs.map cx) ∧ V3 w.heap.size (.int .i64 0) (.int .i64 0) (.slice none 0 0) wr ∧ Below w.heap.size w wr) (fun iv _ => R - (intOf iv).toNat)
  case atStart => exact ⟨0, List.replicate n (0, 0), Nat.zero_le _, rfl, by simp, fun j hj => absurd hj (by omega), hown, V1, hb0⟩
  case round =>
    clear hown V1 hb0
    obtain ⟨i, zs, hiR, rfl, hl, hr, how, V, hbel⟩ := hrel
    by_cases hlt : i < R
    · have hmi := wrap_mul (i := i) (C := C) (by omega) (by omega)
      have h1 : (i + 1) * C ≤ R * C := Nat.mul_le_mul_right _ (by omega)
      have e1 : (i + 1) * C = i * C + C := Nat.succ_mul _ _
      rw [e1, ← HN.out] at h1
      obtain ⟨k, hke⟩ : ∃ k, k = i * C := ⟨_, rfl⟩
      have HK : Hid (k = i * C) := hke
      rw [← hke] at hmi h1 hr
      clear hke e1
      go_wp2
      go_loopw [19] (fun jv wr => ∃ (j : Nat) (zs : List Cw), j ≤ C ∧ jv = .int .i64 j ∧ zs.length = n ∧ repl (flat C f) (k + j) zs ∧ wr.ownsRow w.heap.size 52 1 (.slice (some ⟨w.heap.size + 1, 0, none⟩) n n) n (zs.map cx) ∧ V3 w.heap.size (.int .i64 0) (.int .i64 0) (.slice none 0 0) wr ∧ Below w.heap.size w wr) (fun jv _ => C - (intOf jv).toNat)
      case atStart => exact ⟨0, zs, Nat.zero_le _, rfl, hl, hr, how, V, hbel⟩
      case round =>
        clear hl hr how V hbel
        obtain ⟨j, zs, hjC, rfl, hl, hr, how, V, hbel⟩ := hrel
        by_cases hjl : j < C
        · have HR : Hid (repl (flat C f) (k + j) zs) := hr
          have HF : Hid (SaysE w F caps R C f) := hF
          have HO : Hid (wr.ownsRow w.heap.size 52 1 (.slice (some ⟨w.heap.size + 1, 0, none⟩) n n) n (zs.map cx)) := how
          have HV : Hid (V3 w.heap.size (.int .i64 0) (.int .i64 0) (.slice none 0 0) wr) := V
          have HB : Hid (Below w.heap.size w wr) := hbel
          have HE := hE
          unfold Ent at HE
          clear hr hF how V hbel
          go_wp2_with ((refine (HF.out i j _ hlt hjl HB.out).mono ?_); (rintro e w2 ⟨r, rfl, hrz, hb2⟩); (have HZ : Hid (repz (f i j) r) := hrz); (have HB2 : Hid (Below wr.heap.size wr w2) := hb2); (have ho2 := own_below HO.out hb2); (have hcell := ho2.cellAt (k + j) (by simp; omega)); (have hfz := ho2.frozenAt (k + j)); (rw [List.getElem?_map, zat_lt (by omega)] at hcell); (obtain ⟨y, hy⟩ : ∃ y, y = zat zs (k + j) := ⟨_, rfl⟩); (rw [← hy] at hcell); (have HS : Hid (∀ u : Cw, (w2.setCell ⟨w.heap.size + 1, k + j, none⟩ (cx u)).ownsRow w.heap.size 52 1 (.slice (some ⟨w.heap.size + 1, 0, none⟩) n n) n ((zs.map cx).set (k + j) (cx u))) := fun u => (ho2.stored (k + j) (cx u)).1); clear hy hrz hb2 ho2; unfold cx)
          go_roundw
          case rel =>
            refine ⟨j + 1, zs.set (k + j) r, by omega, by go_num, by simpa using hl, HR.out.set (by omega) (by rw [HK.out, flat_at hjl]; exact HZ.out), ?_, (HV.out.below HB2.out).other (by simp) _, ?_⟩
            · rw [List.map_set]; exact HS.out r
            · exact (HB.out.trans (HB2.out.mono HB.out.size)).setCell (by simp) _
          case measure => simp [intOf]; omega
        · have e : j = C := by omega
          subst e
          clear hF
          go_wp2
          go_roundw
          case rel => exact ⟨i + 1, zs, by omega, by go_num, hl, by rw [Nat.succ_mul, ← HK.out]; exact hr, how, V, hbel⟩
          case measure => simp [intOf]; omega
    · have e : i = R := by omega
      subst e
      have vlt := V.lt
      have q0 := V.c0
      have q1 := V.c1
      have q2 := V.c2
      have q3 := V.f0
      have q4 := V.f1
      have q5 := V.f2
      clear hF
      go_wp2
      obtain ⟨m0, m1, m2⟩ := V.reads
      refine bodyPost_ret (by simp [results, Try.results105, go_sem, m0, m1, m2]; try rfl) rfl ?_
      have hN : New w.heap.size (flat C f) n zs (.slice (some ⟨w.heap.size + 1, 0, none⟩) n n) wr := ⟨hl, by rw [HN.out]; exact hr, how⟩
      exact ⟨_, zs, rfl, hN.set3 (by omega) _ _ _, below_set3 hbel (Nat.le_refl _) _ _ _⟩

/-- holds it at all places below k? -/
def allB (p : Nat → Bool) : Nat → Bool
  | 0 => true
  | k + 1 => allB p k && p k
theorem allB_no {p : Nat → Bool} {k : Nat} (hf : p k = false) : ∀ n, k < n → allB p n = false := by
  intro n
  induction n with
  | zero => intro _; omega
  | succ n ih =>
    intro hk
    unfold allB
    by_cases e : k = n
    · subst e; rw [hf, Bool.and_false]
    · rw [ih (by omega), Bool.false_and]
theorem allB_at {p : Nat → Bool} {n : Nat} (h : allB p n = true) : ∀ j, j < n → p j = true := by
  intro j hj
  cases hp : p j
  · rw [allB_no hp n hj] at h; cases h
  · rfl
theorem allB_mk {p : Nat → Bool} {n : Nat} (h : ∀ j, j < n → p j = true) : allB p n = true := by
  induction n with
  | zero => rfl
  | succ n ih => unfold allB; rw [ih (fun j hj => h j (by omega)), h n (by omega)]; rfl
theorem allB_congr {p q : Nat → Bool} {n : Nat} (h : ∀ j, j < n → p j = q j) : allB p n = allB q n := by
  induction n with
  | zero => rfl
  | succ n ih => unfold allB; rw [ih (fun j hj => h j (by omega)), h n (by omega)]
def flatB (C : Nat) (p : Nat → Nat → Bool) (k : Nat) : Bool := p (k / C) (k % C)
theorem flatB_at {C i j : Nat} {p : Nat → Nat → Bool} (hj : j < C) : flatB C p (i * C + j) = p i j := by
  unfold flatB
  rw [Nat.add_comm, Nat.add_mul_div_right _ _ (by omega), Nat.div_eq_of_lt hj, Nat.add_mul_mod_self_right, Nat.mod_eq_of_lt hj, Nat.zero_add]
/-- what a function value that asks of a row and a column says, in all worlds from w on -/
def SaysB (w : World) (F : FuncId) (caps : Array Value) (R C : Nat) (p : Nat → Nat → Bool) : Prop :=
  ∀ (i j : Nat) (W : World), i < R → j < C → Below w.heap.size w W → Calls Try.prog F (#[.int .i64 i, .int .i64 j] ++ caps) W fun e W' => e = .returned (.bool (p i j)) ∧ Below W.heap.size W W'
end Go.Proofs.Ytklbgibhbnijaaa

namespace Go.Proofs.Ytklbgibhbnijaaa
open Fl RowKit

/-- a matrix that may be, and is read -/
structure Mx (w : World) (R C : Nat) (A : Option Addr) (c : Nat) (F : Nat → Cn) (xs : List Cw) : Prop where
  len : xs.length = R * C
  hR : R ≤ 64
  hC : C ≤ 64
  rep : repl F (R * C) xs
  sl : Sl w A c xs
theorem Mx.below {w w' : World} {R C c : Nat} {A : Option Addr} {F : Nat → Cn} {xs : List Cw} (h : Mx w R C A c F xs) (hb : Below w.heap.size w w') : Mx w' R C A c F xs := ⟨h.len, h.hR, h.hC, h.rep, h.sl.below hb⟩
theorem Mx.drewN {w : World} {R C c : Nat} {A : Option Addr} {F : Nat → Cn} {xs : List Cw} (h : Mx w R C A c F xs) (n : Nat) : Mx (w.drewN n) R C A c F xs := ⟨h.len, h.hR, h.hC, h.rep, h.sl.drewN n⟩
theorem Mx.okl {w : World} {R C c : Nat} {A : Option Addr} {F : Nat → Cn} {xs : List Cw} (h : Mx w R C A c F xs) : okl xs := by
  have h1 := h.len
  have h2 := h.rep
  rw [← h1] at h2
  exact h2.okl
theorem Mx.lst {w : World} {R C c : Nat} {A : Option Addr} {F : Nat → Cn} {xs : List Cw} (h : Mx w R C A c F xs) : Lst w A (R * C) F xs := ⟨h.len, h.rep, h.sl.rd⟩
theorem Mx.at {w : World} {R C c i j : Nat} {A : Option Addr} {F : Nat → Cn} {xs : List Cw} (h : Mx w R C A c F xs) (hi : i < R) (hj : j < C) : repz (F (i * C + j)) (zat xs (i * C + j)) := h.rep _ (place_lt hi hj)
theorem bal (w : World) (o : Obj) : Below w.heap.size w (w.alloc o) := (Below.refl _ _).alloc (Nat.le_refl _) o
/-- an entry, as at hands it back -/
theorem mat {w : World} {R C c i j : Nat} {A : Option Addr} {F : Nat → Cn} {xs : List Cw} (h : Mx w R C A c F xs) (hi : i < R) (hj : j < C) :
    Calls Try.prog 107 #[.agg #[.int .i64 R, .int .i64 C, .slice A (R * C) c], .int .i64 i, .int .i64 j] w fun e w' => ∃ r : Cw, e = .returned (.complex .f64 r.1 r.2) ∧ repz (F (i * C + j)) r ∧ Below w.heap.size w w' :=
  (at_any R C i j A c xs w h.len h.hR h.hC hi hj h.sl.rd).mono (by rintro e w' ⟨rfl, rfl⟩; exact ⟨_, rfl, h.at hi hj, bal _ _⟩)
abbrev ptr (B : Nat) : Value := .pointer (some ⟨B, 0, none⟩)
section one
variable {w : World} {R C c B : Nat} {A : Option Addr} {F : Nat → Cn} {xs : List Cw} (h : Mx w R C A c F xs) (hV : V3 B (.int .i64 R) (.int .i64 C) (.slice A (R * C) c) w)
include h hV
theorem says_mtrans : SaysE w 134 #[ptr B] C R (fun j i => F (i * C + j)) := by
  intro j i W hj hi hb
  have M := h.below hb
  obtain ⟨_, c0, c1, c2, _, _, _⟩ := hV.below hb
  clear h hV hb
  show Calls Try.prog _ #[.int .i64 j, .int .i64 i, ptr B] W _
  go_enter Try.func134, Try.ntmps134
  go_wp2_with (go_at_call 107; refine (mat M hi hj).mono ?_; rintro e w' ⟨r, rfl, hr, hb⟩)
  go_ret
  exact ⟨r, rfl, hr, hb⟩
theorem says_mcol {j Bj : Nat} (hj : j < C) (hBj : Bj < w.heap.size) (hc : w.cell? ⟨Bj, 0, none⟩ = some (.int .i64 j)) : SaysE w 106 #[ptr B, ptr Bj] R 1 (fun i _ => F (i * C + j)) := by
  intro i j0 W hi hj0 hb
  have M := h.below hb
  obtain ⟨_, c0, c1, c2, _, _, _⟩ := hV.below hb
  have c3 := (hb.cell (p := ⟨Bj, 0, none⟩) hBj).trans hc
  clear h hV hb
  show Calls Try.prog _ #[.int .i64 i, .int .i64 j0, ptr B, ptr Bj] W _
  go_enter Try.func106, Try.ntmps106
  go_wp2_with (go_at_call 107; refine (mat M hi hj).mono ?_; rintro e w' ⟨r, rfl, hr, hb⟩)
  go_ret
  exact ⟨r, rfl, hr, hb⟩
/-- rows i and j changed -/
def swp2 (i j r : Nat) : Nat := if r = i then j else if r = j then i else r
end one
def idE (i j : Nat) : Cn := if i = j then (some 4607182418800017408, some 0) else (some 0, some 0)
theorem matw {w : World} {R C c i j : Nat} {A : Option Addr} {F : Nat → Cn} {xs : List Cw} (h : Mx w R C A c F xs) (hi : i < R) (hj : j < C) :
    Calls Try.prog 107 #[.agg #[.int .i64 R, .int .i64 C, .slice A (R * C) c], .int .i64 i, .int .i64 j] w fun e w' => e = .returned (.complex .f64 (zat xs (i * C + j)).1 (zat xs (i * C + j)).2) ∧ Below w.heap.size w w' :=
  (at_any R C i j A c xs w h.len h.hR h.hC hi hj h.sl.rd).mono (by rintro e w' ⟨rfl, rfl⟩; exact ⟨rfl, bal _ _⟩)
/-- are two numbers the same, equal? -/
def sameW (x y : Cw) : Bool := smB x.1 y.1 && smB x.2 y.2
def equalW (x y : Cw) : Bool := eqB x.1 y.1 && eqB x.2 y.2
theorem b_of {n : Nat} {w w' w'' : World} (h : Below n w w') (k : Below w'.heap.size w' w'') (hn : n ≤ w'.heap.size) : Below n w w'' := h.trans (k.mono hn)

theorem undrew {w w' : World} (h : Below w.drew.heap.size w.drew w') : Below w.heap.size w w' := ((below_self w).drew).trans h
section one2
variable {w : World} {R C c B : Nat} {A : Option Addr} {F : Nat → Cn} {xs : List Cw} (h : Mx w R C A c F xs) (hV : V3 B (.int .i64 R) (.int .i64 C) (.slice A (R * C) c) w)
include h hV
end one2
section two
variable {w : World} {R C c B R' C' c' B' : Nat} {A A' : Option Addr} {F G : Nat → Cn} {xs ys : List Cw} (h : Mx w R C A c F xs) (hV : V3 B (.int .i64 R) (.int .i64 C) (.slice A (R * C) c) w) (h' : Mx w R' C' A' c' G ys) (hV' : V3 B' (.int .i64 R') (.int .i64 C') (.slice A' (R' * C') c') w)
include h hV h' hV'
end two

end Go.Proofs.Ytklbgibhbnijaaa

namespace Go.Proofs.Ytklbgibhbnijaaa
open Fl RowKit

section two
variable {w : World} {R C c B R' C' c' B' : Nat} {A A' : Option Addr} {F G : Nat → Cn} {xs ys : List Cw} (h : Mx w R C A c F xs) (hV : V3 B (.int .i64 R) (.int .i64 C) (.slice A (R * C) c) w) (h' : Mx w R' C' A' c' G ys) (hV' : V3 B' (.int .i64 R') (.int .i64 C') (.slice A' (R' * C') c') w)
include h hV h' hV'
end two

end Go.Proofs.Ytklbgibhbnijaaa

namespace Go.Proofs.Ytklbgibhbnijaaa
open Fl RowKit

@[go_sem] theorem run_fieldM (a b : Int) (o : Option Addr) (l c : Nat) (w : World) : Sem.run Try.prog (Instr.field 26 (.agg #[.int .i64 a, .int .i64 b, .slice o l c]) 2) w = .ok (.slice o l c) w := by kernel_rfl
theorem v3_at (w : World) {p : Nat} (a b c : Value) (t : TypeId) (hp : w.heap.size = p) : V3 p a b c (w.alloc (.cells #[a, b, c] t)) := by subst hp; exact v3_new w a b c t
theorem mb_of {R C : Nat} {n : Nat} (hR : R ≤ 64) (hC : C ≤ 64) (hn : n = R * C) : mb (R : Int) (C : Int) n = true := decide_eq_true ⟨by omega, by omega, by omega, by omega, by rw [hn, Int.natCast_mul]⟩
theorem Mx.mb {w : World} {R C c : Nat} {A : Option Addr} {F : Nat → Cn} {xs : List Cw} (h : Mx w R C A c F xs) : mb (R : Int) (C : Int) (R * C) = true := mb_of h.hR h.hC rfl
theorem New.base {base base' n : Nat} {f : Nat → Cn} {zs : List Cw} {v : Value} {w : World} (h : New base f n zs v w) (hb : base' ≤ base) : New base' f n zs v w := ⟨h.len, h.rep, own_base h.own hb⟩
theorem New.ge {base n g c : Nat} {f : Nat → Cn} {zs : List Cw} {w : World} (h : New base f n zs (.slice (some ⟨g, 0, none⟩) n c) w) : base ≤ g := own_ge h.own rfl
theorem ent_trans1 : Ent 134 := fun _ _ => by go_simp
theorem ent_col1 : Ent 106 := fun _ _ => by go_simp
theorem New.congr {base n : Nat} {f g : Nat → Cn} {zs : List Cw} {v : Value} {w : World} (h : New base f n zs v w) (e : ∀ j, j < n → f j = g j) : New base g n zs v w := ⟨h.len, repl_congr h.rep e, h.own⟩
theorem small {n : Nat} (h : n ≤ 4096) : n ≤ 1000000000000000 := by omega
theorem cell_al {w : World} {q : Addr} {v : Value} {o : Obj} (h : w.cell? q = some v) (hq : q.block < w.heap.size) : (w.alloc o).cell? q = some v := by rw [← h]; exact (bal w o).cell hq
section one
variable {w : World} {R C c : Nat} {A : Option Addr} {F : Nat → Cn} {xs : List Cw} (h : Mx w R C A c F xs)
include h
set_option maxHeartbeats 1000000 in
theorem mtransposed : Calls Try.prog 129 #[.agg #[.int .i64 R, .int .i64 C, .slice A (R * C) c]] w fun e w' => ∃ g zs, e = .returned (.agg #[.int .i64 C, .int .i64 R, .slice (some ⟨g, 0, none⟩) (C * R) (C * R)]) ∧ New w.heap.size (flat R (fun j i => F (i * C + j))) (C * R) zs (.slice (some ⟨g, 0, none⟩) (C * R) (C * R)) w' ∧ Below w.heap.size w w' := by
  have hR := h.hR
  have hC := h.hC
  go_enter Try.func129, Try.ntmps129
  go_wp2_with (first
    | (go_at_call 105; (refine (made_any _ _ _ C R _ hC hR ent_trans1 (says_mtrans (B := w.heap.size) (h.below (by repeat first | exact below_self _ | refine ba ?_ _ )) (by repeat first | exact v3_at _ _ _ _ _ (by first | rfl | (simp only [size_al]; first | done | omega)) | refine V3.below ?_ (bal _ _)))).mono ?_); (rintro e w3 ⟨g, zs, rfl, hN, hb⟩); (have Vr : V3 (w.heap.size + 1) (.int .i64 0) (.int .i64 0) (.slice none 0 0) w3 := V3.below (by repeat first | exact v3_at _ _ _ _ _ (by first | rfl | (simp only [size_al]; first | done | omega)) | refine V3.below ?_ (bal _ _)) hb); (obtain ⟨r0, r1, r2⟩ := Vr.reads); (obtain ⟨_, q0, q1, q2, q3, q4, q5⟩ := Vr); (have BB : Below w.heap.size w w3 := b_of (by repeat first | exact below_self _ | refine ba ?_ _ ) hb (by simp; try omega)); (have HN : New w.heap.size _ _ zs _ w3 := hN.base (by simp; try omega)); (have hg := hN.ge); (simp at hg); clear hN hb))
  refine bodyPost_ret (by simp [results, Try.results129, go_sem, r0, r1, r2]; try rfl) rfl ?_
  exact ⟨_, zs, rfl, HN.set3 (by omega) _ _ _, below_set3 BB (by omega) _ _ _⟩
set_option maxHeartbeats 1000000 in
theorem mtranspose : Calls Try.prog 122 #[.agg #[.int .i64 R, .int .i64 C, .slice A (R * C) c]] w fun e w' => ∃ g zs, e = .returned (.tuple #[.agg #[.int .i64 C, .int .i64 R, .slice (some ⟨g, 0, none⟩) (C * R) (C * R)], .int .i64 0]) ∧ New w.heap.size (flat R (fun j i => F (i * C + j))) (C * R) zs (.slice (some ⟨g, 0, none⟩) (C * R) (C * R)) w' ∧ Below w.heap.size w w' := by
  have hR := h.hR
  have hC := h.hC
  have hmb := h.mb
  have hn := small (le_4096 hR hC)
  go_enter Try.func122, Try.ntmps122
  go_wp2_with (first
    | (go_at_call 81; (refine (mayBe_any _ _ _ _ _ _ hn).mono ?_); (rintro e w' ⟨rfl, rfl⟩); (rw [hmb]))
    | (go_at_call 129; (refine (mtransposed (h.below (by repeat first | exact below_self _ | refine ba ?_ _ ))).mono ?_); (rintro e w3 ⟨g, zs, rfl, hN, hb⟩); (have Vr : V3 (w.heap.size + 1) (.int .i64 0) (.int .i64 0) (.slice none 0 0) w3 := V3.below (by repeat first | exact v3_at _ _ _ _ _ (by first | rfl | (simp only [size_al]; first | done | omega)) | refine V3.below ?_ (bal _ _)) hb); (obtain ⟨r0, r1, r2⟩ := Vr.reads); (obtain ⟨_, q0, q1, q2, q3, q4, q5⟩ := Vr); (have BB : Below w.heap.size w w3 := b_of (by repeat first | exact below_self _ | refine ba ?_ _ ) hb (by simp; try omega)); (have HN : New w.heap.size _ _ zs _ w3 := hN.base (by simp; try omega)); (have hg := hN.ge); (simp at hg); clear hN hb))
  refine bodyPost_ret (by simp [results, Try.results122, go_sem, r0, r1, r2]; try rfl) rfl ?_
  exact ⟨_, zs, rfl, HN.set3 (by omega) _ _ _, below_set3 BB (by omega) _ _ _⟩
set_option maxHeartbeats 1000000 in
theorem mcolc {j : Nat} (hj : j < C) : Calls Try.prog 63 #[.agg #[.int .i64 R, .int .i64 C, .slice A (R * C) c], .int .i64 j] w fun e w' => ∃ g zs, e = .returned (.tuple #[.slice (some ⟨g, 0, none⟩) R R, .int .i64 0]) ∧ New w.heap.size (fun k => F (k * C + j)) R zs (.slice (some ⟨g, 0, none⟩) R R) w' ∧ Below w.heap.size w w' := by
  have hR := h.hR
  have hC := h.hC
  have hmb := h.mb
  have hn := small (le_4096 hR hC)
  have hwi : decide (0 ≤ (j : Int) ∧ (j : Int) < (C : Int)) = true := decide_eq_true ⟨by omega, by omega⟩
  have hwj := hwi
  have FEQ : ∀ k, k < R → flat 1 (fun i _ => F (i * C + j)) k = F (k * C + j) := fun k _ => by unfold flat; rw [Nat.div_one]
  go_enter Try.func63, Try.ntmps63
  go_wp2_with (first
    | (go_at_call 81; (refine (mayBe_any _ _ _ _ _ _ hn).mono ?_); (rintro e w' ⟨rfl, rfl⟩); (rw [hmb]))
    | (go_at_call 104; (refine (within_any _ _ _).mono ?_); (rintro e w' ⟨rfl, rfl⟩); (first | rw [hwi] | rw [hwj]))
    | (go_at_call 105; (refine (made_any _ _ _ R 1 _ hR (by decide) ent_col1 (says_mcol (B := w.heap.size) (Bj := w.heap.size + 1) (h.below (by repeat first | exact below_self _ | refine ba ?_ _ )) (by repeat first | exact v3_at _ _ _ _ _ (by first | rfl | (simp only [size_al]; first | done | omega)) | refine V3.below ?_ (bal _ _)) hj (by simp; try omega) (by repeat first | exact al_at _ _ _ _ 0 (by first | rfl | (simp only [size_al]; first | done | omega)) | (refine cell_al ?_ (by simp only [size_al]; omega))))).mono ?_); (rintro e w3 ⟨g, zs, rfl, hN, hb⟩); (have BB : Below w.heap.size w w3 := b_of (by repeat first | exact below_self _ | refine ba ?_ _ ) hb (by simp; try omega)); (have HN : New w.heap.size _ _ zs _ w3 := hN.base (by simp; try omega)); (have hg := hN.ge); (simp at hg); clear hN hb))
  go_ret2
  exact ⟨_, zs, rfl, by simpa using (HN.congr (fun k hk => FEQ k (by simpa using hk))), BB⟩
end one

end Go.Proofs.Ytklbgibhbnijaaa

namespace Go.Proofs.Ytklbgibhbnijaaa
open Fl RowKit

/-- may both be, and have as many rows and columns? -/
def prB (R C : Int) (n : Nat) (R' C' : Int) (n' : Nat) : Bool := mb R C n && mb R' C' n' && decide (R = R') && decide (C = C')
theorem flat_flat {C : Nat} {f : Nat → Cn} (k : Nat) : flat C (fun i j => f (i * C + j)) k = f k := by
  show f (k / C * C + k % C) = f k
  rw [Nat.mul_comm, Nat.div_add_mod]
theorem flatB_flat {C : Nat} {p : Nat → Bool} (k : Nat) : flatB C (fun i j => p (i * C + j)) k = p k := by
  show p (k / C * C + k % C) = p k
  rw [Nat.mul_comm, Nat.div_add_mod]
section two
variable {w : World} {R C c c' : Nat} {A A' : Option Addr} {F G : Nat → Cn} {xs ys : List Cw} (h : Mx w R C A c F xs) (h' : Mx w R C A' c' G ys)
include h h'
omit h' in
theorem pr_yes : prB R C (R * C) R C (R * C) = true := by unfold prB; rw [h.mb]; simp
end two

end Go.Proofs.Ytklbgibhbnijaaa

namespace Go.Proofs.Ytklbgibhbnijaaa
open Fl RowKit

theorem new_mx {base R C g c : Nat} {f : Nat → Cn} {zs : List Cw} {w : World} (h : New base f (R * C) zs (.slice (some ⟨g, 0, none⟩) (R * C) c) w) (hR : R ≤ 64) (hC : C ≤ 64) : Mx w R C (some ⟨g, 0, none⟩) c f zs := by
  have h1 := h.len
  have h2 := h.own
  rw [← h1] at h2
  obtain ⟨ao, cap, hv, hs⟩ := own_sl h2
  cases hv
  exact ⟨h1, hR, hC, h.rep, hs⟩
theorem mcheck (R C : Int) (A : Option Addr) (n c : Nat) (w : World) (hn : n ≤ 1000000000000000) : Calls Try.prog 41 #[.agg #[.int .i64 R, .int .i64 C, .slice A n c]] w fun e w' => e = .returned (.int .i64 (if mb R C n then 0 else 4)) ∧ Below w.heap.size w w' := by
  cases hm : mb R C n
  all_goals
    go_enter Try.func41, Try.ntmps41
    go_wp2_with (go_at_call 81; (refine (mayBe_any _ _ _ _ _ _ hn).mono ?_); (rintro e w' ⟨rfl, rfl⟩); (rw [hm]))
    go_ret
    exact ⟨rfl, ba (bal _ _) _⟩
section none
variable {R C : Int} {A : Option Addr} {n c : Nat} {w : World} (hn : n ≤ 1000000000000000) (hm : mb R C n = false)
include hn hm
theorem ftranspose : Calls Try.prog 122 #[.agg #[.int .i64 R, .int .i64 C, .slice A n c]] w fun e w' => e = .returned (.tuple #[.agg #[.int .i64 0, .int .i64 0, .slice none 0 0], .int .i64 4]) ∧ Below w.heap.size w w' := by
  go_enter Try.func122, Try.ntmps122
  go_wp2_with (go_at_call 81; (refine (mayBe_any _ _ _ _ _ _ hn).mono ?_); (rintro e w' ⟨rfl, rfl⟩); (rw [hm]))
  refine bodyPost_ret (by simp [results, Try.results122, go_sem]; try rfl) rfl ?_
  exact ⟨rfl, (by repeat first | exact below_self _ | refine ba ?_ _ )⟩
theorem fcol (i : Int) : Calls Try.prog 63 #[.agg #[.int .i64 R, .int .i64 C, .slice A n c], .int .i64 i] w fun e w' => e = .returned (.tuple #[.slice none 0 0, .int .i64 4]) ∧ Below w.heap.size w w' := by
  go_enter Try.func63, Try.ntmps63
  go_wp2_with (go_at_call 81; (refine (mayBe_any _ _ _ _ _ _ hn).mono ?_); (rintro e w' ⟨rfl, rfl⟩); (rw [hm]))
  go_ret2
  exact ⟨rfl, (by repeat first | exact below_self _ | refine ba ?_ _ )⟩
end none
section arg
variable {R C : Int} {A : Option Addr} {n c : Nat} {w : World} (hn : n ≤ 1000000000000000) (hm : mb R C n = true)
include hn hm
theorem fcol_arg {i : Int} (h : ¬ (0 ≤ i ∧ i < C)) : Calls Try.prog 63 #[.agg #[.int .i64 R, .int .i64 C, .slice A n c], .int .i64 i] w fun e w' => e = .returned (.tuple #[.slice none 0 0, .int .i64 2]) ∧ Below w.heap.size w w' := by
  have hwi : decide (0 ≤ i ∧ i < C) = false := decide_eq_false h
  have hwj := hwi
  clear h
  go_enter Try.func63, Try.ntmps63
  go_wp2_with (first
    | (go_at_call 81; (refine (mayBe_any _ _ _ _ _ _ hn).mono ?_); (rintro e w' ⟨rfl, rfl⟩); (rw [hm]))
    | (go_at_call 104; (refine (within_any _ _ _).mono ?_); (rintro e w' ⟨rfl, hw'⟩); (subst w'); (first | rw [hwi] | rw [hwj])))
  go_ret2
  exact ⟨rfl, (by repeat first | exact below_self _ | refine ba ?_ _ )⟩
end arg
end Go.Proofs.Ytklbgibhbnijaaa

namespace Go.Proofs.Ytklbgibhbnijaaa
open Fl RowKit

section pairs
variable {R C R' C' : Int} {A A' : Option Addr} {n c n' c' : Nat} {w : World} (hn : n ≤ 1000000000000000) (hn' : n' ≤ 1000000000000000)
include hn hn'
/-- may a product be? -/
def muB (R C : Int) (n : Nat) (R' C' : Int) (n' : Nat) : Bool := mb R C n && mb R' C' n' && decide (C = R')
end pairs
section two
variable {w : World} {R C c c' : Nat} {A A' : Option Addr} {F G : Nat → Cn} {xs ys : List Cw} (h : Mx w R C A c F xs) (h' : Mx w R C A' c' G ys)
include h h'
end two
end Go.Proofs.Ytklbgibhbnijaaa

namespace Go.Proofs.Ytklbgibhbnijaaa
open Fl RowKit

/-- sizes summed -/
def nrF (f : Nat → Cn) : Nat → Option Nat
  | 0 => some 0
  | k + 1 => addA (nrF f k) (sizZ (f k))
theorem nrm_nrF {xs : List Cw} {f : Nat → Cn} {n : Nat} (h : repl f n xs) : ∀ k, k ≤ n → nrm xs k = nrF f k := by
  intro k
  induction k with
  | zero => intro _; rfl
  | succ k ih =>
    intro hk
    show addA (nrm xs k) (sizZ (anz (zat xs k))) = addA (nrF f k) (sizZ (f k))
    rw [ih (by omega), h.anz (by omega : k < n)]
theorem nrF_bd (f : Nat → Cn) (k : Nat) : bdA (nrF f k) := by
  cases k with
  | zero => intro r hr; cases hr; exact ⟨by decide, by decide⟩
  | succ k => exact bd_addA _ _
theorem nrF_congr {f g : Nat → Cn} {n : Nat} (h : ∀ j, j < n → f j = g j) : nrF f n = nrF g n := by
  induction n with
  | zero => rfl
  | succ n ih =>
    show addA (nrF f n) (sizZ (f n)) = addA (nrF g n) (sizZ (g n))
    rw [ih (fun j hj => h j (by omega)), h n (by omega)]
/-- the greatest of some answers, +0 ahead of them -/
def mxF (t : Nat → Option Nat) : Nat → Nat
  | 0 => 0
  | k + 1 => if ordA (t k) (some (mxF t k)) == some .gt then (t k).getD 0 else mxF t k
theorem mxF_ok {t : Nat → Option Nat} (ht : ∀ k, bdA (t k)) (k : Nat) : mxF t k < 18446744073709551616 ∧ nan (mxF t k) = false := by
  induction k with
  | zero => exact ⟨Nat.zero_lt_succ _, show nan 0 = false from by decide⟩
  | succ k ih =>
    unfold mxF
    split
    · cases h : t k with
      | none => exact ⟨by decide, by decide⟩
      | some r => exact ht k r h
    · exact ih
theorem mxF_step (t : Nat → Option Nat) (k : Nat) (hs : rep (some (mxF t k)) (mxF t k)) (r : Nat) (hr : rep (t k) r) : mxF t (k + 1) = if FloatKind.f64.format.order r (mxF t k) == some .gt then r else mxF t k := by
  rw [ordA_of hr hs]
  show (if ordA (t k) (some (mxF t k)) == some .gt then (t k).getD 0 else mxF t k) = _
  cases h : (ordA (t k) (some (mxF t k)) == some .gt)
  · rfl
  · simp only [if_true]
    cases h2 : t k with
    | none => rw [h2] at h; cases h
    | some c => rw [rep_is hr h2]; rfl
/-- the sums of the columns' sizes -/
def colT (F : Nat → Cn) (R C j : Nat) : Option Nat := nrF (fun i => F (i * C + j)) R
end Go.Proofs.Ytklbgibhbnijaaa

namespace Go.Proofs.Ytklbgibhbnijaaa
open Fl RowKit

theorem rw_src {w : World} {b n c : Nat} {A : Option Addr} {xs : List Cw} (h : Rw w b (.slice A n c) n xs) (hx : okl xs) : Src w A c n xs := by
  have h1 := h.len
  have h2 := h.own
  rw [← h1] at h2
  obtain ⟨ao, cap, hv, hs⟩ := own_sl h2
  cases hv
  exact ⟨h1, hx, hs⟩
theorem numbersR {ao : Option Addr} {cap n : Nat} {xs : List Cw} {w : World} (hn : xs.length = n) (hsz : n * 16 ≤ 140737488355328) (hc : Rz w ao xs) :
    Calls Try.prog 10 #[.slice ao n cap] w fun e w' => ∃ A C, e = .returned (.slice A n C) ∧ Rw w' w.heap.size (.slice A n C) n xs ∧ Below w.heap.size w w' := by
  subst hn
  refine (numbers_any ao cap xs w hsz hc).mono ?_
  rintro e w' ⟨v, rfl, ho, hb⟩
  obtain ⟨A, C, rfl, hs⟩ := own_sl ho
  exact ⟨A, C, rfl, ⟨rfl, ho⟩, hb⟩
theorem Rw.set3 {w : World} {b n p : Nat} {v : Value} {zs : List Cw} (h : Rw w b v n zs) (hp : p < b) (x y z : Value) : Rw (Go.Proofs.Ytklbgibhbnijaaa.set3 w p x y z) b v n zs :=
  ⟨h.len, own_at h.own (fun q hq => set3_block (by have := (h.own.lt q hq).1; omega))⟩
theorem ksameM {n ca cb : Nat} {ao bo : Option Addr} {F : Nat → Cn} {xs ys : List Cw} {w : World} (R C : Int) (h : Lst w ao n F xs) (k : Lst w bo n F ys) (hsz : n * 16 ≤ 140737488355328) :
    Calls Try.prog 15 #[.agg #[.int .i64 R, .int .i64 C, .slice ao n ca], .agg #[.int .i64 R, .int .i64 C, .slice bo n cb]] w fun e w' => e = .returned (.bool true) ∧ Below w.heap.size w w' := by
  have hb2 : ∀ o p, Below w.heap.size w ((w.alloc o).alloc p) := fun o p => ba (bal _ _) _
  go_enter Try.func15, Try.ntmps15
  go_wp2_with (go_at_call 45; (refine (tsame (h.below (hb2 _ _)) (k.below (hb2 _ _)) hsz).mono ?_); (rintro e w1 ⟨m, rfl, hw1⟩); subst w1)
  go_ret
  exact ⟨rfl, below_drewN (hb2 _ _) _⟩

end Go.Proofs.Ytklbgibhbnijaaa

namespace Go.Proofs.Ytklbgibhbnijaaa
open Fl RowKit

theorem rc4 {w : World} {B : Nat} {a b c d : Cw} (h0 : w.cell? ⟨B, 0, none⟩ = some (.complex .f64 a.1 a.2)) (h1 : w.cell? ⟨B, 1, none⟩ = some (.complex .f64 b.1 b.2)) (h2 : w.cell? ⟨B, 2, none⟩ = some (.complex .f64 c.1 c.2)) (h3 : w.cell? ⟨B, 3, none⟩ = some (.complex .f64 d.1 d.2)) (hB : B < w.heap.size) : Rc w (some ⟨B, 0, none⟩) [a, b, c, d] := by
  intro k hk
  refine ⟨B, 0, rfl, hB, ?_⟩
  match k, hk with
  | 0, _ => exact h0
  | 1, _ => exact h1
  | 2, _ => exact h2
  | 3, _ => exact h3
theorem al_rc4 (W : World) (a b c d : Cw) (t : TypeId) (B : Nat) (hB : W.heap.size = B) : Rc (W.alloc (.cells #[.complex .f64 a.1 a.2, .complex .f64 b.1 b.2, .complex .f64 c.1 c.2, .complex .f64 d.1 d.2] t)) (some ⟨B, 0, none⟩) [a, b, c, d] :=
  rc4 (al_at W _ t B 0 hB) (al_at W _ t B 1 hB) (al_at W _ t B 2 hB) (al_at W _ t B 3 hB) (by rw [size_al]; omega)
theorem mx_closed {W : World} {R C B c : Nat} {xs : List Cw} (hl : xs.length = R * C) (hR : R ≤ 64) (hC : C ≤ 64) (hc : R * C ≤ c) (hx : okl xs) (hr : Rc W (some ⟨B, 0, none⟩) xs) : Mx W R C (some ⟨B, 0, none⟩) c (fun k => anz (zat xs k)) xs :=
  ⟨hl, hR, hC, fun j _ => repz_anz (hx j), ⟨hr, .inr ⟨B, 0, rfl⟩, by omega⟩⟩
def xI : Cw := (0, 4607182418800017408)
def x1 : Cw := (4607182418800017408, 0)
def x2 : Cw := (4611686018427387904, 0)
def x3 : Cw := (4613937818241073152, 0)
def x4 : Cw := (4616189618054758400, 0)
def x0 : Cw := (0, 0)
def x34 : Cw := (4613937818241073152, 4616189618054758400)
def xm1 : Cw := (13830554455654793216, 0)
theorem ok4 {a b c d : Cw} (h1 : okz a) (h2 : okz b) (h3 : okz c) (h4 : okz d) : okl [a, b, c, d] := okl_cons h1 (okl_cons h2 (okl_cons h3 (okl_cons h4 okl_nil)))
theorem ok2 {a b : Cw} (h1 : okz a) (h2 : okz b) : okl [a, b] := okl_cons h1 (okl_cons h2 okl_nil)
theorem okA : okl [x1, xI, x0, x2] := ok4 (by unfold okz x1; decide) (by unfold okz xI; decide) (by unfold okz x0; decide) (by unfold okz x2; decide)
theorem okB : okl [x1, xI] := ok2 (by unfold okz x1; decide) (by unfold okz xI; decide)
theorem okC : okl [x1, x2, x3, x4] := ok4 (by unfold okz x1; decide) (by unfold okz x2; decide) (by unfold okz x3; decide) (by unfold okz x4; decide)
theorem okD : okl [x34, x1, xm1, x2] := ok4 (by unfold okz x34; decide) (by unfold okz x1; decide) (by unfold okz xm1; decide) (by unfold okz x2; decide)
end Go.Proofs.Ytklbgibhbnijaaa
