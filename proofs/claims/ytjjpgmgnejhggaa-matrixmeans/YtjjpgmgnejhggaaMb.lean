/-
  Structs of three cells in memory; what made and all of package matrix hand back, by what the function that they are handed says.
-/
import Derived.Test.YtjjpgmgnejhggaaMa
namespace Go.Proofs.Ytjjpgmgnejhggaa
open Fl RowKit

theorem other_cell {w : World} {a b : Addr} (u : Value) (h : a ≠ b) : (w.setCell a u).cell? b = w.cell? b := World.cell?_setCell_other _ _ _ _ h
/-- a struct of three cells that may be written -/
structure V3 (p : Nat) (a b c : Value) (w : World) : Prop where
  lt : p < w.heap.size
  c0 : w.cell? ⟨p, 0, none⟩ = some a
  c1 : w.cell? ⟨p, 1, none⟩ = some b
  c2 : w.cell? ⟨p, 2, none⟩ = some c
  f0 : w.frozen? ⟨p, 0, none⟩ = false
  f1 : w.frozen? ⟨p, 1, none⟩ = false
  f2 : w.frozen? ⟨p, 2, none⟩ = false
theorem V3.later {p n : Nat} {a b c : Value} {w w' : World} (h : V3 p a b c w) (hb : Below n w w') (hn : p < n) : V3 p a b c w' :=
  ⟨Nat.lt_of_lt_of_le h.lt hb.size, (hb.cell hn).trans h.c0, (hb.cell hn).trans h.c1, (hb.cell hn).trans h.c2, (hb.frozen hn).trans h.f0, (hb.frozen hn).trans h.f1, (hb.frozen hn).trans h.f2⟩
theorem V3.below {p : Nat} {a b c : Value} {w w' : World} (h : V3 p a b c w) (hb : Below w.heap.size w w') : V3 p a b c w' := h.later hb h.lt
theorem V3.drewN {p : Nat} {a b c : Value} {w : World} (h : V3 p a b c w) (n : Nat) : V3 p a b c (w.drewN n) := ⟨h.lt, h.c0, h.c1, h.c2, h.f0, h.f1, h.f2⟩
theorem v3_new (w : World) (a b c : Value) (t : TypeId) : V3 w.heap.size a b c (w.alloc (.cells #[a, b, c] t)) :=
  ⟨by simp, World.cell?_alloc_new w _ _ 0, World.cell?_alloc_new w _ _ 1, World.cell?_alloc_new w _ _ 2, by simp, by simp, by simp⟩
theorem V3.other {p : Nat} {a b c : Value} {w : World} (h : V3 p a b c w) {q : Addr} (hq : q.block ≠ p) (u : Value) : V3 p a b c (w.setCell q u) := by
  have key : ∀ j : Nat, q ≠ (⟨p, j, none⟩ : Addr) := fun j e => hq (congrArg Addr.block e)
  refine ⟨by simpa using h.lt, ?_, ?_, ?_, ?_, ?_, ?_⟩
  · rw [other_cell _ (key _)]; exact h.c0
  · rw [other_cell _ (key _)]; exact h.c1
  · rw [other_cell _ (key _)]; exact h.c2
  · simpa using h.f0
  · simpa using h.f1
  · simpa using h.f2
theorem V3.reads {p : Nat} {x y z : Value} {w : World} (h : V3 p x y z w) : (∀ a, (w.setCell ⟨p, 0, none⟩ a).cell? ⟨p, 0, none⟩ = some a) ∧ (∀ a b, ((w.setCell ⟨p, 0, none⟩ a).setCell ⟨p, 1, none⟩ b).cell? ⟨p, 1, none⟩ = some b) ∧
    (∀ a b c, (((w.setCell ⟨p, 0, none⟩ a).setCell ⟨p, 1, none⟩ b).setCell ⟨p, 2, none⟩ c).cell? ⟨p, 2, none⟩ = some c) := by
  refine ⟨fun a => World.cell?_setCell_same _ _ _ h.c0, fun a b => World.cell?_setCell_same _ _ _ (u := y) ?_, fun a b c => World.cell?_setCell_same _ _ _ (u := z) ?_⟩
  · rw [other_cell _ (by simp)]; exact h.c1
  · rw [other_cell _ (by simp), other_cell _ (by simp)]; exact h.c2
/-- three cells written -/
def set3 (w : World) (p : Nat) (a b c : Value) : World := ((w.setCell ⟨p, 0, none⟩ a).setCell ⟨p, 1, none⟩ b).setCell ⟨p, 2, none⟩ c
theorem V3.put {p : Nat} {x y z : Value} {w : World} (h : V3 p x y z w) (a b c : Value) : V3 p a b c (set3 w p a b c) := by
  obtain ⟨r0, r1, r2⟩ := h.reads
  refine ⟨by simpa [set3] using h.lt, ?_, ?_, r2 a b c, by simpa [set3] using h.f0, by simpa [set3] using h.f1, by simpa [set3] using h.f2⟩
  · unfold set3; rw [other_cell _ (by simp), other_cell _ (by simp)]; exact r0 a
  · unfold set3; rw [other_cell _ (by simp)]; exact r1 a b
theorem V3.other3 {p n : Nat} {a b c : Value} {w : World} (h : V3 p a b c w) (hn : n ≠ p) (x y z : Value) : V3 p a b c (set3 w n x y z) :=
  ((h.other (q := ⟨n, 0, none⟩) hn x).other (q := ⟨n, 1, none⟩) hn y).other (q := ⟨n, 2, none⟩) hn z
theorem below_set3 {n p : Nat} {w w' : World} (h : Below n w w') (hp : n ≤ p) (a b c : Value) : Below n w (set3 w' p a b c) :=
  ((h.setCell (p := ⟨p, 0, none⟩) hp _).setCell (p := ⟨p, 1, none⟩) hp _).setCell (p := ⟨p, 2, none⟩) hp _
theorem set3_block {w : World} {p g : Nat} {a b c : Value} (h : p ≠ g) : (set3 w p a b c).heap[g]? = w.heap[g]? := by
  unfold set3
  rw [Below.heap_setCell _ _ _ _ (Ne.symm h), Below.heap_setCell _ _ _ _ (Ne.symm h), Below.heap_setCell _ _ _ _ (Ne.symm h)]
theorem New.set3 {base n p g cap : Nat} {f : Nat → Cn} {zs : List Cw} {w : World} (h : New base f n zs (.slice (some ⟨g, 0, none⟩) n cap) w) (hp : p ≠ g) (a b c : Value) : New base f n zs (.slice (some ⟨g, 0, none⟩) n cap) (Go.Proofs.Ytjjpgmgnejhggaa.set3 w p a b c) :=
  ⟨h.len, h.rep, own_at h.own (fun q hq => by cases hq; exact set3_block hp)⟩

/-- what a function value of a row and a column says, in all worlds from w on; it may lay new memory -/
def SaysE (w : World) (F : FuncId) (caps : Array Value) (R C : Nat) (f : Nat → Nat → Cn) : Prop :=
  ∀ (i j : Nat) (W : World), i < R → j < C → Below w.heap.size w W → Calls Try.prog F (#[.int .i64 i, .int .i64 j] ++ caps) W fun e W' => ∃ r : Cw, e = .returned (cx r) ∧ repz (f i j) r ∧ Below W.heap.size W W'
/-- a function of rows and columns, by places -/
def flat (C : Nat) (f : Nat → Nat → Cn) (k : Nat) : Cn := f (k / C) (k % C)
theorem flat_at {C i j : Nat} {f : Nat → Nat → Cn} (hj : j < C) : flat C f (i * C + j) = f i j := by
  unfold flat
  rw [Nat.add_comm, Nat.add_mul_div_right _ _ (by omega), Nat.div_eq_of_lt hj, Nat.add_mul_mod_self_right, Nat.mod_eq_of_lt hj, Nat.zero_add]
set_option maxHeartbeats 2000000 in
theorem made_any (F : FuncId) (caps : Array Value) (f : Nat → Nat → Cn) (R C : Nat) (w : World) (hR : R ≤ 64) (hC : C ≤ 64) (hE : Ent F) (hF : SaysE w F caps R C f) :
    Calls Try.prog 65 #[.int .i64 R, .int .i64 C, .func (.func F) #[] caps] w fun e w' => ∃ g zs, e = .returned (.agg #[.int .i64 R, .int .i64 C, .slice (some ⟨g, 0, none⟩) (R * C) (R * C)]) ∧ New w.heap.size (flat C f) (R * C) zs (.slice (some ⟨g, 0, none⟩) (R * C) (R * C)) w' ∧ Below w.heap.size w w' := by
  obtain ⟨i0, hi, hz0, hz1, hz2⟩ := info_parts Try.infoC
  have h4 := le_4096 hR hC
  have hm := wrap_mul (i := R) (C := C) (by omega) (by omega)
  obtain ⟨n, hne⟩ : ∃ n, n = R * C := ⟨_, rfl⟩
  rw [← hne] at hm h4 ⊢
  have HN : Hid (n = R * C) := hne
  clear hne
  have V0 : V3 w.heap.size (.int .i64 0) (.int .i64 0) (.slice none 0 0) (w.alloc (.cells #[.int .i64 0, .int .i64 0, .slice none 0 0] 28)) := v3_new w _ _ _ _
  have B0 : Below w.heap.size w (w.alloc (.cells #[.int .i64 0, .int .i64 0, .slice none 0 0] 28)) := (Below.refl _ _).alloc (Nat.le_refl _) _
  go_enter Try.func65, Try.ntmps65
  go_wp2_with (at_make; refine wpList_make_full _ rfl _ _ 26 rfl w.heap.size 63 i0 (.complex .f64 0 0) 1 Try.underlying26 hi hz0 hz1 _ _ _ _ n rfl rfl (by first | rfl | exact hm) (by first | rfl | exact hm) (by rw [hz2]; omega) (by unfold maxLen; omega) (by simp) ?_; intro w1 hown hgrow)
  have hb0 : Below w.heap.size w w1 := B0.grown hgrow (by simp) (by intro k hk; simp at hk)
  have V1 : V3 w.heap.size (.int .i64 0) (.int .i64 0) (.slice none 0 0) w1 := V0.below ((Below.refl _ _).grown hgrow (Nat.le_refl _) (by intro k hk; simp at hk))
  rw [made_zeroC] at hown
  simp only [size_al] at hown
  clear hgrow V0 B0
  go_wp2
  go_loopw [15] (fun iv wr => ∃ (i : Nat) (zs : List Cw), i ≤ R ∧ iv = .int .i64 i ∧ zs.length = n ∧ repl (flat C f) (i * C) zs ∧ wr.ownsRow w.heap.size 63 1 (.slice (some ⟨w.heap.size + 1, 0, none⟩) n n) n (zs.map cx) ∧ V3 w.heap.size (.int .i64 0) (.int .i64 0) (.slice none 0 0) wr ∧ Below w.heap.size w wr) (fun iv _ => R - (intOf iv).toNat)
  case atStart => exact ⟨0, List.replicate n (0, 0), Nat.zero_le _, rfl, by simp, fun j hj => absurd hj (by omega), hown, V1, hb0⟩
  case round =>
    clear hown V1 hb0
    obtain ⟨i, zs, hiR, rfl, hl, hr, how, V, hbel⟩ := hrel
    by_cases hlt : i < R
    · have hmi := wrap_mul (i := i) (C := C) (by omega) (by omega)
      have h1 : (i + 1) * C ≤ R * C := Nat.mul_le_mul_right _ (by omega)
      have e1 : (i + 1) * C = i * C + C := Nat.succ_mul _ _
      rw [e1, ← HN.out] at h1
      obtain ⟨k, hke⟩ : ∃ k, k = i * C := ⟨_, rfl⟩
      have HK : Hid (k = i * C) := hke
      rw [← hke] at hmi h1 hr
      clear hke e1
      go_wp2
      go_loopw [19] (fun jv wr => ∃ (j : Nat) (zs : List Cw), j ≤ C ∧ jv = .int .i64 j ∧ zs.length = n ∧ repl (flat C f) (k + j) zs ∧ wr.ownsRow w.heap.size 63 1 (.slice (some ⟨w.heap.size + 1, 0, none⟩) n n) n (zs.map cx) ∧ V3 w.heap.size (.int .i64 0) (.int .i64 0) (.slice none 0 0) wr ∧ Below w.heap.size w wr) (fun jv _ => C - (intOf jv).toNat)
      case atStart => exact ⟨0, zs, Nat.zero_le _, rfl, hl, hr, how, V, hbel⟩
      case round =>
        clear hl hr how V hbel
        obtain ⟨j, zs, hjC, rfl, hl, hr, how, V, hbel⟩ := hrel
        by_cases hjl : j < C
        · have HR : Hid (repl (flat C f) (k + j) zs) := hr
          have HF : Hid (SaysE w F caps R C f) := hF
          have HO : Hid (wr.ownsRow w.heap.size 63 1 (.slice (some ⟨w.heap.size + 1, 0, none⟩) n n) n (zs.map cx)) := how
          have HV : Hid (V3 w.heap.size (.int .i64 0) (.int .i64 0) (.slice none 0 0) wr) := V
          have HB : Hid (Below w.heap.size w wr) := hbel
          have HE := hE
          unfold Ent at HE
          clear hr hF how V hbel
          go_wp2_with ((refine (HF.out i j _ hlt hjl HB.out).mono ?_); (rintro e w2 ⟨r, rfl, hrz, hb2⟩); (have HZ : Hid (repz (f i j) r) := hrz); (have HB2 : Hid (Below wr.heap.size wr w2) := hb2); (have ho2 := own_below HO.out hb2); (have hcell := ho2.cellAt (k + j) (by simp; omega)); (have hfz := ho2.frozenAt (k + j)); (rw [List.getElem?_map, zat_lt (by omega)] at hcell); (obtain ⟨y, hy⟩ : ∃ y, y = zat zs (k + j) := ⟨_, rfl⟩); (rw [← hy] at hcell); (have HS : Hid (∀ u : Cw, (w2.setCell ⟨w.heap.size + 1, k + j, none⟩ (cx u)).ownsRow w.heap.size 63 1 (.slice (some ⟨w.heap.size + 1, 0, none⟩) n n) n ((zs.map cx).set (k + j) (cx u))) := fun u => (ho2.stored (k + j) (cx u)).1); clear hy hrz hb2 ho2; unfold cx)
          go_roundw
          case rel =>
            refine ⟨j + 1, zs.set (k + j) r, by omega, by go_num, by simpa using hl, HR.out.set (by omega) (by rw [HK.out, flat_at hjl]; exact HZ.out), ?_, (HV.out.below HB2.out).other (by simp) _, ?_⟩
            · rw [List.map_set]; exact HS.out r
            · exact (HB.out.trans (HB2.out.mono HB.out.size)).setCell (by simp) _
          case measure => simp [intOf]; omega
        · have e : j = C := by omega
          subst e
          clear hF
          go_wp2
          go_roundw
          case rel => exact ⟨i + 1, zs, by omega, by go_num, hl, by rw [Nat.succ_mul, ← HK.out]; exact hr, how, V, hbel⟩
          case measure => simp [intOf]; omega
    · have e : i = R := by omega
      subst e
      have vlt := V.lt
      have q0 := V.c0
      have q1 := V.c1
      have q2 := V.c2
      have q3 := V.f0
      have q4 := V.f1
      have q5 := V.f2
      clear hF
      go_wp2
      obtain ⟨m0, m1, m2⟩ := V.reads
      refine bodyPost_ret (by simp [results, Try.results65, go_sem, m0, m1, m2]; try rfl) rfl ?_
      have hN : New w.heap.size (flat C f) n zs (.slice (some ⟨w.heap.size + 1, 0, none⟩) n n) wr := ⟨hl, by rw [HN.out]; exact hr, how⟩
      exact ⟨_, zs, rfl, hN.set3 (by omega) _ _ _, below_set3 hbel (Nat.le_refl _) _ _ _⟩

/-- holds it at all places below k? -/
def allB (p : Nat → Bool) : Nat → Bool
  | 0 => true
  | k + 1 => allB p k && p k
theorem allB_no {p : Nat → Bool} {k : Nat} (hf : p k = false) : ∀ n, k < n → allB p n = false := by
  intro n
  induction n with
  | zero => intro _; omega
  | succ n ih =>
    intro hk
    unfold allB
    by_cases e : k = n
    · subst e; rw [hf, Bool.and_false]
    · rw [ih (by omega), Bool.false_and]
theorem allB_at {p : Nat → Bool} {n : Nat} (h : allB p n = true) : ∀ j, j < n → p j = true := by
  intro j hj
  cases hp : p j
  · rw [allB_no hp n hj] at h; cases h
  · rfl
theorem allB_mk {p : Nat → Bool} {n : Nat} (h : ∀ j, j < n → p j = true) : allB p n = true := by
  induction n with
  | zero => rfl
  | succ n ih => unfold allB; rw [ih (fun j hj => h j (by omega)), h n (by omega)]; rfl
theorem allB_congr {p q : Nat → Bool} {n : Nat} (h : ∀ j, j < n → p j = q j) : allB p n = allB q n := by
  induction n with
  | zero => rfl
  | succ n ih => unfold allB; rw [ih (fun j hj => h j (by omega)), h n (by omega)]
def flatB (C : Nat) (p : Nat → Nat → Bool) (k : Nat) : Bool := p (k / C) (k % C)
theorem flatB_at {C i j : Nat} {p : Nat → Nat → Bool} (hj : j < C) : flatB C p (i * C + j) = p i j := by
  unfold flatB
  rw [Nat.add_comm, Nat.add_mul_div_right _ _ (by omega), Nat.div_eq_of_lt hj, Nat.add_mul_mod_self_right, Nat.mod_eq_of_lt hj, Nat.zero_add]
/-- what a function value that asks of a row and a column says, in all worlds from w on -/
def SaysB (w : World) (F : FuncId) (caps : Array Value) (R C : Nat) (p : Nat → Nat → Bool) : Prop :=
  ∀ (i j : Nat) (W : World), i < R → j < C → Below w.heap.size w W → Calls Try.prog F (#[.int .i64 i, .int .i64 j] ++ caps) W fun e W' => e = .returned (.bool (p i j)) ∧ Below W.heap.size W W'
set_option maxHeartbeats 2000000 in
theorem all_any (F : FuncId) (caps : Array Value) (p : Nat → Nat → Bool) (R C : Nat) (v : Value) (w : World) (hR : R ≤ 64) (hC : C ≤ 64) (hE : Ent F) (hF : SaysB w F caps R C p) :
    Calls Try.prog 82 #[.agg #[.int .i64 R, .int .i64 C, v], .func (.func F) #[] caps] w fun e w' => e = .returned (.bool (allB (flatB C p) (R * C))) ∧ Below w.heap.size w w' := by
  obtain ⟨b, hbe⟩ : ∃ b, b = allB (flatB C p) (R * C) := ⟨_, rfl⟩
  rw [← hbe]
  have HBE : Hid (b = allB (flatB C p) (R * C)) := hbe
  clear hbe
  obtain ⟨wA, hwA⟩ : ∃ wA, wA = w.alloc (.cells #[.int .i64 R, .int .i64 C, v] 28) := ⟨_, rfl⟩
  have V0 : V3 w.heap.size (.int .i64 R) (.int .i64 C) v wA := by rw [hwA]; exact v3_new w _ _ _ _
  have B0 : Below w.heap.size w wA := by rw [hwA]; exact (Below.refl _ _).alloc (Nat.le_refl _) _
  have c0 := V0.c0
  go_enter Try.func82, Try.ntmps82
  go_wp2
  rw [← hwA]
  clear hwA c0
  go_loopw [9] (fun iv wr => ∃ i : Nat, i ≤ R ∧ iv = .int .i64 i ∧ allB (flatB C p) (i * C) = true ∧ V3 w.heap.size (.int .i64 R) (.int .i64 C) v wr ∧ Below w.heap.size w wr) (fun iv _ => R - (intOf iv).toNat)
  case atStart => exact ⟨0, Nat.zero_le _, rfl, by rw [Nat.zero_mul]; rfl, V0, B0⟩
  case round =>
    clear V0 B0
    obtain ⟨i, hiR, rfl, hal, V, hbel⟩ := hrel
    by_cases hlt : i < R
    · have c1 := V.c1
      have HA : Hid (allB (flatB C p) (i * C) = true) := hal
      clear hal
      go_wp2
      go_loopw [14] (fun jv wr => ∃ j : Nat, j ≤ C ∧ jv = .int .i64 j ∧ allB (flatB C p) (i * C + j) = true ∧ V3 w.heap.size (.int .i64 R) (.int .i64 C) v wr ∧ Below w.heap.size w wr) (fun jv _ => C - (intOf jv).toNat)
      case atStart => exact ⟨0, Nat.zero_le _, rfl, HA.out, V, hbel⟩
      case round =>
        clear V hbel HA c1
        obtain ⟨j, hjC, rfl, hal, V, hbel⟩ := hrel
        by_cases hjl : j < C
        · have HF : Hid (SaysB w F caps R C p) := hF
          have HV : Hid (V3 w.heap.size (.int .i64 R) (.int .i64 C) v wr) := V
          have HB : Hid (Below w.heap.size w wr) := hbel
          have G1 : Hid (p i j = false → b = false) := fun h => by rw [HBE.out]; exact allB_no (k := i * C + j) (by rw [flatB_at hjl]; exact h) _ (place_lt hlt hjl)
          have G2 : Hid (p i j = true → allB (flatB C p) (i * C + (j + 1)) = true) := fun h => by
            rw [← Nat.add_assoc]; unfold allB; rw [hal, flatB_at hjl, h]; rfl
          unfold Ent at hE
          clear hF V hbel hal
          cases hp : p i j
          · have e : b = false := G1.out hp
            subst e
            go_wp2_with ((refine (HF.out i j _ hlt hjl HB.out).mono ?_); (rintro e w2 ⟨rfl, hb2⟩); (rw [hp]); (have HB2 : Hid (Below wr.heap.size wr w2) := hb2); clear hb2)
            go_ret
            exact ⟨rfl, HB.out.trans (HB2.out.mono HB.out.size)⟩
          · go_wp2_with ((refine (HF.out i j _ hlt hjl HB.out).mono ?_); (rintro e w2 ⟨rfl, hb2⟩); (rw [hp]); (have HB2 : Hid (Below wr.heap.size wr w2) := hb2); clear hb2)
            go_roundw
            case rel => exact ⟨j + 1, by omega, by go_num, G2.out hp, HV.out.below HB2.out, HB.out.trans (HB2.out.mono HB.out.size)⟩
            case measure => simp [intOf]; omega
        · have e : j = C := by omega
          subst e
          clear hF
          have HA : Hid (allB (flatB j p) (i * j + j) = true) := hal
          clear hal
          go_wp2
          go_roundw
          case rel => exact ⟨i + 1, by omega, by go_num, by rw [Nat.succ_mul]; exact HA.out, V, hbel⟩
          case measure => simp [intOf]; omega
    · have e : i = R := by omega
      subst e
      clear hF
      have e : b = true := by rw [HBE.out]; exact hal
      subst e
      clear hal
      go_wp2
      go_ret
      exact ⟨rfl, hbel⟩

end Go.Proofs.Ytjjpgmgnejhggaa
