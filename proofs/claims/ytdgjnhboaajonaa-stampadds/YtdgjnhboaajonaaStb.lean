/-
  stamp.put and stamp.Add; the document's Add.
-/
import Derived.Test.YtdgjnhboaajonaaSta
namespace Go.Proofs.Ytdgjnhboaajonaa
open Fl RowKit
set_option linter.unusedVariables false

/-- an entry changed in place -/
theorem sput_any {F : FuncId} {op : Cn → Cn → Cn} (hE : Ent F) (hF : Op2 F op) {w : World} {p : Addr} {x y : Cw} (hx : okz x) (hy : okz y) (hc : w.cell? p = some (cx x)) (hf : w.frozen? p = false) (f : Bool) (hfin : finC (op (anz x) (anz y)) = f) :
    Calls Try.prog 49 #[.pointer (some p), .func (.func F) #[] #[], .complex .f64 y.1 y.2] w fun e w' => e = .returned (.int .i64 (if f = true then 0 else 6)) ∧ ∃ (r : Cw) (m : Nat), repz (op (anz x) (anz y)) r ∧ w' = (w.drewN m).setCell p (cx r) := by
  have HF := hidS (fun W => hF W x y hx hy)
  have HFI := hidS hfin
  have hfin2 := fun (r : Cw) (h : repz (op (anz x) (anz y)) r) => (finZ_of h).trans hfin
  have HF2 := hidS hfin2
  unfold cx at hc
  unfold Ent at hE
  clear hfin hfin2 hF
  cases f
  all_goals
    go_enter Try.func49, Try.ntmps49
    go_wp2_with (first
      | (go_at_call 65; (with_reducible refine (fin_any r.1 r.2 _ o1 o2).mono ?_); rintro e w' ⟨rfl, rfl⟩; (have hff := HF2.out r HR.out); (unfold finZ at hff); rw [hff])
      | ((refine (HF.out _).mono ?_); rintro e w1 ⟨r, m, rfl, hr, rfl⟩; (have HR := hidS hr); (obtain ⟨o1, o2⟩ := hr.ok); (have hrd : ((w.drewN m).setCell p (.complex .f64 r.1 r.2)).cell? p = some (.complex .f64 r.1 r.2) := World.cell?_setCell_same _ _ _ (show (w.drewN m).cell? p = some _ from hc)); clear hr))
    go_ret
    exact ⟨rfl, _, _, HR.out, _, rfl⟩
/-- why a matrix cannot be added to -/
def sadE (R C : Int) (n : Nat) (i j : Int) (f : Bool) : Int := if mb R C n = false then 4 else if ¬ (0 ≤ i ∧ i < R ∧ 0 ≤ j ∧ j < C) then 2 else if f = false then 6 else 0
/-- what the call tells where nothing is refused -/
def sadF (k : Nat) (xs : List Cw) (y : Cw) (j : Nat) : Cn := if j = k then addZ (anz (zat xs k)) (anz y) else anz (zat xs j)
theorem repl_set {k : Nat} {xs : List Cw} {y r : Cw} (hx : okl xs) (hk : k < xs.length) (hr : repz (addZ (anz (zat xs k)) (anz y)) r) : repl (sadF k xs y) xs.length (xs.set k r) := by
  intro j hj
  unfold sadF
  by_cases e : j = k
  · subst e
    rw [if_pos rfl]
    have : zat (xs.set j r) j = r := by simp [zat, List.getD_eq_getElem?_getD, hj]
    rw [this]; exact hr
  · rw [if_neg e]
    have : zat (xs.set k r) j = zat xs j := by simp [zat, List.getD_eq_getElem?_getD, Ne.symm e]
    rw [this]; exact repz_anz (hx j)
/-- refused: a call that tells nothing -/
def SadNo (F : FuncId) (R C : Int) (n : Nat) (i j : Int) (y : Cw) (xs : List Cw) (E : Int) : Prop := ∀ (W : World) (A : Option Addr) (c : Nat), Src W A c n xs → Calls Try.prog F #[.agg #[.int .i64 R, .int .i64 C, .slice A n c], .int .i64 i, .int .i64 j, .complex .f64 y.1 y.2] W fun e w' => e = .returned (.tuple #[.agg #[.int .i64 0, .int .i64 0, .slice none 0 0], .int .i64 E]) ∧ Below W.heap.size W w'
/-- told: a new row -/
def SadYes (F : FuncId) (R C : Int) (n k : Nat) (i j : Int) (y : Cw) (xs : List Cw) : Prop := ∀ (W : World) (A : Option Addr) (c : Nat), Src W A c n xs → Calls Try.prog F #[.agg #[.int .i64 R, .int .i64 C, .slice A n c], .int .i64 i, .int .i64 j, .complex .f64 y.1 y.2] W fun e w' => ∃ g c', e = .returned (.tuple #[.agg #[.int .i64 R, .int .i64 C, .slice (some ⟨g, 0, none⟩) n c'], .int .i64 0]) ∧ ∃ zs, Hid (repl (sadF k xs y) n zs) ∧ Rw w' W.heap.size (.slice (some ⟨g, 0, none⟩) n c') n zs ∧ Below W.heap.size W w'
theorem v3_box (w : World) (R C : Int) (v : Value) : ∃ wA, wA = (w.alloc (.cells #[.int .i64 R, .int .i64 C, v] 39)).alloc (.cells #[.int .i64 0, .int .i64 0, .slice none 0 0] 39) ∧ V3 w.heap.size (.int .i64 R) (.int .i64 C) v wA ∧ V3 (w.heap.size + 1) (.int .i64 0) (.int .i64 0) (.slice none 0 0) wA ∧ Below w.heap.size w wA ∧ wA.heap.size = w.heap.size + 1 + 1 := by
  refine ⟨_, rfl, (v3_new w _ _ _ _).below (bal _ _), v3_at _ _ _ _ _ (size_al _ _), ba (bal _ _) _, by rw [size_al, size_al]⟩
theorem rw_set3 {w : World} {b n p g c : Nat} {zs : List Cw} (h : Rw w b (.slice (some ⟨g, 0, none⟩) n c) n zs) (hp : p ≠ g) (x y z : Value) : Rw (set3 w p x y z) b (.slice (some ⟨g, 0, none⟩) n c) n zs := ⟨h.len, own_at h.own (fun q hq => by
  have e : g = q := by simpa [Value.ownBlock] using hq
  subst e
  exact set3_block hp)⟩
section no
variable {R C : Int} {n : Nat} {i j : Int} {y : Cw} {xs : List Cw} (hn : n ≤ 1000000000000000)
include hn
set_option maxHeartbeats 2000000 in
theorem sadd_no1 (hm : mb R C n = false) : SadNo 20 R C n i j y xs 4 := by
  intro W A c h
  have hm2 := hm
  go_enter Try.func20, Try.ntmps20
  go_wp2_with (first
    | (go_at_call 47; (with_reducible refine (mcheck R C A n c _ hn).mono ?_); rintro e w1 ⟨rfl, hb⟩; rw [hm2]; (have V : V3 (W.heap.size + 1) (.int .i64 0) (.int .i64 0) (.slice none 0 0) w1 := V3.below (v3_at _ _ _ _ _ (size_al _ _)) hb); (obtain ⟨r0, r1, r2⟩ := V.reads); (obtain ⟨_, q0, q1, q2, q3, q4, q5⟩ := V); (have BB := hidS (bt (ba (bal W (.cells #[.int .i64 R, .int .i64 C, .slice A n c] 39)) (.cells #[.int .i64 0, .int .i64 0, .slice none 0 0] 39)) hb)); clear hb))
  refine bodyPost_ret (by simp [results, Try.results20, go_sem, r0, r1, r2]; try rfl) rfl ?_
  exact ⟨rfl, below_set3 BB.out (by omega) _ _ _⟩
set_option maxHeartbeats 2000000 in
theorem sadd_no2 (hm : mb R C n = true) (hr : ¬ (0 ≤ i ∧ i < R ∧ 0 ≤ j ∧ j < C)) : SadNo 20 R C n i j y xs 2 := by
  intro W A c h
  have hm2 := hm
  have key : ∀ (hq : i < 0 ∨ ¬ i < 0 ∧ R ≤ i ∨ ¬ i < 0 ∧ ¬ R ≤ i ∧ j < 0 ∨ ¬ i < 0 ∧ ¬ R ≤ i ∧ ¬ j < 0 ∧ C ≤ j), Calls Try.prog 20 #[.agg #[.int .i64 R, .int .i64 C, .slice A n c], .int .i64 i, .int .i64 j, .complex .f64 y.1 y.2] W fun e w' => e = .returned (.tuple #[.agg #[.int .i64 0, .int .i64 0, .slice none 0 0], .int .i64 2]) ∧ Below W.heap.size W w' := by
    rintro (h1 | ⟨h1, h2⟩ | ⟨h1, h2, h3⟩ | ⟨h1, h2, h3, h4⟩)
    all_goals
      clear hr
      go_enter Try.func20, Try.ntmps20
      go_wp2_with (first
        | (go_at_call 47; (with_reducible refine (mcheck R C A n c _ hn).mono ?_); rintro e w1 ⟨rfl, hb⟩; rw [hm2]; (have V : V3 (W.heap.size + 1) (.int .i64 0) (.int .i64 0) (.slice none 0 0) w1 := V3.below (v3_at _ _ _ _ _ (size_al _ _)) hb); (have Va : V3 W.heap.size (.int .i64 R) (.int .i64 C) (.slice A n c) w1 := ((v3_new W _ _ _ _).below (bal _ _)).below hb); (obtain ⟨r0, r1, r2⟩ := V.reads); (obtain ⟨_, q0, q1, q2, q3, q4, q5⟩ := V); (obtain ⟨_, a0, a1, a2, _, _, _⟩ := Va); (have BB := hidS (bt (ba (bal W (.cells #[.int .i64 R, .int .i64 C, .slice A n c] 39)) (.cells #[.int .i64 0, .int .i64 0, .slice none 0 0] 39)) hb)); clear hb))
      refine bodyPost_ret (by simp [results, Try.results20, go_sem, r0, r1, r2]; try rfl) rfl ?_
      exact ⟨rfl, below_set3 BB.out (by omega) _ _ _⟩
  refine key ?_
  omega
end no
section yes
variable {R C i j : Nat} {y : Cw} {xs : List Cw} (hR : R ≤ 64) (hC : C ≤ 64) (hi : i < R) (hj : j < C) (hy : okz y)
include hR hC hi hj hy
theorem sadd_body (f : Bool) (hf : finC (addZ (anz (zat xs (i * C + j))) (anz y)) = f) {W : World} {A : Option Addr} {c : Nat} (h : Src W A c (R * C) xs) : Calls Try.prog 20 #[.agg #[.int .i64 R, .int .i64 C, .slice A (R * C) c], .int .i64 i, .int .i64 j, .complex .f64 y.1 y.2] W fun e w' => if f = true then (∃ g c', e = .returned (.tuple #[.agg #[.int .i64 R, .int .i64 C, .slice (some ⟨g, 0, none⟩) (R * C) c'], .int .i64 0]) ∧ ∃ zs, Hid (repl (sadF (i * C + j) xs y) (R * C) zs) ∧ Rw w' W.heap.size (.slice (some ⟨g, 0, none⟩) (R * C) c') (R * C) zs ∧ Below W.heap.size W w') else (e = .returned (.tuple #[.agg #[.int .i64 0, .int .i64 0, .slice none 0 0], .int .i64 6]) ∧ Below W.heap.size W w') := by
  have hk := place_lt hi hj
  have h4 := le_4096 hR hC
  have hmb : mb (R : Int) (C : Int) (R * C) = true := mb_of hR hC rfl
  have hmi := wrap_mul (i := i) (C := C) (by omega) (by omega)
  have hi2 : ¬ (i : Int) < 0 := by omega
  have hi3 : ¬ (R : Int) ≤ (i : Int) := by omega
  have hj2 : ¬ (j : Int) < 0 := by omega
  have hj3 : ¬ (C : Int) ≤ (j : Int) := by omega
  obtain ⟨k0, hk0⟩ : ∃ k0, i * C = k0 := ⟨_, rfl⟩
  obtain ⟨n, hne⟩ : ∃ n, R * C = n := ⟨_, rfl⟩
  rw [hk0] at hk hmi hf ⊢
  rw [hne] at hk h4 hmb h ⊢
  have hwk : wrap64 ((k0 : Int) + (j : Int)) = ((k0 + j : Nat) : Int) := by rw [← Int.natCast_add]; exact wrap_small (by omega) (by omega)
  obtain ⟨k, hke⟩ : ∃ k, k0 + j = k := ⟨_, rfl⟩
  rw [hke] at hk hf hwk ⊢
  have hln := h.len
  have hox := h.ok
  have HS := hidS h
  have HP := hidS (fun (W' : World) (g : Nat) (hc : W'.cell? ⟨g, k, none⟩ = some (cx (zat xs k))) (hz : W'.frozen? ⟨g, k, none⟩ = false) => sput_any ent2_add op2_add (hox k) hy hc hz f hf)
  clear h hf
  cases f
  all_goals
    go_enter Try.func20, Try.ntmps20
    go_wp2_with (first
      | (go_at_call 47; (with_reducible refine (mcheck R C A n c _ (by omega)).mono ?_); rintro e w1 ⟨rfl, hb⟩; rw [hmb]; (have V := hidS (V3.below (v3_at (p := W.heap.size + 1) (W.alloc (.cells #[.int .i64 R, .int .i64 C, .slice A n c] 39)) (.int .i64 0) (.int .i64 0) (.slice none 0 0) 39 (size_al _ _)) hb)); (have Va := hidS (((v3_new W (.int .i64 R) (.int .i64 C) (.slice A n c) 39).below (bal _ (.cells #[.int .i64 0, .int .i64 0, .slice none 0 0] 39))).below hb)); (have BB := hidS (bt (ba (bal W (.cells #[.int .i64 R, .int .i64 C, .slice A n c] 39)) (.cells #[.int .i64 0, .int .i64 0, .slice none 0 0] 39)) hb)); (obtain ⟨_, a0, a1, a2, _, _, _⟩ := Va.out); clear hb)
      | (go_at_call 48; (with_reducible refine (clone_c (HS.out.below BB.out) (by omega)).mono ?_); rintro e w2 ⟨v, rfl, ho, hb⟩; (obtain ⟨g, c', rfl, hge, _, _⟩ := own_shape ho (by omega)); (have hcell := ho.cellAt k (by simp; omega)); (have hfz := ho.frozenAt k); (rw [List.getElem?_map, zat_lt (by omega)] at hcell); (have V2 := hidS (V.out.below hb)); (have B2 := hidS (bt BB.out hb)); (have HO := hidS ho); (have hb2 := hidS hb); (have Va2 := Va.out.below hb); (clear a0 a1 a2); (obtain ⟨_, a0, a1, a2, _, _, _⟩ := Va2); (have HPP := hidS (HP.out w2 g hcell hfz)); clear ho hb hcell hfz)
      | (go_at_call 49; go_loud ((with_reducible refine HPP.out.mono ?_); rintro e w3 ⟨rfl, r, m, hr, hw3⟩; (have HR := hidS hr); (have HW3 := hidS hw3); (have V3' : V3 (W.heap.size + 1) (.int .i64 0) (.int .i64 0) (.slice none 0 0) w3 := by rw [hw3]; exact (V2.out.drewN m).other (by show g ≠ _; have := V.out.lt; omega) _); (have Va3 : V3 W.heap.size (.int .i64 R) (.int .i64 C) (.slice A n c) w3 := by rw [hw3]; exact ((Va.out.below hb2.out).drewN m).other (by show g ≠ _; have := V.out.lt; omega) _); (obtain ⟨r0, r1, r2⟩ := V3'.reads); (obtain ⟨_, q0, q1, q2, q3, q4, q5⟩ := V3'); (clear a0 a1 a2); (obtain ⟨_, a0, a1, a2, _, _, _⟩ := Va3); clear hr hw3)))
  all_goals
    refine bodyPost_ret (by simp [results, Try.results20, go_sem, r0, r1, r2]; try rfl) rfl ?_
    have hgs := HO.out.lt g rfl
    have hxl := HS.out.len
    have hst : w3.ownsRow W.heap.size 59 1 (.slice (some ⟨g, 0, none⟩) n c') n ((xs.set k r).map cx) := by
      have h1 := (((own_base HO.out BB.out.size).stored k (cx r)).1)
      rw [HW3.out, List.map_set]
      exact h1
    have hB3 : Below W.heap.size W w3 := by
      rw [HW3.out]
      exact (below_drewN B2.out m).setCell (p := ⟨g, k, none⟩) (by show W.heap.size ≤ g; have := BB.out.size; omega) _
    have hRw : Rw w3 W.heap.size (.slice (some ⟨g, 0, none⟩) n c') n (xs.set k r) := ⟨by rw [List.length_set]; exact hxl, hst⟩
    have hrep := repl_set hox (by omega) HR.out
    rw [hxl] at hrep
    have hne2 : W.heap.size + 1 ≠ g := by have := V.out.lt; omega
    have hB4 := fun x y z => below_set3 (p := W.heap.size + 1) hB3 (by omega) x y z
    first
      | exact ⟨rfl, hB4 _ _ _⟩
      | exact ⟨g, c', rfl, xs.set k r, hrep, rw_set3 hRw hne2 _ _ _, hB4 _ _ _⟩
end yes
end Go.Proofs.Ytdgjnhboaajonaa
