/-
  The document's Add (18).
-/
import Derived.Test.YtdgjnhboaajonaaStb
import Derived.Deep.RegionHeldLaw
namespace Go.Proofs.Ytdgjnhboaajonaa
open Fl RowKit
set_option linter.unusedVariables false

theorem mb_split {R C : Int} {n : Nat} (h : mb R C n = false) : R < 0 ∨ ¬ R < 0 ∧ 64 < R ∨ ¬ R < 0 ∧ ¬ 64 < R ∧ C < 0 ∨ ¬ R < 0 ∧ ¬ 64 < R ∧ ¬ C < 0 ∧ 64 < C ∨ ¬ R < 0 ∧ ¬ 64 < R ∧ ¬ C < 0 ∧ ¬ 64 < C ∧ (((n : Int) != wrap64 (R * C)) = true) := by
  by_cases h1 : R < 0
  · exact .inl h1
  by_cases h2 : 64 < R
  · exact .inr (.inl ⟨h1, h2⟩)
  by_cases h3 : C < 0
  · exact .inr (.inr (.inl ⟨h1, h2, h3⟩))
  by_cases h4 : 64 < C
  · exact .inr (.inr (.inr (.inl ⟨h1, h2, h3, h4⟩)))
  refine .inr (.inr (.inr (.inr ⟨h1, h2, h3, h4, ?_⟩)))
  have c1 : cnt R = true := decide_eq_true ⟨by omega, by omega⟩
  have c2 : cnt C = true := decide_eq_true ⟨by omega, by omega⟩
  have := mb_val (n := n) c1 c2
  rw [h] at this
  rw [bne, ← this]; rfl
theorem mb_facts {R C : Int} {n : Nat} (h : mb R C n = true) : ¬ R < 0 ∧ ¬ 64 < R ∧ ¬ C < 0 ∧ ¬ 64 < C ∧ (((n : Int) != wrap64 (R * C)) = false) := by
  obtain ⟨a, b, c, d, e⟩ := of_decide_eq_true h
  refine ⟨by omega, by omega, by omega, by omega, ?_⟩
  have c1 : cnt R = true := decide_eq_true ⟨by omega, by omega⟩
  have c2 : cnt C = true := decide_eq_true ⟨by omega, by omega⟩
  have := mb_val (n := n) c1 c2
  rw [h] at this
  rw [bne, ← this]; rfl
section no
variable {R C : Int} {n : Nat} {i j : Int} {y : Cw} {xs : List Cw}
set_option maxHeartbeats 2000000 in
theorem rsadd_no1 (hm : mb R C n = false) : SadNo 21 R C n i j y xs 4 := by
  intro W A c h
  have hq := mb_split hm
  clear hm h
  obtain ⟨wA, hwA, Va, Vr, BB, hs⟩ := v3_box W R C (.slice A n c)
  obtain ⟨r0, r1, r2⟩ := Vr.reads
  obtain ⟨_, q0, q1, q2, q3, q4, q5⟩ := Vr
  obtain ⟨_, a0, a1, a2, _, _, _⟩ := Va
  have HB := hidS BB
  have hwB := hwA.symm
  clear BB hwA
  rcases hq with h1 | ⟨h1, h2⟩ | ⟨h1, h2, h3⟩ | ⟨h1, h2, h3, h4⟩ | ⟨h1, h2, h3, h4, h5⟩
  all_goals
    go_enter Try.func21, Try.ntmps21
    go_wp2_with fail
    refine bodyPost_ret (by simp [results, Try.results21, go_sem, r0, r1, r2]; try rfl) rfl ?_
    exact ⟨rfl, below_set3 HB.out (by omega) _ _ _⟩
set_option maxHeartbeats 2000000 in
theorem rsadd_no2 (hm : mb R C n = true) (hr : ¬ (0 ≤ i ∧ i < R ∧ 0 ≤ j ∧ j < C)) : SadNo 21 R C n i j y xs 2 := by
  intro W A c h
  obtain ⟨m1, m2, m3, m4, m5⟩ := mb_facts hm
  have hq : i < 0 ∨ ¬ i < 0 ∧ R ≤ i ∨ ¬ i < 0 ∧ ¬ R ≤ i ∧ j < 0 ∨ ¬ i < 0 ∧ ¬ R ≤ i ∧ ¬ j < 0 ∧ C ≤ j := by omega
  clear hm h hr
  obtain ⟨wA, hwA, Va, Vr, BB, hs⟩ := v3_box W R C (.slice A n c)
  obtain ⟨r0, r1, r2⟩ := Vr.reads
  obtain ⟨_, q0, q1, q2, q3, q4, q5⟩ := Vr
  obtain ⟨_, a0, a1, a2, _, _, _⟩ := Va
  have HB := hidS BB
  have hwB := hwA.symm
  clear BB hwA
  rcases hq with h1 | ⟨h1, h2⟩ | ⟨h1, h2, h3⟩ | ⟨h1, h2, h3, h4⟩
  all_goals
    go_enter Try.func21, Try.ntmps21
    go_wp2_with fail
    refine bodyPost_ret (by simp [results, Try.results21, go_sem, r0, r1, r2]; try rfl) rfl ?_
    exact ⟨rfl, below_set3 HB.out (by omega) _ _ _⟩
end no
section yes
variable {R C i j : Nat} {y : Cw} {xs : List Cw} (hR : R ≤ 64) (hC : C ≤ 64) (hi : i < R) (hj : j < C) (hy : okz y)
include hR hC hi hj hy
set_option maxHeartbeats 2000000 in
theorem rsadd_body (f : Bool) (hf : finC (addZ (anz (zat xs (i * C + j))) (anz y)) = f) {W : World} {A : Option Addr} {c : Nat} (h : Src W A c (R * C) xs) : Calls Try.prog 21 #[.agg #[.int .i64 R, .int .i64 C, .slice A (R * C) c], .int .i64 i, .int .i64 j, .complex .f64 y.1 y.2] W fun e w' => if f = true then (∃ g c', e = .returned (.tuple #[.agg #[.int .i64 R, .int .i64 C, .slice (some ⟨g, 0, none⟩) (R * C) c'], .int .i64 0]) ∧ ∃ zs, Hid (repl (sadF (i * C + j) xs y) (R * C) zs) ∧ Rw w' W.heap.size (.slice (some ⟨g, 0, none⟩) (R * C) c') (R * C) zs ∧ Below W.heap.size W w') else (e = .returned (.tuple #[.agg #[.int .i64 0, .int .i64 0, .slice none 0 0], .int .i64 6]) ∧ Below W.heap.size W w') := by
  obtain ⟨i0, hi0, hz0, hz1, hz2⟩ := info_parts Try.infoC
  have hk := place_lt hi hj
  have h4 := le_4096 hR hC
  have hmb : mb (R : Int) (C : Int) (R * C) = true := mb_of hR hC rfl
  obtain ⟨m1, m2, m3, m4, m5⟩ := mb_facts hmb
  have hmi := wrap_mul (i := i) (C := C) (by omega) (by omega)
  have hi2 : ¬ (i : Int) < 0 := by omega
  have hi3 : ¬ (R : Int) ≤ (i : Int) := by omega
  have hj2 : ¬ (j : Int) < 0 := by omega
  have hj3 : ¬ (C : Int) ≤ (j : Int) := by omega
  obtain ⟨k0, hk0⟩ : ∃ k0, i * C = k0 := ⟨_, rfl⟩
  obtain ⟨n, hne⟩ : ∃ n, R * C = n := ⟨_, rfl⟩
  rw [hk0] at hk hmi hf ⊢
  rw [hne] at hk h4 h m5 ⊢
  have hwk : wrap64 ((k0 : Int) + (j : Int)) = ((k0 + j : Nat) : Int) := by rw [← Int.natCast_add]; exact wrap_small (by omega) (by omega)
  obtain ⟨k, hke⟩ : ∃ k, k0 + j = k := ⟨_, rfl⟩
  rw [hke] at hk hf hwk ⊢
  have hln := h.len
  have hox := h.ok
  obtain ⟨g0, off0, rfl⟩ : ∃ g off, A = some ⟨g, off, none⟩ := h.sl.shape.resolve_left (by rintro ⟨_, q⟩; omega)
  have HS := hidS h
  have hok := hox k
  obtain ⟨x, hx⟩ : ∃ x, zat xs k = x := ⟨_, rfl⟩
  rw [hx] at hf hok
  have HFF := hidS hf
  have HADD := hidS (fun (W' : World) => radd_any W' (rep_ans hok.1) (rep_ans hok.2) (rep_ans hy.1) (rep_ans hy.2))
  have HX := hidS hx
  have HOX := hidS hox
  clear h hf hmb hne hke hk0 hok hx hox
  obtain ⟨wA, hwA, Va, Vr, BB, hs⟩ := v3_box W R C (.slice (some ⟨g0, off0, none⟩) n c)
  obtain ⟨r0, r1, r2⟩ := Vr.reads
  have VR := hidS Vr
  have VA := hidS Va
  obtain ⟨_, q0, q1, q2, q3, q4, q5⟩ := Vr
  obtain ⟨_, a0, a1, a2, _, _, _⟩ := Va
  have HB := hidS BB
  have hwB := hwA.symm
  clear BB hwA
  obtain ⟨ns, hns⟩ : ∃ ns, ns = xs.map cx := ⟨_, rfl⟩
  have HNS := hidS hns
  have hnl : ns.length = n := by rw [hns, List.length_map]; exact hln
  have HCC := hidS (show ∀ (j : Nat) (u : Value), ns[j]? = some u → wA.cell? ⟨g0, off0 + j, none⟩ = some u from fun j u hj => by
    rw [hns, List.getElem?_map] at hj
    have hl : j < xs.length := by
      rcases Nat.lt_or_ge j xs.length with h | h
      · exact h
      · rw [List.getElem?_eq_none h] at hj; simp at hj
    obtain ⟨b, o, h1, _, h3⟩ := (HS.out.below HB.out).sl.rd j hl
    simp only [Option.some.injEq, Addr.mk.injEq, and_true] at h1
    obtain ⟨rfl, rfl⟩ := h1
    rw [h3]
    rw [zat_lt hl] at hj
    exact hj)
  have HC1 := hidS (show ∀ u ∈ ns, u.oneCell' = true from fun u hu => by rw [hns, List.mem_map] at hu; obtain ⟨n, _, rfl⟩ := hu; rfl)
  clear hns
  cases f
  all_goals
    go_enter Try.func21, Try.ntmps21
    go_wp2_with (at_builtin; refine wpList_append_own _ rfl _ _ 37 rfl wA.heap.size 59 i0 (.complex .f64 0 0) 1 16 Try.underlying37 hi0 hz0 hz1 hz2 rfl (by decide) _ 0 [] rfl (World.ownsRow_nil _ _ _ _) ⟨g0, off0, none⟩ n c ns rfl (by rw [hnl, Nat.mul_one]) ?c1 ?c2 ?c3 ?c4 ?c5 ?_)
    case c1 => intro j u hj; simpa [Addr.add] using HCC.out j u hj
    case c2 => exact HC1.out
    case c3 => unfold maxLen; omega
    case c4 => omega
    intro v' w1 hown' hgrow _
    have hown : w1.ownsRow wA.heap.size 59 1 v' n (xs.map cx) := by rw [← HNS.out, hs]; simpa using hown'
    obtain ⟨g, c', rfl, hge, _, _⟩ := own_shape hown (by omega)
    have B1 := hidS (show Below wA.heap.size wA w1 from (Below.refl _ wA).grown hgrow (Nat.le_refl _) (by intro k hk; simp [Value.ownBlock] at hk))
    have hcell := hown.cellAt k (by simp; omega)
    have hfz := hown.frozenAt k
    rw [List.getElem?_map, zat_lt (by omega), HX.out] at hcell
    have hcell2 : w1.cell? ⟨g, k, none⟩ = some (.complex .f64 x.1 x.2) := hcell
    have HO := hidS hown
    have VA1 := hidS (VA.out.below B1.out)
    have VR1 := hidS (VR.out.below B1.out)
    have hgA : W.heap.size + 1 < g := by omega
    clear a0 a1 a2 q0 q1 q2 q3 q4 q5 r0 r1 r2 hcell hown hown' hgrow m1 m2 m3 m4 m5 hi2 hi3 hj2 hj3 hR hC hi hj hln hnl hwB hs hi0 hz0 hz1 hz2 hge
    obtain ⟨_, a0, a1, a2, _, _, _⟩ := VA1.out
    go_wp2_with (first
      | (go_at_call 51; (with_reducible refine (HADD.out _).mono ?_); rintro e w2 ⟨re, im, m, rfl, hre, him, hw2⟩; subst w2; (have HRZ := hidS (show repz (addZ (anz x) (anz y)) (re, im) from ⟨hre, him⟩)); (have hrd : ((w1.drewN m).setCell ⟨g, k, none⟩ (.complex .f64 re im)).cell? ⟨g, k, none⟩ = some (.complex .f64 re im) := World.cell?_setCell_same _ _ _ (show (w1.drewN m).cell? ⟨g, k, none⟩ = some _ from hcell2)); (have VR2 := hidS ((VR1.out.drewN m).other (q := ⟨g, k, none⟩) (by show g ≠ _; omega) (.complex .f64 re im))); (have VA2 := hidS ((VA1.out.drewN m).other (q := ⟨g, k, none⟩) (by show g ≠ _; omega) (.complex .f64 re im))); (obtain ⟨_, b0, b1, b2, _, _, _⟩ := VA2.out); (obtain ⟨r0, r1, r2⟩ := VR2.out.reads); (obtain ⟨_, q0, q1, q2, q3, q4, q5⟩ := VR2.out); clear hre him)
      | (go_at_call 52; (with_reducible refine (rfin_any re im _).mono ?_); rintro e w3 ⟨m2, rfl, hw3⟩; subst w3; (have hff := finZ_of HRZ.out); (rw [HFF.out] at hff); (unfold finZ at hff); rw [hff]; (clear r0 r1 r2); (obtain ⟨r0, r1, r2⟩ := (VR2.out.drewN m2).reads)))
    refine bodyPost_ret (by simp [results, Try.results21, go_sem, r0, r1, r2]; try rfl) rfl ?_
    have hxl := HS.out.len
    have hB1 : Below W.heap.size W w1 := bt HB.out B1.out
    have hB2 : Below W.heap.size W ((w1.drewN m).setCell ⟨g, k, none⟩ (.complex .f64 re im)) := (below_drewN hB1 m).setCell (p := ⟨g, k, none⟩) (by show W.heap.size ≤ g; omega) _
    have hrow : ((w1.drewN m).setCell ⟨g, k, none⟩ (.complex .f64 re im)).ownsRow W.heap.size 59 1 (.slice (some ⟨g, 0, none⟩) n c') n ((xs.set k (re, im)).map cx) := by
      rw [List.map_set]
      exact ((own_base HO.out HB.out.size).stored k (cx (re, im))).1
    have hRw : Rw ((w1.drewN m).setCell ⟨g, k, none⟩ (.complex .f64 re im)) W.heap.size (.slice (some ⟨g, 0, none⟩) n c') n (xs.set k (re, im)) := ⟨by rw [List.length_set]; exact hxl, hrow⟩
    have hrep := repl_set (k := k) (r := (re, im)) HOX.out (by omega) (by rw [HX.out]; exact HRZ.out)
    rw [hxl] at hrep
    have hne2 : W.heap.size + 1 ≠ g := by omega
    have hB3 := below_drewN hB2 m2
    have hRw3 := hRw.drewN m2
    have hB4 := fun x y z => below_set3 (p := W.heap.size + 1) hB3 (by omega) x y z
    first
      | exact ⟨rfl, hB4 _ _ _⟩
      | exact ⟨g, c', rfl, xs.set k (re, im), hrep, rw_set3 hRw3 hne2 _ _ _, hB4 _ _ _⟩
end yes
end Go.Proofs.Ytdgjnhboaajonaa
