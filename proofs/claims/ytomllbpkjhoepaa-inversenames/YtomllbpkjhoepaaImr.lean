/-
  Inverses of a matrix and its conjugate: what they are, and how far errors are carried; the walk of InverseMirror.
-/
import Derived.Test.YtomllbpkjhoepaaIve
namespace Go.Proofs.Ytomllbpkjhoepaa
open Fl RowKit

theorem eqZ.siz {X Y : Cn} (h : eqZ X Y) : sizZ X = sizZ Y := by unfold sizZ; rw [h.1.siz, h.2.siz]
theorem cj_siz {X X' : Cn} (h : cjZ X X') : sizZ X' = sizZ X := by
  rw [h.1.siz]
  unfold sizZ conZ
  rw [sizA_ng h.2.1.2]
theorem mxF_congr {t u : Nat → Option Nat} {n : Nat} (h : ∀ j, j < n → t j = u j) : mxF t n = mxF u n := by
  induction n with
  | zero => rfl
  | succ n ih =>
    unfold mxF
    rw [ih (fun j hj => h j (by omega)), h n (by omega)]
theorem nrF_siz {f g : Nat → Cn} {n : Nat} (h : ∀ j, j < n → sizZ (f j) = sizZ (g j)) : nrF f n = nrF g n := by
  induction n with
  | zero => rfl
  | succ n ih =>
    show addA (nrF f n) (sizZ (f n)) = addA (nrF g n) (sizZ (g n))
    rw [ih (fun j hj => h j (by omega)), h n (by omega)]
theorem nW_con {n : Nat} {f f' : Nat → Cw} (h : ∀ k, k < n * n → cjZ (anz (f k)) (anz (f' k))) : nW n f' = nW n f :=
  mxF_congr fun _ hj => nrF_siz fun _ hi => cj_siz (h _ (place_lt hi hj))
section two
variable {n : Nat} {S S' : Es} (e : Eok n S) (e' : Eok n S') (h : Cj n S S') (hp : pvOk n (fun i => S'.M i i)) (ho : ∀ i, i < n → S.o i < n)
include e e' h hp ho
theorem in_con (j : Nat) : (∀ k, k < n → cjZ (inX n S.M S.o j k) (inX n S'.M S'.o j k)) ∧ inK n S'.M S'.o j = inK n S.M S.o j := by
  unfold inX inK solX solK
  rw [h.o]
  have hc : ∀ i, i < n → cjZ ((fun i => anz (zat (ro n (uV j)) (S.o i))) i) ((fun i => anz (zat (ro n (uV j)) (S.o i))) i) := fun i hi => by
    show cjZ (anz (zat (ro n (uV j)) (S.o i))) (anz (zat (ro n (uV j)) (S.o i)))
    rw [ro_at _ (ho i hi)]
    unfold uV
    split
    · exact cj_1
    · exact cj_0
  have h1 := fwS_con (fun i j hi hj => cj_l e e' h hi hj) (LCon_fst n _ _) hc n (Nat.le_refl _)
  have h2 := bwS_con (fun i j hi hj => cj_u e e' h hi hj) (LCon_div e e' h hp (fun _ _ => rfl) (fun _ _ => rfl)) h1 n (Nat.le_refl _)
  refine ⟨h2, ?_⟩
  unfold okS
  have q1 := finS_con h1 n (Nat.le_refl _)
  have q2 := finS_con h2 n (Nat.le_refl _)
  unfold frw slS bck frw
  rw [q1, q2]
end two
/-- what Of and Carried hand back, refused or not -/
def InvG (N : Nat) (f : Nat → Cw) (E a : Int) (R L : Nat) (g : Nat → Cw) : Prop := ∀ (W : World) (A : Option Addr) (c : Nat), Sl W A c (ro (N * N) f) → Calls Try.prog 13 #[.agg #[.int .i64 N, .int .i64 N, .slice A (N * N) c]] W fun e w' => ∃ A' c', e = .returned (.tuple #[.agg #[.int .i64 R, .int .i64 R, .slice A' L c'], .agg #[.int .i64 E, .int .i64 a]]) ∧ Rc w' A' (ro L g) ∧ Below W.heap.size W w'
def CarG (N : Nat) (f : Nat → Cw) (X : Nat) (E a : Int) : Prop := ∀ (W : World) (A : Option Addr) (c : Nat), Sl W A c (ro (N * N) f) → Calls Try.prog 15 #[.agg #[.int .i64 N, .int .i64 N, .slice A (N * N) c]] W fun e w' => e = .returned (.tuple #[.float .f64 X, .agg #[.int .i64 E, .int .i64 a]]) ∧ Below W.heap.size W w'
theorem sl_cap {W : World} {A : Option Addr} {c n : Nat} {f : Nat → Cw} (h : Sl W A c (ro n f)) : n ≤ c := by have := h.cap; rw [ro_len] at this; exact this
theorem invG_fails {N : Nat} {f : Nat → Cw} {E a : Int} (h : InvFails N f E a) (g : Nat → Cw) : InvG N f E a 0 0 g := by
  intro W A c hs
  refine (h W A c (sl_cap hs) hs.rd).mono ?_
  rintro e w' ⟨rfl, hb⟩
  exact ⟨none, 0, rfl, Rc.nil _ _, hb⟩
theorem invG_makes {N : Nat} {f g : Nat → Cw} (h : InvMakes N f g) : InvG N f 0 0 N (N * N) g := by
  intro W A c hs
  refine (h W A c (sl_cap hs) hs.rd).mono ?_
  rintro e w' ⟨B, rfl, hr, hb⟩
  exact ⟨_, _, rfl, hr.rc, hb⟩
theorem carG_fails {N : Nat} {f : Nat → Cw} {E a : Int} (hE : ¬ E = 0) (h : InvFails N f E a) : CarG N f 0 E a := fun W A c hs => car_fails hE h W A c (sl_cap hs) hs.rd
theorem carG_makes {N : Nat} {f g : Nat → Cw} (hN : N ≤ 64) (hf : ∀ k, k < N * N → okz (f k)) (hg : ∀ k, k < N * N → okz (g k)) (h : InvMakes N f g) : CarG N f (crX (nW N f) (nW N g)) (crE (nW N f) (nW N g)) (crA (nW N f) (nW N g)) := fun W A c hs => car_makes hN hf hg h W A c hs
theorem crX_nan (a b : Nat) : nan (crX a b) = false := by
  unfold crX
  by_cases h : crK a b = true
  · rw [if_pos h]
    unfold crK at h
    cases e : mulO a b with
    | none => rw [e] at h; cases h
    | some r => rw [e] at h; exact fin_nan h
  · rw [if_neg h]; decide
theorem imir_cases (N : Nat) (f : Nat → Cw) (hN : N ≤ 64) (hf : ∀ k, k < N * N → okz (f k)) :
    ∃ (E a E' a' : Int) (X R L : Nat) (g g' : Nat → Cw), nan X = false ∧ L ≤ 4096 ∧ (∀ k, k < L → okz (g k)) ∧ InvG N f E a R L g ∧ InvG N (fun k => cjw (f k)) E a R L g' ∧ CarG N f X E' a' ∧ CarG N (fun k => cjw (f k)) X E' a' ∧ ∀ k, k < L → eqB (zat (ro L (fun k => cjw (g k))) k).1 (zat (ro L g') k).1 = true ∧ eqB (zat (ro L (fun k => cjw (g k))) k).2 (zat (ro L g') k).2 = true := by
  have hf' : ∀ k, k < N * N → okz ((fun k => cjw (f k)) k) := fun k hk => cjw_ok (hf k hk)
  have fails : ∀ E a, ¬ E = 0 → InvFails N f E a → InvFails N (fun k => cjw (f k)) E a → _ := fun E a h0 h1 h2 =>
    (⟨E, a, E, a, 0, 0, 0, f, f, by decide, by decide, fun k hk => absurd hk (by omega), invG_fails h1 _, invG_fails h2 _, carG_fails h0 h1, carG_fails h0 h2, fun k hk => absurd hk (by omega)⟩ : ∃ (E a E' a' : Int) (X R L : Nat) (g g' : Nat → Cw), nan X = false ∧ L ≤ 4096 ∧ (∀ k, k < L → okz (g k)) ∧ InvG N f E a R L g ∧ InvG N (fun k => cjw (f k)) E a R L g' ∧ CarG N f X E' a' ∧ CarG N (fun k => cjw (f k)) X E' a' ∧ ∀ k, k < L → eqB (zat (ro L (fun k => cjw (g k))) k).1 (zat (ro L g') k).1 = true ∧ eqB (zat (ro L (fun k => cjw (g k))) k).2 (zat (ro L g') k).2 = true)
  rcases mir10_cases N f hN hf with ⟨E, a, h0, h1, h2⟩ | ⟨S, S1, e1, e2, hC, hin, p1, p2, h1, h2⟩
  · exact fails E a h0 (inv_fails h0 h1) (inv_fails h0 h2)
  · have hin2 : inO N S1.o := by rw [hC.o]; exact hin
    have hK : ∀ j, inK N S1.M S1.o j = inK N S.M S.o j := fun j => (in_con e1 e2 hC p2 hin.1 j).2
    have hq : fstN (inK N S1.M S1.o) N = fstN (inK N S.M S.o) N := fstN_congr (fun j _ => hK j)
    rcases Nat.lt_or_ge (fstN (inK N S.M S.o) N) N with h | h
    · refine fails 6 (fstN (inK N S.M S.o) N : Nat) (by decide) (inv_over0 hN h1 e1 hin h) ?_
      rw [← hq]
      exact inv_over0 hN h2 e2 hin2 (by rw [hq]; exact h)
    · have hE : fstN (inK N S.M S.o) N = N := Nat.le_antisymm (fstN_le _ _) h
      have hE2 : fstN (inK N S1.M S1.o) N = N := hq.trans hE
      have M1 : InvMakes N f (ivW N S) := inv_makes0 hN h1 e1 hin hE
      have M2 : InvMakes N (fun k => cjw (f k)) (ivW N S1) := inv_makes0 hN h2 e2 hin2 hE2
      have hcj : ∀ k, k < N * N → cjZ (anz (ivW N S k)) (anz (ivW N S1 k)) := fun k hk => by
        rw [ivW_anz hE hk, ivW_anz hE2 hk]
        exact (in_con e1 e2 hC p2 hin.1 _).1 _ (div_lt' hk).1
      have n1 : nW N (fun k => cjw (f k)) = nW N f := nW_con (fun k hk => ⟨cjw_con (hf k hk), bd_anz (hf k hk), bd_anz (hf' k hk)⟩)
      have n2 : nW N (ivW N S1) = nW N (ivW N S) := nW_con hcj
      have C1 := carG_makes hN hf (fun k hk => ivW_ok hk) M1
      have C2 := carG_makes hN hf' (fun k hk => ivW_ok hk) M2
      rw [n1, n2] at C2
      have hfin : ∀ k, k < N * N → finZ (ivW N S k) = true ∧ finZ (ivW N S1 k) = true := fun k hk => by
        have k2 := (div_lt' hk).2
        have k1 := (div_lt' hk).1
        exact ⟨toW_fin (inK_fin (fstN_iff.1 hE _ k2) k1), toW_fin (inK_fin (fstN_iff.1 hE2 _ k2) k1)⟩
      refine ⟨0, 0, _, _, _, N, N * N, ivW N S, ivW N S1, crX_nan _ _, le_4096 hN hN, fun k hk => ivW_ok hk, invG_makes M1, invG_makes M2, C1, C2, fun k hk => ?_⟩
      rw [ro_at _ hk, ro_at _ hk]
      exact eq_con (ivW_ok hk) (ivW_ok hk) (hfin k hk).1 (hfin k hk).2 (hcj k hk).1

end Go.Proofs.Ytomllbpkjhoepaa
