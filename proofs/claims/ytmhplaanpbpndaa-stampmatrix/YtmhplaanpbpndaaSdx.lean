/-
  The document's sheet: an entry taken from, and the places of the ground.
-/
import Derived.Test.YtmhplaanpbpndaaSdw
namespace Go.Proofs.Ytmhplaanpbpndaa
open Fl Go.Maps RowKit Joins Deep
set_option linter.unusedVariables false
set_option maxRecDepth 20000
set_option maxHeartbeats 4000000 in
theorem dsh_put_sub {w : World} {base s : Nat} {v : Value} {m : Nat} {S : Sh} (h : Dh w base s v m S) {i j : Nat} (hi : i < m) (hj : j < m) {y : Cw} (hy : okz y) :
    Calls Try.prog 63 #[.pointer (some ⟨s, 0, none⟩), .int .i64 (i : Int), .int .i64 (j : Int), .complex .f64 y.1 y.2] w fun e w' => e = .returned (.tuple #[]) ∧ Dh w' base s v m (S.put subZ i j (anz y)) ∧ Kd base s v w w' := by
  have hk := mx_lt hi hj
  obtain ⟨g, c, x, rfl, hg, hcx, hcz, hxr⟩ := h.row.get hk
  rw [mx_at hi hj] at hxr
  have hmm : m * m ≤ 64 * 64 := Nat.mul_le_mul h.m9 h.m9
  have him : i * m ≤ 64 * 64 := Nat.le_trans (Nat.mul_le_mul (Nat.le_of_lt hi) (Nat.le_refl m)) hmm
  obtain ⟨k, hkk⟩ : ∃ k, i * m + j = k := ⟨_, rfl⟩
  obtain ⟨M, hM⟩ : ∃ M, m * m = M := ⟨_, rfl⟩
  have hki : (i : Int) * (m : Int) + (j : Int) = (k : Int) := by rw [← hkk]; push_cast; rfl
  have HK := hidS (And.intro hkk hM)
  rw [hkk] at hk hcx hcz
  rw [hM] at hk hmm
  have hkM : (k : Int) < (M : Int) := by omega
  have c0 := h.c0
  have c1 := h.c1
  have c2 := h.c2
  have cf := h.fz
  rw [hM] at c1
  unfold cx at hcx
  have hgs : g ≠ s := fun e => h.ne (by rw [e]; rfl)
  have HH := hidS h
  have HX := hidS hxr
  have HF := hidS (fun W => op2_rsub W x y hxr.ok hy)
  have hi0 : ¬ ((i : Int) < 0) := by omega
  have hj0 : ¬ ((j : Int) < 0) := by omega
  have him2 : (i : Int) * (m : Int) ≤ 4096 := by exact_mod_cast him
  clear h hxr hkk hM
  go_enter Try.func63, Try.ntmps63
  go_wp2_with fail
  refine wp_region_held_drew (S := (fun W : World => W.cell? ⟨s, 1, none⟩ = some (.slice (some ⟨g, 0, none⟩) M c))) (by kernel_rfl) c1 (fun hHeld => ?_)
  refine wpAnyH_take (i := 0) (v := ?qv0a) (by (simp only [List.getElem?_toArray, List.getElem?_cons_zero]; rfl)) (by kernel_rfl) (by kernel_rfl) (by kernel_rfl) ?qQ0a (Or.inl ⟨by rfl, ?qh0a⟩) hHeld ?qr0a
  case qQ0a => exact fun _ _ _ h => h
  case qh0a => (intro w hSw; (try dsimp only at hSw); go_simp; try with_reducible rfl)
  try simp only [Act.put, List.setIfInBounds_toArray, List.set_cons_zero, List.set_cons_succ]
  refine wpAnyH_take (i := 1) (v := ?qv1a) (by (simp only [List.getElem?_toArray, List.getElem?_cons_zero, List.getElem?_cons_succ]; rfl)) (by kernel_rfl) (by kernel_rfl) (by kernel_rfl) ?qQ1a (Or.inl ⟨by rfl, ?qh1a⟩) hHeld ?qr1a
  case qQ1a => exact fun _ _ _ h => h
  case qh1a => (intro w hSw; (try dsimp only at hSw); go_simp; try with_reducible rfl)
  try simp only [Act.put, List.setIfInBounds_toArray, List.set_cons_zero, List.set_cons_succ]
  refine wpAnyH_take (i := 2) (v := ?qv2a) (by (simp only [List.getElem?_toArray, List.getElem?_cons_zero, List.getElem?_cons_succ]; rfl)) (by kernel_rfl) (by kernel_rfl) (by kernel_rfl) ?qQ2a (Or.inl ⟨by rfl, ?qh2a⟩) hHeld ?qr2a
  case qQ2a => exact fun _ _ _ h => h
  case qh2a => (intro w hSw; (try dsimp only at hSw); go_simp; try with_reducible rfl)
  try simp only [Act.put, List.setIfInBounds_toArray, List.set_cons_zero, List.set_cons_succ]
  refine wpAnyH_take (i := 3) (v := ?qv3a) (by (simp only [List.getElem?_toArray, List.getElem?_cons_zero, List.getElem?_cons_succ]; rfl)) (by kernel_rfl) (by kernel_rfl) (by kernel_rfl) ?qQ3a (Or.inl ⟨by rfl, ?qh3a⟩) hHeld ?qr3a
  case qQ3a => exact fun _ _ _ h => h
  case qh3a => (intro w hSw; (try dsimp only at hSw); go_simp; try with_reducible rfl)
  try simp only [Act.put, List.setIfInBounds_toArray, List.set_cons_zero, List.set_cons_succ]
  refine wpAnyH_take (i := 4) (v := ?qv4a) (by (simp only [List.getElem?_toArray, List.getElem?_cons_zero, List.getElem?_cons_succ]; rfl)) (by kernel_rfl) (by kernel_rfl) (by kernel_rfl) ?qQ4a (Or.inl ⟨by rfl, ?qh4a⟩) hHeld ?qr4a
  case qQ4a => exact fun _ _ _ h => h
  case qh4a => (intro w hSw; (try dsimp only at hSw); go_simp; try with_reducible rfl)
  try simp only [Act.put, List.setIfInBounds_toArray, List.set_cons_zero, List.set_cons_succ]
  refine wpAnyH_take (i := 5) (v := ?qv5a) (by (simp only [List.getElem?_toArray, List.getElem?_cons_zero, List.getElem?_cons_succ]; rfl)) (by kernel_rfl) (by kernel_rfl) (by kernel_rfl) ?qQ5a (Or.inl ⟨by rfl, ?qh5a⟩) hHeld ?qr5a
  case qQ5a => exact fun _ _ _ h => h
  case qh5a => (intro w hSw; (try dsimp only at hSw); go_simp; try with_reducible rfl)
  try simp only [Act.put, List.setIfInBounds_toArray, List.set_cons_zero, List.set_cons_succ]
  refine wpAnyH_take (i := 6) (v := ?qv6a) (by (simp only [List.getElem?_toArray, List.getElem?_cons_zero, List.getElem?_cons_succ]; rfl)) (by kernel_rfl) (by kernel_rfl) (by kernel_rfl) ?qQ6a (Or.inl ⟨by rfl, ?qh6a⟩) hHeld ?qr6a
  case qQ6a => exact fun _ _ _ h => h
  case qh6a => (intro w hSw; (try dsimp only at hSw); go_simp; try with_reducible rfl)
  try simp only [Act.put, List.setIfInBounds_toArray, List.set_cons_zero, List.set_cons_succ]
  refine wpAnyH_take (i := 7) (v := ?qv7a) (by (simp only [List.getElem?_toArray, List.getElem?_cons_zero, List.getElem?_cons_succ]; rfl)) (by kernel_rfl) (by kernel_rfl) (by kernel_rfl) ?qQ7a (Or.inl ⟨by rfl, ?qh7a⟩) hHeld ?qr7a
  case qQ7a => exact fun _ _ _ h => h
  case qh7a => (intro w hSw; (try dsimp only at hSw); go_simp; try with_reducible rfl)
  try simp only [Act.put, List.setIfInBounds_toArray, List.set_cons_zero, List.set_cons_succ]
  refine wpAnyH_take (i := 8) (v := ?qv8a) (by (simp only [List.getElem?_toArray, List.getElem?_cons_zero, List.getElem?_cons_succ]; rfl)) (by kernel_rfl) (by kernel_rfl) (by kernel_rfl) ?qQ8a (Or.inl ⟨by rfl, ?qh8a⟩) hHeld ?qr8a
  case qQ8a => exact fun _ _ _ h => h
  case qh8a => (intro w hSw; (try dsimp only at hSw); go_simp; try with_reducible rfl)
  try simp only [Act.put, List.setIfInBounds_toArray, List.set_cons_zero, List.set_cons_succ]
  refine wpAnyH_take (i := 9) (v := ?qv9a) (by (simp only [List.getElem?_toArray, List.getElem?_cons_zero, List.getElem?_cons_succ]; rfl)) (by kernel_rfl) (by kernel_rfl) (by kernel_rfl) ?qQ9a (Or.inl ⟨by rfl, ?qh9a⟩) hHeld ?qr9a
  case qQ9a => exact fun _ _ _ h => h
  case qh9a => (intro w hSw; (try dsimp only at hSw); go_simp; try with_reducible rfl)
  try simp only [Act.put, List.setIfInBounds_toArray, List.set_cons_zero, List.set_cons_succ]
  refine wpAnyH_take (i := 10) (v := ?qv10a) (by (simp only [List.getElem?_toArray, List.getElem?_cons_zero, List.getElem?_cons_succ]; rfl)) (by kernel_rfl) (by kernel_rfl) (by kernel_rfl) ?qQ10a (Or.inl ⟨by rfl, ?qh10a⟩) hHeld ?qr10a
  case qQ10a => exact fun _ _ _ h => h
  case qh10a => (intro w hSw; (try dsimp only at hSw); go_simp; try with_reducible rfl)
  try simp only [Act.put, List.setIfInBounds_toArray, List.set_cons_zero, List.set_cons_succ]
  refine wpAnyH_take (i := 12) (v := ?qv12a) (by (simp only [List.getElem?_toArray, List.getElem?_cons_zero, List.getElem?_cons_succ]; rfl)) (by kernel_rfl) (by kernel_rfl) (by kernel_rfl) ?qQ12a (Or.inl ⟨by rfl, ?qh12a⟩) hHeld ?qr12a
  case qQ12a => exact fun _ _ _ h => h
  case qh12a => (intro w hSw; (try dsimp only at hSw); go_simp; try with_reducible rfl)
  try simp only [Act.put, List.setIfInBounds_toArray, List.set_cons_zero, List.set_cons_succ]
  refine wpAnyH_ready (rs := [11]) (by kernel_rfl) (by simp) ?_
  refine AllReadyH.cons rfl (fun K hK => ?_) AllReadyH.nil
  go_simp
  refine hK.out _ _ (by exact c1) (fun hHeld => ?_)
  clear hK K
  try simp only [Act.put, List.setIfInBounds_toArray, List.set_cons_zero, List.set_cons_succ]
  refine wpAnyH_ready (rs := [13]) (by kernel_rfl) (by simp) ?_
  refine AllReadyH.cons rfl (fun K hK => ?_) AllReadyH.nil
  go_simp
  go_wp2_with (first
    | ((refine (HF.out _).mono ?_); rintro e w1 ⟨r, mq, rfl, hr, rfl⟩; rw [HX.out.anz] at hr; (have HR := hidS hr); (obtain ⟨o1q, o2q⟩ := hr.ok); clear hr))
  refine hK.out _ _ (by exact c1) (fun hHeld => ?_)
  clear hK K
  try simp only [Act.put, List.setIfInBounds_toArray, List.set_cons_zero, List.set_cons_succ]
  refine wpAnyH_take (i := 14) (v := ?qv14a) (by (simp only [List.getElem?_toArray, List.getElem?_cons_zero, List.getElem?_cons_succ]; rfl)) (by kernel_rfl) (by kernel_rfl) (by kernel_rfl) ?qQ14a (Or.inl ⟨by rfl, ?qh14a⟩) hHeld ?qr14a
  case qQ14a => exact fun _ _ _ h => h
  case qh14a => (intro w hSw; (try dsimp only at hSw); go_simp; try with_reducible rfl)
  try simp only [Act.put, List.setIfInBounds_toArray, List.set_cons_zero, List.set_cons_succ]
  refine wpAnyH_ready (rs := [15]) (by kernel_rfl) (by simp) ?_
  refine AllReadyH.cons rfl (fun K hK => ?_) AllReadyH.nil
  go_simp
  refine hK.out _ _ ((World.cell?_setCell_other _ _ _ _ (fun e => hgs (by simpa using congrArg Addr.block e))).trans c1) (fun hHeld => ?_)
  clear hK K
  try simp only [Act.put, List.setIfInBounds_toArray, List.set_cons_zero, List.set_cons_succ]
  refine wpAnyH_done (by kernel_rfl) ?_ _
  clear hHeld
  have HR2 := hidS HR.out
  have c2b : ((w.drewN (1 + mq)).setCell ⟨g, k, none⟩ (.complex .f64 r.1 r.2)).cell? ⟨s, 2, none⟩ = some (.bool S.ov) := (World.cell?_setCell_other _ _ _ _ (fun e => hgs (by simpa using congrArg Addr.block e))).trans c2
  have c1b : ((w.drewN (1 + mq)).setCell ⟨g, k, none⟩ (.complex .f64 r.1 r.2)).cell? ⟨s, 1, none⟩ = some (.slice (some ⟨g, 0, none⟩) M c) := (World.cell?_setCell_other _ _ _ _ (fun e => hgs (by simpa using congrArg Addr.block e))).trans c1
  have ckb : ((w.drewN (1 + mq)).setCell ⟨g, k, none⟩ (.complex .f64 r.1 r.2)).cell? ⟨g, k, none⟩ = some (.complex .f64 r.1 r.2) := World.cell?_setCell_same _ _ _ (show (w.drewN (1 + mq)).cell? _ = some _ from hcx)
  have cfb : ((w.drewN (1 + mq)).setCell ⟨g, k, none⟩ (.complex .f64 r.1 r.2)).frozen? ⟨s, 2, none⟩ = false := by rw [World.frozen?_setCell]; exact cf
  have HD := hidS (fun q f hf => by
    have := dh_done (op := subZ) (Y := anz y) HH.out hi hj HK.out.1 HR.out hg (1 + mq) q f hf
    unfold cx at this
    exact this)
  clear c0 c1 c2 cf hcx hcz
  obtain ⟨W1, hW1⟩ : ∃ W1, (w.drewN (1 + mq)).setCell ⟨g, k, none⟩ (.complex .f64 r.1 r.2) = W1 := ⟨_, rfl⟩
  rw [hW1] at HD c2b c1b ckb cfb ⊢
  clear hW1
  have HFI : Hid (∀ W, Calls Try.prog 84 #[.complex .f64 r.1 r.2] W fun e w' => ∃ n, e = .returned (.bool (finC (subZ (S.m i j) (anz y)))) ∧ w' = W.drewN n) := fun W => by
    have h1 := rfin_any (a := r.1) (b := r.2) (w := W)
    rw [show (finB r.1 && finB r.2) = finC (subZ (S.m i j) (anz y)) from finZ_of HR.out] at h1
    exact h1
  obtain ⟨f, hf⟩ : ∃ f, finC (subZ (S.m i j) (anz y)) = f := ⟨_, rfl⟩
  have HFF := hidS hf
  rw [hf] at HFI
  obtain ⟨ov, hov⟩ : ∃ ov, S.ov = ov := ⟨_, rfl⟩
  have HOV := hidS hov
  rw [hov] at c2b
  clear hf hov
  cases ov
  · go_wp2_with (go_at_call 84; (refine (HFI.out _).mono ?_); rintro e w9 ⟨n9, rfl, rfl⟩)
    refine bodyPost_end (by simp [results, Try.results63, go_sem]; try rfl) rfl ?_
    have hd := HD.out n9 (!f) (by rw [HOV.out, HFF.out]; rfl)
    exact ⟨rfl, hd.1, hd.2⟩
  · go_wp2_with fail
    refine bodyPost_end (by simp [results, Try.results63, go_sem]; try rfl) rfl ?_
    have hd := HD.out 0 true (by rw [HOV.out]; rfl)
    exact ⟨rfl, hd.1, hd.2⟩

set_option maxHeartbeats 1000000 in
/-- a change at the ground changes nothing -/
theorem dsh_ground_add {w : World} {s : Nat} {i j : Int} (hij : i < 0 ∨ j < 0) {y : Cw} :
    Calls Try.prog 62 #[.pointer (some ⟨s, 0, none⟩), .int .i64 i, .int .i64 j, .complex .f64 y.1 y.2] w fun e w' => e = .returned (.tuple #[]) ∧ w' = w := by
  go_enter Try.func62, Try.ntmps62
  by_cases hi : i < 0
  · go_wp2_with fail
    exact bodyPost_ret (by simp [results, Try.results62, go_sem]; try rfl) rfl ⟨rfl, rfl⟩
  · have hj : j < 0 := hij.resolve_left hi
    go_wp2_with fail
    exact bodyPost_ret (by simp [results, Try.results62, go_sem]; try rfl) rfl ⟨rfl, rfl⟩

set_option maxHeartbeats 1000000 in
/-- a change at the ground changes nothing -/
theorem dsh_ground_sub {w : World} {s : Nat} {i j : Int} (hij : i < 0 ∨ j < 0) {y : Cw} :
    Calls Try.prog 63 #[.pointer (some ⟨s, 0, none⟩), .int .i64 i, .int .i64 j, .complex .f64 y.1 y.2] w fun e w' => e = .returned (.tuple #[]) ∧ w' = w := by
  go_enter Try.func63, Try.ntmps63
  by_cases hi : i < 0
  · go_wp2_with fail
    exact bodyPost_ret (by simp [results, Try.results63, go_sem]; try rfl) rfl ⟨rfl, rfl⟩
  · have hj : j < 0 := hij.resolve_left hi
    go_wp2_with fail
    exact bodyPost_ret (by simp [results, Try.results63, go_sem]; try rfl) rfl ⟨rfl, rfl⟩
end Go.Proofs.Ytmhplaanpbpndaa
