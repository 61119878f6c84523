/-
  The document's sheet in memory, and how an entry of it is changed.
-/
import Derived.Test.YtmhplaanpbpndaaSty
import Derived.Test.YtmhplaanpbpndaaSds
import Derived.Deep.RegionHeldLaw
namespace Go.Proofs.Ytmhplaanpbpndaa
open Fl Go.Maps RowKit Joins Deep
set_option linter.unusedVariables false
set_option maxRecDepth 20000

/-- the document's sheet at block s -/
structure Dh (w : World) (base s : Nat) (v : Value) (m : Nat) (S : Sh) : Prop where
  c0 : w.cell? ⟨s, 0, none⟩ = some (.int .i64 m)
  c1 : w.cell? ⟨s, 1, none⟩ = some v
  c2 : w.cell? ⟨s, 2, none⟩ = some (.bool S.ov)
  fz : w.frozen? ⟨s, 2, none⟩ = false
  row : Nr w base v (m * m) (mxR m S)
  ne : v.ownBlock ≠ some s
  lo : base ≤ s
  m9 : m ≤ 64
/-- nothing that was there is touched but the sheet and its row -/
structure Kd (base s : Nat) (v : Value) (w w' : World) : Prop where
  bel : Below base w w'
  ot : ∀ q, q < w.heap.size → q ≠ s → v.ownBlock ≠ some q → w'.heap[q]? = w.heap[q]?
theorem mx_at {m i j : Nat} (hi : i < m) (hj : j < m) (S : Sh) : mxR m S (i * m + j) = S.m i j := by
  unfold mxR
  have hm0 : 0 < m := by omega
  rw [show (i * m + j) / m = i by rw [Nat.add_comm, Nat.add_mul_div_right _ _ hm0, Nat.div_eq_of_lt hj, Nat.zero_add], show (i * m + j) % m = j by rw [Nat.add_comm, Nat.add_mul_mod_self_right, Nat.mod_eq_of_lt hj]]
theorem mx_lt {m i j : Nat} (hi : i < m) (hj : j < m) : i * m + j < m * m := by
  have h1 : (i + 1) * m ≤ m * m := Nat.mul_le_mul_right m hi
  rw [Nat.succ_mul] at h1
  omega
theorem mx_put {m i j : Nat} (hi : i < m) (hj : j < m) (S : Sh) (op : Cn → Cn → Cn) (Y : Cn) {k : Nat} (hk : k < m * m) : mxR m (S.put op i j Y) k = rput op ((i * m + j : Nat) : Int) Y (mxR m S) k := by
  by_cases e : k = i * m + j
  · subst e
    rw [mx_at hi hj, rput_same rfl, mx_at hi hj]
    simp [Sh.put]
  · rw [rput_other (by omega)]
    unfold mxR Sh.put
    have hne : ¬ (k / m = i ∧ k % m = j) := fun q => e (by
      have := Nat.div_add_mod k m
      rw [q.1, q.2, Nat.mul_comm] at this
      omega)
    show (if k / m = i ∧ k % m = j then op (S.m i j) Y else S.m (k / m) (k % m)) = _
    rw [if_neg hne]
theorem Nr.congr {w : World} {base n : Nat} {v : Value} {R R' : Nat → Cn} (h : Nr w base v n R) (e : ∀ k, k < n → R k = R' k) : Nr w base v n R' := by
  obtain ⟨xs, h1, h2⟩ := h
  exact ⟨xs, h1, fun j hj => by rw [← e j hj]; exact h2 j hj⟩
/-- an entry changed, and what is known of it -/
theorem dh_done {w : World} {base s g c m i j k : Nat} {S : Sh} {op : Cn → Cn → Cn} {Y : Cn} {r : Cw} (h : Dh w base s (.slice (some ⟨g, 0, none⟩) (m * m) c) m S) (hi : i < m) (hj : j < m) (hk : i * m + j = k) (hr : repz (op (S.m i j) Y) r) (hg : base ≤ g) (n q : Nat) (f : Bool) (hf : (S.ov || !finC (op (S.m i j) Y)) = f) :
    Dh ((((w.drewN n).setCell ⟨g, k, none⟩ (cx r)).drewN q).setCell ⟨s, 2, none⟩ (.bool f)) base s (.slice (some ⟨g, 0, none⟩) (m * m) c) m (S.put op i j Y) ∧ Kd base s (.slice (some ⟨g, 0, none⟩) (m * m) c) w ((((w.drewN n).setCell ⟨g, k, none⟩ (cx r)).drewN q).setCell ⟨s, 2, none⟩ (.bool f)) := by
  have hgs : g ≠ s := fun e => h.ne (by rw [e]; rfl)
  have hkM : k < m * m := by rw [← hk]; exact mx_lt hi hj
  have ot : ∀ (j2 : Nat) (u : Value), w.cell? ⟨s, j2, none⟩ = some u → (((w.drewN n).setCell ⟨g, k, none⟩ (cx r)).drewN q).cell? ⟨s, j2, none⟩ = some u := fun j2 u hc => (World.cell?_setCell_other _ _ _ _ (fun e => hgs (by simpa using congrArg Addr.block e))).trans hc
  have hrow : Nr ((w.drewN n).setCell ⟨g, k, none⟩ (cx r)) base (.slice (some ⟨g, 0, none⟩) (m * m) c) (m * m) (rput op (k : Int) Y (mxR m S)) := (h.row.on (below_dN (Below.refl _ _) n)).put (op := op) (i := k) (Y := Y) hkM (by rw [← hk, mx_at hi hj]; exact hr)
  have hrow2 := (hrow.on (below_dN (Below.refl _ _) q)).congr (R' := mxR m (S.put op i j Y)) (fun k2 hk2 => by rw [mx_put hi hj S op Y hk2, hk])
  refine ⟨⟨?_, ?_, ?_, ?_, ?_, h.ne, h.lo, h.m9⟩, ⟨?_, fun b h1 h2 h3 => ?_⟩⟩
  · exact (World.cell?_setCell_other _ _ _ _ (fun e => by simpa using congrArg Addr.off e)).trans (ot 0 _ h.c0)
  · exact (World.cell?_setCell_other _ _ _ _ (fun e => by simpa using congrArg Addr.off e)).trans (ot 1 _ h.c1)
  · rw [World.cell?_setCell_same _ _ _ (ot 2 _ h.c2)]
    show some (Value.bool f) = some (Value.bool (S.ov || !finC (op (S.m i j) Y)))
    rw [hf]
  · rw [World.frozen?_setCell]
    show ((w.drewN n).setCell ⟨g, k, none⟩ (cx r)).frozen? ⟨s, 2, none⟩ = false
    rw [World.frozen?_setCell]
    exact h.fz
  · obtain ⟨xs, k1, k2⟩ := hrow2
    exact ⟨xs, ⟨k1.len, row_block k1.own (fun b hb => Below.heap_setCell _ ⟨s, 2, none⟩ _ b (fun e => by
      have : g = b := by simpa [Value.ownBlock] using hb
      exact hgs (this.trans e)))⟩, k2⟩
  · exact ((((below_dN (Below.refl base w) n).setCell (p := ⟨g, k, none⟩) hg _)).trans (below_dN (Below.refl _ _) q)).setCell (p := ⟨s, 2, none⟩) h.lo _
  · have e1 : g ≠ b := fun e => h3 (by rw [e]; rfl)
    rw [Below.heap_setCell _ ⟨s, 2, none⟩ _ b h2]
    show ((w.drewN n).setCell ⟨g, k, none⟩ (cx r)).heap[b]? = _
    rw [Below.heap_setCell _ ⟨g, k, none⟩ _ b (fun e => e1 e.symm)]; rfl
set_option maxHeartbeats 4000000 in
theorem dsh_put_add {w : World} {base s : Nat} {v : Value} {m : Nat} {S : Sh} (h : Dh w base s v m S) {i j : Nat} (hi : i < m) (hj : j < m) {y : Cw} (hy : okz y) :
    Calls Try.prog 62 #[.pointer (some ⟨s, 0, none⟩), .int .i64 (i : Int), .int .i64 (j : Int), .complex .f64 y.1 y.2] w fun e w' => e = .returned (.tuple #[]) ∧ Dh w' base s v m (S.put addZ i j (anz y)) ∧ Kd base s v w w' := by
  have hk := mx_lt hi hj
  obtain ⟨g, c, x, rfl, hg, hcx, hcz, hxr⟩ := h.row.get hk
  rw [mx_at hi hj] at hxr
  have hmm : m * m ≤ 64 * 64 := Nat.mul_le_mul h.m9 h.m9
  have him : i * m ≤ 64 * 64 := Nat.le_trans (Nat.mul_le_mul (Nat.le_of_lt hi) (Nat.le_refl m)) hmm
  obtain ⟨k, hkk⟩ : ∃ k, i * m + j = k := ⟨_, rfl⟩
  obtain ⟨M, hM⟩ : ∃ M, m * m = M := ⟨_, rfl⟩
  have hki : (i : Int) * (m : Int) + (j : Int) = (k : Int) := by rw [← hkk]; push_cast; rfl
  have HK := hidS (And.intro hkk hM)
  rw [hkk] at hk hcx hcz
  rw [hM] at hk hmm
  have hkM : (k : Int) < (M : Int) := by omega
  have c0 := h.c0
  have c1 := h.c1
  have c2 := h.c2
  have cf := h.fz
  rw [hM] at c1
  unfold cx at hcx
  have hgs : g ≠ s := fun e => h.ne (by rw [e]; rfl)
  have HH := hidS h
  have HX := hidS hxr
  have HF := hidS (fun W => op2_radd W x y hxr.ok hy)
  have hi0 : ¬ ((i : Int) < 0) := by omega
  have hj0 : ¬ ((j : Int) < 0) := by omega
  have him2 : (i : Int) * (m : Int) ≤ 4096 := by exact_mod_cast him
  clear h hxr hkk hM
  go_enter Try.func62, Try.ntmps62
  go_wp2_with fail
  refine wp_region_held_drew (S := (fun W : World => W.cell? ⟨s, 1, none⟩ = some (.slice (some ⟨g, 0, none⟩) M c))) (by kernel_rfl) c1 (fun hHeld => ?_)
  refine wpAnyH_take (i := 0) (v := ?qv0a) (by (simp only [List.getElem?_toArray, List.getElem?_cons_zero]; rfl)) (by kernel_rfl) (by kernel_rfl) (by kernel_rfl) ?qQ0a (Or.inl ⟨by rfl, ?qh0a⟩) hHeld ?qr0a
  case qQ0a => exact fun _ _ _ h => h
  case qh0a => (intro w hSw; (try dsimp only at hSw); go_simp; try with_reducible rfl)
  try simp only [Act.put, List.setIfInBounds_toArray, List.set_cons_zero, List.set_cons_succ]
  refine wpAnyH_take (i := 1) (v := ?qv1a) (by (simp only [List.getElem?_toArray, List.getElem?_cons_zero, List.getElem?_cons_succ]; rfl)) (by kernel_rfl) (by kernel_rfl) (by kernel_rfl) ?qQ1a (Or.inl ⟨by rfl, ?qh1a⟩) hHeld ?qr1a
  case qQ1a => exact fun _ _ _ h => h
  case qh1a => (intro w hSw; (try dsimp only at hSw); go_simp; try with_reducible rfl)
  try simp only [Act.put, List.setIfInBounds_toArray, List.set_cons_zero, List.set_cons_succ]
  refine wpAnyH_take (i := 2) (v := ?qv2a) (by (simp only [List.getElem?_toArray, List.getElem?_cons_zero, List.getElem?_cons_succ]; rfl)) (by kernel_rfl) (by kernel_rfl) (by kernel_rfl) ?qQ2a (Or.inl ⟨by rfl, ?qh2a⟩) hHeld ?qr2a
  case qQ2a => exact fun _ _ _ h => h
  case qh2a => (intro w hSw; (try dsimp only at hSw); go_simp; try with_reducible rfl)
  try simp only [Act.put, List.setIfInBounds_toArray, List.set_cons_zero, List.set_cons_succ]
  refine wpAnyH_take (i := 3) (v := ?qv3a) (by (simp only [List.getElem?_toArray, List.getElem?_cons_zero, List.getElem?_cons_succ]; rfl)) (by kernel_rfl) (by kernel_rfl) (by kernel_rfl) ?qQ3a (Or.inl ⟨by rfl, ?qh3a⟩) hHeld ?qr3a
  case qQ3a => exact fun _ _ _ h => h
  case qh3a => (intro w hSw; (try dsimp only at hSw); go_simp; try with_reducible rfl)
  try simp only [Act.put, List.setIfInBounds_toArray, List.set_cons_zero, List.set_cons_succ]
  refine wpAnyH_take (i := 4) (v := ?qv4a) (by (simp only [List.getElem?_toArray, List.getElem?_cons_zero, List.getElem?_cons_succ]; rfl)) (by kernel_rfl) (by kernel_rfl) (by kernel_rfl) ?qQ4a (Or.inl ⟨by rfl, ?qh4a⟩) hHeld ?qr4a
  case qQ4a => exact fun _ _ _ h => h
  case qh4a => (intro w hSw; (try dsimp only at hSw); go_simp; try with_reducible rfl)
  try simp only [Act.put, List.setIfInBounds_toArray, List.set_cons_zero, List.set_cons_succ]
  refine wpAnyH_take (i := 5) (v := ?qv5a) (by (simp only [List.getElem?_toArray, List.getElem?_cons_zero, List.getElem?_cons_succ]; rfl)) (by kernel_rfl) (by kernel_rfl) (by kernel_rfl) ?qQ5a (Or.inl ⟨by rfl, ?qh5a⟩) hHeld ?qr5a
  case qQ5a => exact fun _ _ _ h => h
  case qh5a => (intro w hSw; (try dsimp only at hSw); go_simp; try with_reducible rfl)
  try simp only [Act.put, List.setIfInBounds_toArray, List.set_cons_zero, List.set_cons_succ]
  refine wpAnyH_take (i := 6) (v := ?qv6a) (by (simp only [List.getElem?_toArray, List.getElem?_cons_zero, List.getElem?_cons_succ]; rfl)) (by kernel_rfl) (by kernel_rfl) (by kernel_rfl) ?qQ6a (Or.inl ⟨by rfl, ?qh6a⟩) hHeld ?qr6a
  case qQ6a => exact fun _ _ _ h => h
  case qh6a => (intro w hSw; (try dsimp only at hSw); go_simp; try with_reducible rfl)
  try simp only [Act.put, List.setIfInBounds_toArray, List.set_cons_zero, List.set_cons_succ]
  refine wpAnyH_take (i := 7) (v := ?qv7a) (by (simp only [List.getElem?_toArray, List.getElem?_cons_zero, List.getElem?_cons_succ]; rfl)) (by kernel_rfl) (by kernel_rfl) (by kernel_rfl) ?qQ7a (Or.inl ⟨by rfl, ?qh7a⟩) hHeld ?qr7a
  case qQ7a => exact fun _ _ _ h => h
  case qh7a => (intro w hSw; (try dsimp only at hSw); go_simp; try with_reducible rfl)
  try simp only [Act.put, List.setIfInBounds_toArray, List.set_cons_zero, List.set_cons_succ]
  refine wpAnyH_take (i := 8) (v := ?qv8a) (by (simp only [List.getElem?_toArray, List.getElem?_cons_zero, List.getElem?_cons_succ]; rfl)) (by kernel_rfl) (by kernel_rfl) (by kernel_rfl) ?qQ8a (Or.inl ⟨by rfl, ?qh8a⟩) hHeld ?qr8a
  case qQ8a => exact fun _ _ _ h => h
  case qh8a => (intro w hSw; (try dsimp only at hSw); go_simp; try with_reducible rfl)
  try simp only [Act.put, List.setIfInBounds_toArray, List.set_cons_zero, List.set_cons_succ]
  refine wpAnyH_take (i := 9) (v := ?qv9a) (by (simp only [List.getElem?_toArray, List.getElem?_cons_zero, List.getElem?_cons_succ]; rfl)) (by kernel_rfl) (by kernel_rfl) (by kernel_rfl) ?qQ9a (Or.inl ⟨by rfl, ?qh9a⟩) hHeld ?qr9a
  case qQ9a => exact fun _ _ _ h => h
  case qh9a => (intro w hSw; (try dsimp only at hSw); go_simp; try with_reducible rfl)
  try simp only [Act.put, List.setIfInBounds_toArray, List.set_cons_zero, List.set_cons_succ]
  refine wpAnyH_take (i := 10) (v := ?qv10a) (by (simp only [List.getElem?_toArray, List.getElem?_cons_zero, List.getElem?_cons_succ]; rfl)) (by kernel_rfl) (by kernel_rfl) (by kernel_rfl) ?qQ10a (Or.inl ⟨by rfl, ?qh10a⟩) hHeld ?qr10a
  case qQ10a => exact fun _ _ _ h => h
  case qh10a => (intro w hSw; (try dsimp only at hSw); go_simp; try with_reducible rfl)
  try simp only [Act.put, List.setIfInBounds_toArray, List.set_cons_zero, List.set_cons_succ]
  refine wpAnyH_take (i := 12) (v := ?qv12a) (by (simp only [List.getElem?_toArray, List.getElem?_cons_zero, List.getElem?_cons_succ]; rfl)) (by kernel_rfl) (by kernel_rfl) (by kernel_rfl) ?qQ12a (Or.inl ⟨by rfl, ?qh12a⟩) hHeld ?qr12a
  case qQ12a => exact fun _ _ _ h => h
  case qh12a => (intro w hSw; (try dsimp only at hSw); go_simp; try with_reducible rfl)
  try simp only [Act.put, List.setIfInBounds_toArray, List.set_cons_zero, List.set_cons_succ]
  refine wpAnyH_ready (rs := [11]) (by kernel_rfl) (by simp) ?_
  refine AllReadyH.cons rfl (fun K hK => ?_) AllReadyH.nil
  go_simp
  refine hK.out _ _ (by exact c1) (fun hHeld => ?_)
  clear hK K
  try simp only [Act.put, List.setIfInBounds_toArray, List.set_cons_zero, List.set_cons_succ]
  refine wpAnyH_ready (rs := [13]) (by kernel_rfl) (by simp) ?_
  refine AllReadyH.cons rfl (fun K hK => ?_) AllReadyH.nil
  go_simp
  go_wp2_with (first
    | ((refine (HF.out _).mono ?_); rintro e w1 ⟨r, mq, rfl, hr, rfl⟩; rw [HX.out.anz] at hr; (have HR := hidS hr); (obtain ⟨o1q, o2q⟩ := hr.ok); clear hr))
  refine hK.out _ _ (by exact c1) (fun hHeld => ?_)
  clear hK K
  try simp only [Act.put, List.setIfInBounds_toArray, List.set_cons_zero, List.set_cons_succ]
  refine wpAnyH_take (i := 14) (v := ?qv14a) (by (simp only [List.getElem?_toArray, List.getElem?_cons_zero, List.getElem?_cons_succ]; rfl)) (by kernel_rfl) (by kernel_rfl) (by kernel_rfl) ?qQ14a (Or.inl ⟨by rfl, ?qh14a⟩) hHeld ?qr14a
  case qQ14a => exact fun _ _ _ h => h
  case qh14a => (intro w hSw; (try dsimp only at hSw); go_simp; try with_reducible rfl)
  try simp only [Act.put, List.setIfInBounds_toArray, List.set_cons_zero, List.set_cons_succ]
  refine wpAnyH_ready (rs := [15]) (by kernel_rfl) (by simp) ?_
  refine AllReadyH.cons rfl (fun K hK => ?_) AllReadyH.nil
  go_simp
  refine hK.out _ _ ((World.cell?_setCell_other _ _ _ _ (fun e => hgs (by simpa using congrArg Addr.block e))).trans c1) (fun hHeld => ?_)
  clear hK K
  try simp only [Act.put, List.setIfInBounds_toArray, List.set_cons_zero, List.set_cons_succ]
  refine wpAnyH_done (by kernel_rfl) ?_ _
  clear hHeld
  have HR2 := hidS HR.out
  have c2b : ((w.drewN (1 + mq)).setCell ⟨g, k, none⟩ (.complex .f64 r.1 r.2)).cell? ⟨s, 2, none⟩ = some (.bool S.ov) := (World.cell?_setCell_other _ _ _ _ (fun e => hgs (by simpa using congrArg Addr.block e))).trans c2
  have c1b : ((w.drewN (1 + mq)).setCell ⟨g, k, none⟩ (.complex .f64 r.1 r.2)).cell? ⟨s, 1, none⟩ = some (.slice (some ⟨g, 0, none⟩) M c) := (World.cell?_setCell_other _ _ _ _ (fun e => hgs (by simpa using congrArg Addr.block e))).trans c1
  have ckb : ((w.drewN (1 + mq)).setCell ⟨g, k, none⟩ (.complex .f64 r.1 r.2)).cell? ⟨g, k, none⟩ = some (.complex .f64 r.1 r.2) := World.cell?_setCell_same _ _ _ (show (w.drewN (1 + mq)).cell? _ = some _ from hcx)
  have cfb : ((w.drewN (1 + mq)).setCell ⟨g, k, none⟩ (.complex .f64 r.1 r.2)).frozen? ⟨s, 2, none⟩ = false := by rw [World.frozen?_setCell]; exact cf
  have HD := hidS (fun q f hf => by
    have := dh_done (op := addZ) (Y := anz y) HH.out hi hj HK.out.1 HR.out hg (1 + mq) q f hf
    unfold cx at this
    exact this)
  clear c0 c1 c2 cf hcx hcz
  obtain ⟨W1, hW1⟩ : ∃ W1, (w.drewN (1 + mq)).setCell ⟨g, k, none⟩ (.complex .f64 r.1 r.2) = W1 := ⟨_, rfl⟩
  rw [hW1] at HD c2b c1b ckb cfb ⊢
  clear hW1
  have HFI : Hid (∀ W, Calls Try.prog 84 #[.complex .f64 r.1 r.2] W fun e w' => ∃ n, e = .returned (.bool (finC (addZ (S.m i j) (anz y)))) ∧ w' = W.drewN n) := fun W => by
    have h1 := rfin_any (a := r.1) (b := r.2) (w := W)
    rw [show (finB r.1 && finB r.2) = finC (addZ (S.m i j) (anz y)) from finZ_of HR.out] at h1
    exact h1
  obtain ⟨f, hf⟩ : ∃ f, finC (addZ (S.m i j) (anz y)) = f := ⟨_, rfl⟩
  have HFF := hidS hf
  rw [hf] at HFI
  obtain ⟨ov, hov⟩ : ∃ ov, S.ov = ov := ⟨_, rfl⟩
  have HOV := hidS hov
  rw [hov] at c2b
  clear hf hov
  cases ov
  · go_wp2_with (go_at_call 84; (refine (HFI.out _).mono ?_); rintro e w9 ⟨n9, rfl, rfl⟩)
    refine bodyPost_end (by simp [results, Try.results62, go_sem]; try rfl) rfl ?_
    have hd := HD.out n9 (!f) (by rw [HOV.out, HFF.out]; rfl)
    exact ⟨rfl, hd.1, hd.2⟩
  · go_wp2_with fail
    refine bodyPost_end (by simp [results, Try.results62, go_sem]; try rfl) rfl ?_
    have hd := HD.out 0 true (by rw [HOV.out]; rfl)
    exact ⟨rfl, hd.1, hd.2⟩
end Go.Proofs.Ytmhplaanpbpndaa
