/-
  What Square, ConjNumbers and ConjMatrix of the given package gridworkkit hand back.
-/
import Derived.Test.YtklbgibhbnijaaaLwj
import Derived.Test.YtklbgibhbnijaaaBnb
import Derived.Deep.AppendLies
import Derived.Deep.RegionHeldLaw
namespace Go.Proofs.Ytklbgibhbnijaaa
open Fl RowKit

theorem ppick_any (a : Int) (n : Nat) (hn : 0 < n) (hb : n ≤ 65) : ∃ j : Nat, j < n ∧ ∀ w, Calls Try.prog 13 #[.int .i64 a, .int .i64 n] w fun e w' => e = .returned (.int .i64 (j : Int)) ∧ w' = w := by
  have h1 := Int.natAbs_tmod a (n : Int)
  have h2 : (a.tmod n).natAbs < n := by
    rw [h1, Int.natAbs_natCast]; exact Nat.mod_lt _ hn
  have hne : ¬ (n : Int) = 0 := by omega
  by_cases h0 : a.tmod n < 0
  · obtain ⟨j, hj⟩ := Int.eq_ofNat_of_zero_le (show 0 ≤ a.tmod n + (n : Int) by omega)
    refine ⟨j, by omega, fun w => ?_⟩
    have hwr : IntKind.i64.wrap (a.tmod n + (n : Int)) = (j : Int) := by rw [IntKind.wrap_i64]; omega
    clear h1 h2
    go_enter Try.func13, Try.ntmps13
    go_wp2
    go_ret
    exact ⟨by first | rfl | (rw [hj]; rfl) | (simp [hj]), rfl⟩
  · obtain ⟨j, hj⟩ := Int.eq_ofNat_of_zero_le (show 0 ≤ a.tmod n by omega)
    refine ⟨j, by omega, fun w => ?_⟩
    clear h1 h2
    go_enter Try.func13, Try.ntmps13
    go_wp2
    go_ret
    exact ⟨by first | rfl | (rw [hj]; rfl) | (simp [hj]), rfl⟩
def pat (ps : List (Int × Int)) (k : Nat) : Int × Int := ps.getD k (0, 0)
/-- what a list of pairs of integers in memory reads as -/
def Qp (w : World) (ao : Option Addr) (ps : List (Int × Int)) : Prop :=
  ∀ k, k < ps.length → ∃ b off, ao = some ⟨b, off, none⟩ ∧ b < w.heap.size ∧ w.cell? ⟨b, off + k * 2, none⟩ = some (.int .i64 (pat ps k).1) ∧ w.cell? ⟨b, off + k * 2 + 1, none⟩ = some (.int .i64 (pat ps k).2)
theorem ro_snoc (k : Nat) (f : Nat → Cw) : ro (k + 1) f = ro k f ++ [f k] := by simp [ro, List.range_succ]
theorem new_cell' (w : World) (v : Value) (t : TypeId) : (w.alloc (.cells #[v] t)).cell? ⟨w.heap.size, 0, none⟩ = some v := World.cell?_alloc_new w _ _ 0
/-- a matrix that grows: its variable, the variable that is handed back, and its numbers -/
structure Sq (W : Nat) (N k c : Nat) (A : Option Addr) (f : Nat → Cw) (w : World) : Prop where
  v : V3 (W + 1) (.int .i64 N) (.int .i64 N) (.slice A k c) w
  r : V3 W (.int .i64 0) (.int .i64 0) (.slice none 0 0) w
  own : w.ownsRow (W + 2) 52 1 (.slice A k c) k ((ro k f).map cx)
theorem Sq.alloc {W N k c : Nat} {A : Option Addr} {f : Nat → Cw} {w : World} (h : Sq W N k c A f w) (o : Obj) : Sq W N k c A f (w.alloc o) := ⟨h.v.below (bal _ _), h.r.below (bal _ _), h.own.alloc o⟩
theorem Sq.drew {W N k c : Nat} {A : Option Addr} {f : Nat → Cw} {w : World} (h : Sq W N k c A f w) : Sq W N k c A f w.drew := ⟨h.v.drewN 1, h.r.drewN 1, h.own⟩
theorem Sq.push {W N k c g cap : Nat} {A : Option Addr} {f : Nat → Cw} {w w1 : World} (h : Sq W N k c A f w) {x : Cw} (hx : x = f k) (hown : w1.ownsRow (W + 2) 52 1 (.slice (some ⟨g, 0, none⟩) (k + 1) cap) (k + 1) ((ro k f).map cx ++ [.complex .f64 x.1 x.2])) (hg : w.grownBy w1 (Value.slice A k c).ownBlock) : Sq W N (k + 1) cap (some ⟨g, 0, none⟩) f (w1.setCell ⟨W + 1, 2, none⟩ (.slice (some ⟨g, 0, none⟩) (k + 1) cap)) ∧ Below (W + 2) w w1 := by
  subst hx
  have hB : Below (W + 2) w w1 := (Below.refl (W + 2) w).grown hg h.v.lt (fun j hj => (h.own.lt j hj).1)
  have v1 := h.v.later hB (by omega)
  have r1 := h.r.later hB (by omega)
  have hge := (hown.lt g rfl).1
  refine ⟨⟨⟨by simpa using v1.lt, ?_, ?_, World.cell?_setCell_same _ _ _ v1.c2, by simpa using v1.f0, by simpa using v1.f1, by simpa using v1.f2⟩, r1.other (q := ⟨W + 1, 2, none⟩) (by show W + 1 ≠ W; omega) _, ?_⟩, hB⟩
  · rw [other_cell _ (by simp)]; exact v1.c0
  · rw [other_cell _ (by simp)]; exact v1.c1
  · have h2 : w1.ownsRow (W + 2) 52 1 (.slice (some ⟨g, 0, none⟩) (k + 1) cap) (k + 1) ((ro (k + 1) f).map cx) := by
      rw [ro_snoc]; exact push_own hown
    exact own_at h2 (fun q hq => by cases hq; exact Below.heap_setCell _ _ _ _ (by show g ≠ W + 1; omega))
theorem sq_rw {w : World} {b n c : Nat} {A : Option Addr} {xs : List Cw} (h : w.ownsRow b 52 1 (.slice A n c) n (xs.map cx)) (hl : xs.length = n) : n ≤ c ∧ (n = 0 ∧ A = none ∨ ∃ g, A = some ⟨g, 0, none⟩) := by
  obtain ⟨ao, cap, e, h1, h2, _⟩ := own_rc hl.symm h
  injection e with e1 e2 e3
  subst e1 e3
  refine ⟨by omega, ?_⟩
  rcases h2 with ⟨a1, a2, _⟩ | ⟨g, a1, _⟩
  · exact .inl ⟨by omega, a2⟩
  · exact .inr ⟨g, a1⟩
set_option maxHeartbeats 4000000 in
theorem square_any (a : Int) : ∃ N : Nat, N ≤ 64 ∧ ∀ (ao : Option Addr) (cap n : Nat) (xs : List Cw) (w : World), xs.length = n → n * 16 ≤ 140737488355328 → Rz w ao xs →
    Calls Try.prog 9 #[.int .i64 a, .slice ao n cap] w fun e w' => ∃ A c, e = .returned (.agg #[.int .i64 N, .int .i64 N, .slice A (N * N) c]) ∧ Rw w' w.heap.size (.slice A (N * N) c) (N * N) (ro (N * N) (zat xs)) ∧ Below w.heap.size w w' := by
  obtain ⟨N, hN, hP⟩ := ppick_any a 65 (by decide) (by decide)
  refine ⟨N, by omega, fun ao cap n xs w hn hsz hc => ?_⟩
  obtain ⟨i0, hi, hz0, hz1, hz2⟩ := info_parts Try.infoC
  have h4 := le_4096 (R := N) (C := N) (by omega) (by omega)
  have HM := hid_o (wrap_mul (i := N) (C := N) (by omega) (by omega))
  obtain ⟨T, hT⟩ : ∃ T, T = N * N := ⟨_, rfl⟩
  rw [← hT] at h4 HM ⊢
  have HP := hid_o hP
  have HC := hid_o hc
  clear hT hP hc
  have S0 : Hid (Sq w.heap.size N 0 0 none (zat xs) ((w.alloc (.cells #[.int .i64 0, .int .i64 0, .slice none 0 0] 26)).alloc (.cells #[.int .i64 N, .int .i64 N, .slice none 0 0] 26))) := by
    refine ⟨?_, (v3_new w _ _ _ _).below (bal _ _), World.ownsRow_nil _ _ _ _⟩
    have := v3_new (w.alloc (.cells #[.int .i64 0, .int .i64 0, .slice none 0 0] 26)) (.int .i64 N) (.int .i64 N) (.slice none 0 0) 26
    rw [size_al] at this
    exact this
  have B0 : Hid (Below w.heap.size w ((w.alloc (.cells #[.int .i64 0, .int .i64 0, .slice none 0 0] 26)).alloc (.cells #[.int .i64 N, .int .i64 N, .slice none 0 0] 26))) := ba (bal _ _) _
  go_enter Try.func9, Try.ntmps9
  go_wp2_with (go_at_call 13; (refine (HP.out _).mono ?_); rintro e w1 ⟨rfl, hw1⟩; subst w1)
  go_loopw [6] (fun iv wr => ∃ (k c : Nat) (A : Option Addr), k ≤ T ∧ iv = .int .i64 k ∧ Sq w.heap.size N k c A (zat xs) wr ∧ Below w.heap.size w wr) (fun iv _ => T - (intOf iv).toNat)
  case atStart => exact ⟨0, 0, none, Nat.zero_le _, rfl, S0.out, B0.out⟩
  case round =>
    clear S0 B0
    obtain ⟨k, c, A, hk, rfl, hS, hbel⟩ := hrel
    have q0 := hS.v.c0
    have q1 := hS.v.c1
    have q2 := hS.v.c2
    have q5 := hS.v.f2
    have HS := hid_o hS
    have HB := hid_o hbel
    have sz : w.heap.size + 1 < wr.heap.size := hS.v.lt
    by_cases hlt : k < T
    · have hnx : k + 1 ≤ 4096 := by omega
      by_cases hkl : k < n
      · obtain ⟨b, off, rfl, hb, hc1, hc2⟩ := HC.out.below hbel k (by omega)
        have O2 := hid_o ((hS.alloc (.cells #[.int .u64 ((zat xs k).1 : Int), .int .u64 ((zat xs k).2 : Int)] 72)).drew)
        obtain ⟨x, hxe⟩ : ∃ x, x = zat xs k := ⟨_, rfl⟩
        rw [← hxe] at hc1 hc2 O2
        have HX := hid_o hxe
        clear hxe hbel hS
        have hm := HM.out
        go_wp2_with (first
          | (go_at_call 34; (with_reducible refine (number_any _ _ _).mono ?_); rintro e w2 ⟨rfl, hw2⟩; (have O3 := hid_o (hw2 ▸ O2.out)); (have B3 : Hid (Below w.heap.size w w2) := by (rw [hw2]; exact below_drewN (HB.out.alloc HB.out.size _) 1)); (have p2 := O3.out.v.c2); (have pl := O3.out.v.lt); clear hw2 O2)
          | (at_builtin; refine wpList_append_lies _ (by rfl) _ _ 24 (by rfl) (w.heap.size + 2) 52 i0 (.complex .f64 0 0) 1 16 Try.underlying24 hi hz0 hz1 hz2 (by rfl) (by decide) (.slice A k c) k ((ro k (zat xs)).map cx) (by rfl) (O3.out.alloc _).own ⟨_, 0, none⟩ 1 1 [.complex .f64 x.1 x.2] (by rfl) (by rfl) (fun j u hj => by match j, hj with | 0, hj => (simp at hj; subst hj; simp [Addr.add])) (fun u hu => by simp at hu; subst hu; rfl) (by decide) (Nat.le_trans hnx (by unfold maxLen; decide)) (Nat.le_trans (Nat.mul_le_mul_right 16 hnx) (by decide)) (Nat.le_trans (show w.heap.size + 2 ≤ w2.heap.size from O3.out.v.lt) (by simp)) _ rfl ?_; intro g1 cap1 w5 hown1 hgrow1 hat1 hlt1; (have P5 := hid_o ((O3.out.alloc _).push HX.out hown1 hgrow1)); (have v5 := (O3.out.alloc _).v.later P5.out.2 (Nat.lt_succ_self _)); (have t0 := v5.c0); (have t1 := v5.c1); (have t2 := v5.c2); (have t3 := v5.f2); (have tl := v5.lt); (have B5 := hid_o (B3.out.trans (((Below.refl w.heap.size w2).alloc B3.out.size _).trans (P5.out.2.mono (Nat.le_trans (Nat.le_succ _) (Nat.le_succ _)))))); clear hown1 hgrow1 hat1 hlt1 v5))
        clear hm
        go_roundw
        case measure => simp [intOf]; omega
        case rel => exact ⟨k + 1, cap1, _, by omega, by go_num, P5.out.1, B5.out.setCell (p := ⟨w.heap.size + 1, 2, none⟩) (Nat.le_succ _) _⟩
      · have HX : Hid (((0, 0) : Cw) = zat xs k) := by show _ = _; rw [zat_ge (by omega)]
        have O3 := hid_o hS
        have B3 := hid_o hbel
        have hm := HM.out
        clear hbel hS
        go_wp2_with (first
          | (at_builtin; refine wpList_append_lies _ (by rfl) _ _ 24 (by rfl) (w.heap.size + 2) 52 i0 (.complex .f64 0 0) 1 16 Try.underlying24 hi hz0 hz1 hz2 (by rfl) (by decide) (.slice A k c) k ((ro k (zat xs)).map cx) (by rfl) (O3.out.alloc _).own ⟨_, 0, none⟩ 1 1 [.complex .f64 0 0] (by rfl) (by rfl) (fun j u hj => by match j, hj with | 0, hj => (simp at hj; subst hj; simp [Addr.add])) (fun u hu => by simp at hu; subst hu; rfl) (by decide) (Nat.le_trans hnx (by unfold maxLen; decide)) (Nat.le_trans (Nat.mul_le_mul_right 16 hnx) (by decide)) (Nat.le_trans (show w.heap.size + 2 ≤ wr.heap.size from O3.out.v.lt) (by simp)) _ rfl ?_; intro g1 cap1 w5 hown1 hgrow1 hat1 hlt1; (have P5 := hid_o ((O3.out.alloc _).push HX.out hown1 hgrow1)); (have v5 := (O3.out.alloc _).v.later P5.out.2 (Nat.lt_succ_self _)); (have t0 := v5.c0); (have t1 := v5.c1); (have t2 := v5.c2); (have t3 := v5.f2); (have tl := v5.lt); (have B5 := hid_o (B3.out.trans (((Below.refl w.heap.size wr).alloc B3.out.size _).trans (P5.out.2.mono (Nat.le_trans (Nat.le_succ _) (Nat.le_succ _)))))); clear hown1 hgrow1 hat1 hlt1 v5))
        clear hm
        go_roundw
        case measure => simp [intOf]; omega
        case rel => exact ⟨k + 1, cap1, _, by omega, by go_num, P5.out.1, B5.out.setCell (p := ⟨w.heap.size + 1, 2, none⟩) (Nat.le_succ _) _⟩
    · have e : k = T := by omega
      subst e
      have r0 := hS.r.c0
      have r1 := hS.r.c1
      have r2 := hS.r.c2
      have r3 := hS.r.f0
      have r4 := hS.r.f1
      have r5 := hS.r.f2
      have rl := hS.r.lt
      obtain ⟨m0, m1, m2⟩ := hS.r.reads
      have hm := HM.out
      clear hS hbel
      go_wp2
      refine bodyPost_ret (by simp [results, Try.results9, go_sem, m0, m1, m2]; try rfl) rfl ?_
      refine ⟨A, c, rfl, ⟨ro_len _ _, own_base (own_at HS.out.own (fun g hg => set3_block (Nat.ne_of_lt (Nat.lt_of_lt_of_le (Nat.lt_succ_of_lt (Nat.lt_succ_self _)) (HS.out.own.lt g hg).1)))) (Nat.le_trans (Nat.le_succ _) (Nat.le_succ _))⟩, below_set3 HB.out (Nat.le_refl _) _ _ _⟩

end Go.Proofs.Ytklbgibhbnijaaa
