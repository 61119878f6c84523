/-
  The walk of StampAdds, both ways.
-/
import Derived.Test.YtdgjnhboaajonaaWSA
namespace Go.Proofs.Ytdgjnhboaajonaa
open Fl RowKit
set_option linter.unusedVariables false

def pk2 {α : Type} (a b : α) (j : Nat) : α := if j = 0 then a else b
theorem two2 {P : Nat → Prop} (h0 : P 0) (h1 : P 1) : ∀ j, j < 2 → P j := by
  intro j hj
  rcases (by omega : j = 0 ∨ j = 1) with rfl | rfl
  · exact h0
  · exact h1
theorem many2 {w : World} {b0 b1 n0 n1 base : Nat} {v0 v1 : Value} {l0 l1 : List Cw} (t : TypeId) (hb : base ≤ b0) (hb1 : base ≤ b1)
    (r0 : Rw w b0 v0 n0 l0) (r1 : Rw w b1 v1 n1 l1) (k0 : ∀ g, v0.ownBlock = some g → v1.ownBlock ≠ some g) :
    Many base w.heap.size 2 (pk2 n0 n1) (pk2 v0 v1) (pk2 l0 l1) (w.alloc (.cells #[v0, v1] t)) := by
  refine many_of _ t (two2 rfl rfl) (two2 (rw_base r0 (by omega)) (rw_base r1 (by omega))) ?_
  intro j k hjk hk g hg e
  obtain ⟨rfl, rfl⟩ : j = 0 ∧ k = 1 := by omega
  exact k0 g hg e
theorem V3.onlyS {p g : Nat} {a b c : Value} {w w' : World} (h : V3 p a b c w) (ho : OnlyRow g w w') (hne : p ≠ g) : V3 p a b c w' := by
  have hb : w'.heap[p]? = w.heap[p]? := ho.block p hne
  exact ⟨by rw [ho.size]; exact h.lt, (World.cell?_of_block (w := w) hb).trans h.c0, (World.cell?_of_block (w := w) hb).trans h.c1, (World.cell?_of_block (w := w) hb).trans h.c2, (World.frozen?_of_block (w := w) hb).trans h.f0, (World.frozen?_of_block (w := w) hb).trans h.f1, (World.frozen?_of_block (w := w) hb).trans h.f2⟩
theorem nown18 {w : World} {b n q : Nat} {v : Value} {zs : List Cw} (h : Rw w b v n zs) (hq : q < b) : v.ownBlock ≠ some q := fun e => by have := own_ge h.own e; omega
theorem lst_nil18 (w : World) : Lst w none 0 (fun _ => (some 0, some 0)) [] := ⟨rfl, fun j hj => absurd hj (Nat.not_lt_zero _), Rc.nil _ _⟩
theorem z_cells {w w' : World} {z : Cw} {T : TypeId} (h : Below (w.heap.size + 1) (w.alloc (.cells #[.int .u64 (z.1 : Int), .int .u64 (z.2 : Int)] T)) w') : w'.cell? ⟨w.heap.size, 0, none⟩ = some (.int .u64 (z.1 : Int)) ∧ w'.cell? ⟨w.heap.size, 1, none⟩ = some (.int .u64 (z.2 : Int)) ∧ w.heap.size < w'.heap.size := by
  have hs := h.size
  rw [size_al] at hs
  exact ⟨(h.cell (p := ⟨w.heap.size, 0, none⟩) (by show w.heap.size < _; omega)).trans (World.cell?_alloc_new w _ _ 0), (h.cell (p := ⟨w.heap.size, 1, none⟩) (by show w.heap.size < _; omega)).trans (World.cell?_alloc_new w _ _ 1), by omega⟩

set_option maxRecDepth 10000 in
set_option maxHeartbeats 16000000 in
theorem sadds_no (R C i j : Int) (ao : Option Addr) (n cap : Nat) (xs : List Cw) (z : Cw) (w : World) (E : Int) (hE : ¬ E = 0) (O1 : SadNo 20 R C n i j z xs E) (O2 : SadNo 21 R C n i j z xs E) (hn : xs.length = n) (hz : okz z) (hx : okl xs) (hc : Rz w ao xs) (hw1 : n * 16 + 192 ≤ 140737488355328) :
    Calls Try.prog 4 #[.int .i64 R, .int .i64 C, .slice ao n cap, .int .i64 i, .int .i64 j, .agg #[.int .u64 (z.1 : Int), .int .u64 (z.2 : Int)]] w fun e w' => e = .returned (.bool true) ∧ Below w.heap.size w w' := by
  have hs1 : n * 16 ≤ 140737488355328 := by omega
  have hz1 : n * 16 + 96 ≤ 140737488355328 := by omega
  have hzz : (n + 6) * 16 + 96 ≤ 140737488355328 := by omega
  have hz6 : (n + 6) * 16 ≤ 140737488355328 := by omega
  unfold SadNo at O1 O2
  have HO1 := hidS O1
  have HO2 := hidS O2
  have HC := hidS hc
  have HX := hidS hx
  clear O1 O2 hc hx
  go_enter Try.func4, Try.ntmps4
  go_wp2_with (first
    | (go_at_call 17; (with_reducible refine (tnumbers hn hs1 HX.out (HC.out.below (bal _ _))).mono ?_); rintro e w1 ⟨A, c, rfl, SA, hb⟩; (have HSA := hidS SA); (have HB1 := hidS (show Below (w.heap.size + 1) (w.alloc (.cells #[.int .u64 (z.1 : Int), .int .u64 (z.2 : Int)] 55)) w1 by rw [size_al] at hb; exact hb)); clear SA hb)
    | (go_at_call 18; (with_reducible refine (lentM18 (HSA.out.below (bal _ _)) hz1).mono ?_); rintro e w2 ⟨gx, cx1, rfl, ⟨hx1, _⟩, RX, hb⟩; (have VM := hidS ((v3_new w1 (.int .i64 R) (.int .i64 C) (.slice A n c) 39).below hb)); (have HRX := hidS RX); (have HB2 := hidS (bt (bal w1 (.cells #[.int .i64 R, .int .i64 C, .slice A n c] 39)) hb)); (obtain ⟨zc0, zc1, zlt⟩ := z_cells (HB1.out.trans (HB2.out.mono (by have := HB1.out.size; rw [size_al] at this; exact this)))); (have HLX := hidS RX.lt); clear RX hb)
    | (go_at_call 19; (with_reducible refine (number_any z.1 z.2 _).mono ?_); rintro e wn ⟨rfl, hwn⟩; (have HBn := hidS (show Below (w2.alloc (.cells #[.int .i64 R, .int .i64 C, .slice (some ⟨gx, 0, none⟩) n cx1] 39)).heap.size (w2.alloc (.cells #[.int .i64 R, .int .i64 C, .slice (some ⟨gx, 0, none⟩) n cx1] 39)) wn from (by rw [hwn]; repeat first | exact below_self _ | refine Below.drew ?_ | refine ba ?_ _ | refine below_drewN ?_ _))); (have Vn3 := (v3_new w2 (.int .i64 R) (.int .i64 C) (.slice (some ⟨gx, 0, none⟩) n cx1) 39).below HBn.out); (obtain ⟨n13, n0, n1, n2, _, _, _⟩ := Vn3); clear hwn zc0 zc1 zlt)
    | (go_at_call 20; (with_reducible refine (HO1.out _ _ _ (sl_pre18 (HRX.out.below (bt (bal _ _) HBn.out)) hn (by omega) HX.out)).mono ?_); rintro e w3 ⟨rfl, hb⟩; (have HB3 := hidS (bt (bt (bal w2 (.cells #[.int .i64 R, .int .i64 C, .slice (some ⟨gx, 0, none⟩) n cx1] 39)) HBn.out) hb)); (clear n13 n0 n1 n2); (have V3m := VM.out.below HB3.out); (obtain ⟨l13, m0, m1, m2, _, _, _⟩ := V3m); clear hb)
    | (go_at_call 21; (with_reducible refine (HO2.out _ _ _ ((HSA.out.below (bt HB2.out HB3.out)).below (bal _ _))).mono ?_); rintro e w4 ⟨rfl, hb⟩; (have HB4 := hidS (bt (bal w3 (.cells #[.int .i64 0, .int .i64 0, .slice none 0 0] 39)) hb)); (have VA := hidS ((v3_new w3 (.int .i64 0) (.int .i64 0) (.slice none 0 0) 39).below hb)); (clear l13 m0 m1 m2); (have V4m := VM.out.below (bt HB3.out HB4.out)); (obtain ⟨l13, m0, m1, m2, _, _, _⟩ := V4m); clear hb)
    | (go_at_call 22; (with_reducible refine (tkept ((HSA.out.below (bt HB2.out (bt HB3.out HB4.out))).below (bal _ _)) hz1 ((HRX.out.below (bt HB3.out HB4.out)).below (bal _ _))).mono ?_); rintro e w5 ⟨rfl, hb⟩; (have VW := hidS ((v3_new w4 (.int .i64 0) (.int .i64 0) (.slice none 0 0) 39).below hb)); (have HB5 := hidS (bt (bal w4 (.cells #[.int .i64 0, .int .i64 0, .slice none 0 0] 39)) hb)); (clear l13 m0 m1 m2); clear hb)
    | (go_at_call 23; (with_reducible refine (tover (HRX.out.below (bt HB3.out (bt HB4.out HB5.out))) hz6).mono ?_); rintro e w6 ⟨rfl, RX2, ho⟩; (have hgx : gx < wn.heap.size := (by have h1 := HLX.out.2; have h2 := HBn.out.size; rw [size_al] at h2; omega)); (have hgx2 : gx < (w3.alloc (.cells #[.int .i64 0, .int .i64 0, .slice none 0 0] 39)).heap.size := (by rw [size_al]; have := HLX.out.2; have := HB3.out.size; omega)); (have VA6 := hidS ((VA.out.below HB5.out).onlyS ho (by have := HLX.out.2; have := HB3.out.size; omega))); (have VW6 := hidS (VW.out.onlyS ho (by have := HLX.out.2; have := HB3.out.size; have := HB4.out.size; omega))); (have HRX2 := hidS RX2); (have HB0 := hidS (show Below w.heap.size w w6 from below_only ((((bal w (.cells #[.int .u64 (z.1 : Int), .int .u64 (z.2 : Int)] 55)).trans (HB1.out.mono (Nat.le_succ _))).trans ((HB2.out.trans ((HB3.out.trans ((HB4.out.trans (HB5.out.mono HB4.out.size)).mono HB3.out.size)).mono HB2.out.size)).mono (by have := HB1.out.size; rw [size_al] at this; omega)))) ho (by have := HLX.out.1; have := HB1.out.size; rw [size_al] at this; rw [size_al] at *; omega))); (obtain ⟨la, a0, a1, a2, _, _, _⟩ := VA6.out); (obtain ⟨lb, b0, b1, b2, _, _, _⟩ := VW6.out); clear RX2 ho hgx hgx2)
    | (go_at_call 12; (with_reducible refine (ksameM 0 0 (lst_nil18 _) (lst_nil18 _) (by omega)).mono ?_); rintro e w7 ⟨rfl, hb⟩; (have VA7 := VA6.out.below hb); (clear la a0 a1 a2 lb b0 b1 b2); (obtain ⟨la, a0, a1, a2, _, _, _⟩ := VA7); (have HB7 := hidS hb); (have HLB := hidS (show w.heap.size ≤ (w1.alloc (.cells #[.int .i64 R, .int .i64 C, .slice A n c] 39)).heap.size from (by rw [size_al]; have h1 := HB1.out.size; rw [size_al] at h1; omega))); (have HLC := hidS (Nat.le_refl w.heap.size)); (have HAP := hidS (show ∀ g, (Value.slice (some ⟨gx, 0, none⟩) (n + 6) cx1).ownBlock = some g → (Value.slice none 0 0).ownBlock ≠ some g from fun g e e2 => (by simp [Value.ownBlock] at e2))); (have HG1 := hidS (show ∀ g, (Value.slice none 0 0).ownBlock = some g → w.heap.size ≤ g from fun g e => (by simp [Value.ownBlock] at e))); (have HG0 := hidS (show ∀ g, (Value.slice (some ⟨gx, 0, none⟩) (n + 6) cx1).ownBlock = some g → w.heap.size ≤ g from fun g e => (by have e2 : gx = g := (by simpa [Value.ownBlock] using e); have h1 := HLX.out.1; have h2 := HLB.out; omega))); (have HSZ := hidS (show w.heap.size ≤ w7.heap.size from Nat.le_trans HB0.out.size HB7.out.size)); clear hb)
    | (go_at_call 15; (refine (kapart_any w.heap.size _ 2 w.heap.size (pk2 (n + 6) 0) (pk2 (.slice (some ⟨gx, 0, none⟩) (n + 6) cx1) (.slice none 0 0)) (pk2 (marks 9 (n + 6)) []) _ (by omega) (by omega) (many2 (w := w7) 37 (Nat.le_refl _) (Nat.le_refl _) (rw_base (HRX2.out.below HB7.out) HLB.out) (rw_base (rw_nil _ _) HLC.out) HAP.out) (two2 hzz (by show (0 : Nat) * 16 + 96 ≤ _; omega)) (two2 HG0.out HG1.out) (by simp; exact Nat.le_succ_of_le HSZ.out) (by simp; exact Nat.le_succ_of_le HSZ.out)).mono ?_); rintro e w8 ⟨rfl, hb⟩))
  all_goals
    go_ret
    exact ⟨rfl, (HB0.out.trans ((HB7.out.alloc HB7.out.size _).mono HB0.out.size)).trans hb⟩
set_option maxRecDepth 10000 in
set_option maxHeartbeats 16000000 in
theorem sadds_yes (R C i j : Int) (ao : Option Addr) (n cap : Nat) (xs : List Cw) (z : Cw) (w : World) (k : Nat) (O1 : SadYes 20 R C n k i j z xs) (O2 : SadYes 21 R C n k i j z xs) (hn : xs.length = n) (hz : okz z) (hx : okl xs) (hc : Rz w ao xs) (hw1 : n * 16 + 192 ≤ 140737488355328) :
    Calls Try.prog 4 #[.int .i64 R, .int .i64 C, .slice ao n cap, .int .i64 i, .int .i64 j, .agg #[.int .u64 (z.1 : Int), .int .u64 (z.2 : Int)]] w fun e w' => e = .returned (.bool true) ∧ Below w.heap.size w w' := by
  have hs1 : n * 16 ≤ 140737488355328 := by omega
  have hz1 : n * 16 + 96 ≤ 140737488355328 := by omega
  have hzz : (n + 6) * 16 + 96 ≤ 140737488355328 := by omega
  have hz6 : (n + 6) * 16 ≤ 140737488355328 := by omega
  unfold SadYes at O1 O2
  have HO1 := hidS O1
  have HO2 := hidS O2
  have HC := hidS hc
  have HX := hidS hx
  clear O1 O2 hc hx
  go_enter Try.func4, Try.ntmps4
  go_wp2_with (first
    | (go_at_call 17; (with_reducible refine (tnumbers hn hs1 HX.out (HC.out.below (bal _ _))).mono ?_); rintro e w1 ⟨A, c, rfl, SA, hb⟩; (have HSA := hidS SA); (have HB1 := hidS (show Below (w.heap.size + 1) (w.alloc (.cells #[.int .u64 (z.1 : Int), .int .u64 (z.2 : Int)] 55)) w1 by rw [size_al] at hb; exact hb)); clear SA hb)
    | (go_at_call 18; (with_reducible refine (lentM18 (HSA.out.below (bal _ _)) hz1).mono ?_); rintro e w2 ⟨gx, cx1, rfl, ⟨hx1, _⟩, RX, hb⟩; (have VM := hidS ((v3_new w1 (.int .i64 R) (.int .i64 C) (.slice A n c) 39).below hb)); (have HRX := hidS RX); (have HB2 := hidS (bt (bal w1 (.cells #[.int .i64 R, .int .i64 C, .slice A n c] 39)) hb)); (obtain ⟨zc0, zc1, zlt⟩ := z_cells (HB1.out.trans (HB2.out.mono (by have := HB1.out.size; rw [size_al] at this; exact this)))); (have HLX := hidS RX.lt); clear RX hb)
    | (go_at_call 19; (with_reducible refine (number_any z.1 z.2 _).mono ?_); rintro e wn ⟨rfl, hwn⟩; (have HBn := hidS (show Below (w2.alloc (.cells #[.int .i64 R, .int .i64 C, .slice (some ⟨gx, 0, none⟩) n cx1] 39)).heap.size (w2.alloc (.cells #[.int .i64 R, .int .i64 C, .slice (some ⟨gx, 0, none⟩) n cx1] 39)) wn from (by rw [hwn]; repeat first | exact below_self _ | refine Below.drew ?_ | refine ba ?_ _ | refine below_drewN ?_ _))); (have Vn3 := (v3_new w2 (.int .i64 R) (.int .i64 C) (.slice (some ⟨gx, 0, none⟩) n cx1) 39).below HBn.out); (obtain ⟨n13, n0, n1, n2, _, _, _⟩ := Vn3); clear hwn zc0 zc1 zlt)
    | (go_at_call 20; (with_reducible refine (HO1.out _ _ _ (sl_pre18 (HRX.out.below (bt (bal _ _) HBn.out)) hn (by omega) HX.out)).mono ?_); rintro e w3 ⟨ga, ca, rfl, za, KA, OA, hb⟩; (have HB3 := hidS (bt (bt (bal w2 (.cells #[.int .i64 R, .int .i64 C, .slice (some ⟨gx, 0, none⟩) n cx1] 39)) HBn.out) hb)); (clear n13 n0 n1 n2); (have HKA := hidS KA.out); (have HOA := hidS OA); (have V3m := VM.out.below HB3.out); (obtain ⟨l13, m0, m1, m2, _, _, _⟩ := V3m); clear hb KA OA)
    | (go_at_call 21; (with_reducible refine (HO2.out _ _ _ ((HSA.out.below (bt HB2.out HB3.out)).below (bal _ _))).mono ?_); rintro e w4 ⟨gb, cb, rfl, zb, KB, OB, hb⟩; (have HB4 := hidS (bt (bal w3 (.cells #[.int .i64 R, .int .i64 C, .slice (some ⟨ga, 0, none⟩) n ca] 39)) hb)); (have HKB := hidS KB.out); (have HOB := hidS OB); (have VA := hidS ((v3_new w3 (.int .i64 R) (.int .i64 C) (.slice (some ⟨ga, 0, none⟩) n ca) 39).below hb)); (clear l13 m0 m1 m2); (have V4m := VM.out.below (bt HB3.out HB4.out)); (obtain ⟨l13, m0, m1, m2, _, _, _⟩ := V4m); clear hb KB OB)
    | (go_at_call 22; (with_reducible refine (tkept ((HSA.out.below (bt HB2.out (bt HB3.out HB4.out))).below (bal _ _)) hz1 ((HRX.out.below (bt HB3.out HB4.out)).below (bal _ _))).mono ?_); rintro e w5 ⟨rfl, hb⟩; (have VW := hidS ((v3_new w4 (.int .i64 R) (.int .i64 C) (.slice (some ⟨gb, 0, none⟩) n cb) 39).below hb)); (have HB5 := hidS (bt (bal w4 (.cells #[.int .i64 R, .int .i64 C, .slice (some ⟨gb, 0, none⟩) n cb] 39)) hb)); (clear l13 m0 m1 m2); clear hb)
    | (go_at_call 23; (with_reducible refine (tover (HRX.out.below (bt HB3.out (bt HB4.out HB5.out))) hz6).mono ?_); rintro e w6 ⟨rfl, RX2, ho⟩; (have hgx : gx < wn.heap.size := (by have h1 := HLX.out.2; have h2 := HBn.out.size; rw [size_al] at h2; omega)); (have hgx2 : gx < (w3.alloc (.cells #[.int .i64 R, .int .i64 C, .slice (some ⟨ga, 0, none⟩) n ca] 39)).heap.size := (by rw [size_al]; have := HLX.out.2; have := HB3.out.size; omega)); (have HOA6 := hidS ((HOA.out.below (bt HB4.out HB5.out)).only ho (nown18 HOA.out hgx))); (have HOB6 := hidS ((HOB.out.below HB5.out).only ho (nown18 HOB.out hgx2))); (have VA6 := hidS ((VA.out.below HB5.out).onlyS ho (by have := HLX.out.2; have := HB3.out.size; omega))); (have VW6 := hidS (VW.out.onlyS ho (by have := HLX.out.2; have := HB3.out.size; have := HB4.out.size; omega))); (have HRX2 := hidS RX2); (have HB0 := hidS (show Below w.heap.size w w6 from below_only ((((bal w (.cells #[.int .u64 (z.1 : Int), .int .u64 (z.2 : Int)] 55)).trans (HB1.out.mono (Nat.le_succ _))).trans ((HB2.out.trans ((HB3.out.trans ((HB4.out.trans (HB5.out.mono HB4.out.size)).mono HB3.out.size)).mono HB2.out.size)).mono (by have := HB1.out.size; rw [size_al] at this; omega)))) ho (by have := HLX.out.1; have := HB1.out.size; rw [size_al] at this; rw [size_al] at *; omega))); (obtain ⟨la, a0, a1, a2, _, _, _⟩ := VA6.out); (obtain ⟨lb, b0, b1, b2, _, _, _⟩ := VW6.out); clear RX2 ho hgx hgx2)
    | (go_at_call 12; (with_reducible refine (ksameM R C (rw_lst HOA6.out HKA.out) (rw_lst HOB6.out HKB.out) hs1).mono ?_); rintro e w7 ⟨rfl, hb⟩; (have VA7 := VA6.out.below hb); (clear la a0 a1 a2 lb b0 b1 b2); (obtain ⟨la, a0, a1, a2, _, _, _⟩ := VA7); (have HB7 := hidS hb); (have HLB := hidS (show w.heap.size ≤ (w1.alloc (.cells #[.int .i64 R, .int .i64 C, .slice A n c] 39)).heap.size from (by rw [size_al]; have h1 := HB1.out.size; rw [size_al] at h1; omega))); (have HLC := hidS (show w.heap.size ≤ wn.heap.size from (by have h1 := HLB.out; have h2 := HLX.out.1; have h3 := HLX.out.2; have h4 := HBn.out.size; rw [size_al] at h4; omega))); (have HGA := hidS (HOA6.out.own.lt ga rfl)); (have HAP := hidS (show ∀ g, (Value.slice (some ⟨gx, 0, none⟩) (n + 6) cx1).ownBlock = some g → (Value.slice (some ⟨ga, 0, none⟩) n ca).ownBlock ≠ some g from fun g e e2 => (by have q1 : gx = g := (by simpa [Value.ownBlock] using e); have q2 : ga = g := (by simpa [Value.ownBlock] using e2); have h1 := HGA.out.1; have h3 := HLX.out.2; have h4 := HBn.out.size; rw [size_al] at h4; omega))); (have HG1 := hidS (show ∀ g, (Value.slice (some ⟨ga, 0, none⟩) n ca).ownBlock = some g → w.heap.size ≤ g from fun g e => (by have q2 : ga = g := (by simpa [Value.ownBlock] using e); have h1 := HGA.out.1; have h2 := HLC.out; omega))); (have HG0 := hidS (show ∀ g, (Value.slice (some ⟨gx, 0, none⟩) (n + 6) cx1).ownBlock = some g → w.heap.size ≤ g from fun g e => (by have e2 : gx = g := (by simpa [Value.ownBlock] using e); have h1 := HLX.out.1; have h2 := HLB.out; omega))); (have HSZ := hidS (show w.heap.size ≤ w7.heap.size from Nat.le_trans HB0.out.size HB7.out.size)); clear hb)
    | (go_at_call 15; (refine (kapart_any w.heap.size _ 2 w.heap.size (pk2 (n + 6) n) (pk2 (.slice (some ⟨gx, 0, none⟩) (n + 6) cx1) (.slice (some ⟨ga, 0, none⟩) n ca)) (pk2 (marks 9 (n + 6)) za) _ (by omega) (by omega) (many2 (w := w7) 37 (Nat.le_refl _) (Nat.le_refl _) (rw_base (HRX2.out.below HB7.out) HLB.out) (rw_base (HOA6.out.below HB7.out) HLC.out) HAP.out) (two2 hzz hz1) (two2 HG0.out HG1.out) (by simp; exact Nat.le_succ_of_le HSZ.out) (by simp; exact Nat.le_succ_of_le HSZ.out)).mono ?_); rintro e w8 ⟨rfl, hb⟩))
  all_goals
    go_ret
    exact ⟨rfl, (HB0.out.trans ((HB7.out.alloc HB7.out.size _).mono HB0.out.size)).trans hb⟩
end Go.Proofs.Ytdgjnhboaajonaa
