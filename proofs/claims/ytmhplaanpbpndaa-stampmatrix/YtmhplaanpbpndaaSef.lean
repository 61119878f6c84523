/-
  StampMatrix: all answers in one form; two rows held apart.
-/
import Derived.Test.YtmhplaanpbpndaaSeb
import Derived.Test.YtmhplaanpbpndaaSto
import Derived.Test.YtmhplaanpbpndaaSws
import Derived.Test.YtmhplaanpbpndaaWtb
import Derived.Test.YtmhplaanpbpndaaVrk
import Derived.Test.YtmhplaanpbpndaaBsc
namespace Go.Proofs.Ytmhplaanpbpndaa
open Fl Go.Maps RowKit Joins Deep
set_option linter.unusedVariables false
set_option maxRecDepth 20000

/-- what Matrix tells: the fault, how many rows, the numbers -/
def MRes (g1 g2 : Int) (K : Nat) (R : Nat → Cn) (w : World) (e : Ending) (w' : World) : Prop :=
  ∃ A c, e = .returned (.tuple #[.agg #[.int .i64 (K : Int), .int .i64 (K : Int), .slice A (K * K) c], .agg #[.int .i64 g1, .int .i64 g2]]) ∧ Nr w' w.heap.size (.slice A (K * K) c) (K * K) R ∧ Below w.heap.size w w'
def mxK (N : Ns) (o : Nat) : Nat := if (stA N o).1 = (0, 0) then N.nd.length + N.br.length else 0
theorem mxK_le {N : Ns} (h : Md N) (o : Nat) : mxK N o ≤ 64 := by
  unfold mxK
  split
  · exact h.nb
  · omega
theorem mxp_res {w w' : World} {N : Ns} {o : Nat} {e : Ending} (h : MxP w N o e w') : MRes (stA N o).1.1 (stA N o).1.2 (mxK N o) (mxR (mxK N o) (stA N o).2) w e w' := by
  obtain ⟨hb, ⟨h1, v, he, hN⟩ | ⟨h1, he⟩⟩ := h
  · have hK : mxK N o = N.nd.length + N.br.length := by unfold mxK; rw [if_pos h1]
    rw [hK]
    obtain ⟨A, c, rfl⟩ := hN.sh
    exact ⟨A, c, by rw [he, h1], hN, hb⟩
  · have hK : mxK N o = 0 := by unfold mxK; rw [if_neg (fun q => h1 (by rw [q]))]
    rw [hK]
    exact ⟨none, 0, he, nr_nil _ _ _, hb⟩
theorem smatrix_res {w : World} {nb p : Nat} {N : Ns} {b : Nb} (h : Nt w nb p N b) (hm : Md N) {o : Nat} (ho : o < 18446744073709551616) : Calls Try.prog 8 #[.pointer (some ⟨p, 0, none⟩), .float .f64 o] w (MRes (stA N o).1.1 (stA N o).1.2 (mxK N o) (mxR (mxK N o) (stA N o).2) w) := (smatrix_any h hm ho).mono fun _ _ k => mxp_res k
theorem dmatrix_res {w : World} {p : Nat} {N : Ns} (h : Dn w p N.es) (hm : Md N) {o : Nat} (ho : o < 18446744073709551616) : Calls Try.prog 10 #[.pointer (some ⟨p, 0, none⟩), .float .f64 o] w (MRes (stA N o).1.1 (stA N o).1.2 (mxK N o) (mxR (mxK N o) (stA N o).2) w) := (dmatrix_any h hm ho).mono fun _ _ k => mxp_res k
theorem smatrix_res0 (w : World) (o : Nat) : Calls Try.prog 8 #[.pointer none, .float .f64 o] w (MRes 1 (-1) 0 noC w) := (smatrix_none (none_nil w) o).mono fun _ _ ⟨h1, h2⟩ => ⟨none, 0, h1, nr_nil _ _ _, h2⟩
theorem dmatrix_res0 (w : World) (o : Nat) : Calls Try.prog 10 #[.pointer none, .float .f64 o] w (MRes 1 (-1) 0 noC w) := by
  have HB2 := hidS (((bal w (.cells #[.int .i64 0, .int .i64 0, .slice none 0 0] 39)).alloc (bal w _).size (.cells #[.int .i64 1, .int .i64 (-1)] 29)))
  go_enter Try.func10, Try.ntmps10
  go_wp2_with fail
  (try simp only [Exit.inBlock, Exit.then])
  refine bodyPost_ret (by simp [results, Try.results10, go_sem]; try rfl) rfl ?_
  exact ⟨none, 0, rfl, nr_nil _ _ _, HB2.out⟩
/-- what Names tells -/
def NmP (L : List (List UInt8)) (w : World) (e : Ending) (w' : World) : Prop := ∃ v, e = .returned v ∧ w'.ownsRow w.heap.size 9 1 v L.length (L.map sv) ∧ Below w.heap.size w w'
theorem snames_res0 (w : World) : Calls Try.prog 9 #[.pointer none] w (NmP [] w) := (snames_none (none_nil w)).mono (by rintro e w' ⟨rfl, rfl⟩; exact ⟨_, rfl, World.ownsRow_nil _ _ _ _, Below.refl _ _⟩)
theorem dnodes_nil (w : World) : Calls Try.prog 23 #[.pointer none] w fun e w' => e = .returned (.slice none 0 0) ∧ w' = w := by
  have h := delements_nil w
  go_enter Try.func23, Try.ntmps23
  go_wp2_with (go_at_call 48; (with_reducible refine h.mono ?_); rintro e1 w1 ⟨rfl, hw1⟩; subst w1)
  go_loopw [3, 5] (fun lv iv wr => lv = .slice none 0 0 ∧ iv = .int .i64 0 ∧ wr = w) (fun _ _ _ => 0)
  case atStart => exact ⟨rfl, rfl, rfl⟩
  case round =>
    obtain ⟨rfl, rfl, rfl⟩ := hrel
    go_wp2_with fail
    go_ret
    exact ⟨rfl, rfl⟩
theorem dbranches_nil (w : World) : Calls Try.prog 34 #[.pointer none] w fun e w' => e = .returned (.slice none 0 0) ∧ w' = w := by
  have h := delements_nil w
  go_enter Try.func34, Try.ntmps34
  go_wp2_with (go_at_call 48; (with_reducible refine h.mono ?_); rintro e1 w1 ⟨rfl, hw1⟩; subst w1)
  go_loopw [3, 5] (fun lv iv wr => lv = .slice none 0 0 ∧ iv = .int .i64 0 ∧ wr = w) (fun _ _ _ => 0)
  case atStart => exact ⟨rfl, rfl, rfl⟩
  case round =>
    obtain ⟨rfl, rfl, rfl⟩ := hrel
    go_wp2_with fail
    go_ret
    exact ⟨rfl, rfl⟩
set_option maxHeartbeats 1000000 in
theorem dnames_any {w : World} {p : Nat} {N : Ns} (h : Dn w p N.es) (hm : Md N) : Calls Try.prog 13 #[.pointer (some ⟨p, 0, none⟩)] w fun e w' => ∃ v, e = .returned v ∧ w'.ownsRow w.heap.size 9 1 v (nmR N).length ((nmR N).map sv) ∧ Below w.heap.size w w' := by
  obtain ⟨i0, hi0, hz0, hz1, hz2⟩ := info_parts Try.infoS
  have HNT := hidS h
  have HM := hidS hm
  have hlen : (nmR N).length = N.nd.length + N.br.length := by unfold nmR; rw [List.length_append]
  have hmap : (nmR N).map sv = N.nd.map sv ++ N.br.map sv := by unfold nmR; rw [List.map_append]
  rw [hlen, hmap]
  have hmb : N.nd.length + N.br.length ≤ 64 := hm.nb
  clear h hm hlen hmap
  go_enter Try.func13, Try.ntmps13
  go_wp2_with fail
  refine (dnodes HNT.out).mono ?_
  rintro e1 w1 ⟨v1, rfl, ho1, hb1⟩
  rw [← HM.out.ndR] at ho1
  have HO1 := hidS (And.intro ho1 hb1)
  clear ho1 hb1
  go_wp2_with fail
  refine (dbranches (HNT.out.below HO1.out.2)).mono ?_
  rintro e2 w2 ⟨v2, rfl, ho2, hb2⟩
  rw [← HM.out.brR] at ho2
  have hr1 : w2.ownsRow w.heap.size 9 1 v1 N.nd.length (N.nd.map sv) := own_below HO1.out.1 hb2
  have HR1 := hidS hr1
  have HB2 := hidS (HO1.out.2.trans (hb2.mono HO1.out.2.size))
  obtain ⟨d, hd⟩ : ∃ d, N.nd.length = d := ⟨_, rfl⟩
  obtain ⟨r, hr⟩ : ∃ r, N.br.length = r := ⟨_, rfl⟩
  have HDR := hidS (And.intro hd hr)
  rw [hd, hr] at hmb
  rw [hd] at HR1
  rw [hr] at ho2
  clear hb2 hd hr1
  by_cases h0 : v2 = .slice none 0 0
  · subst h0
    have hr0 : r = 0 := by
      obtain ⟨_, ⟨_, h1⟩ | ⟨g, cap, cur, h1, _⟩⟩ := ho2
      · exact h1
      · cases h1
    subst hr0
    have hbr : N.br = [] := List.length_eq_zero_iff.1 hr
    clear hr ho2
    go_wp2_with (at_builtin; refine wpList_append_own_none (by rfl) _ _ 42 (by rfl) w.heap.size 9 i0 1 Try.underlying42 hi0 _ _ _ (by rfl) HR1.out (by rfl) ?_)
    go_ret
    refine ⟨v1, rfl, ?_, HB2.out⟩
    rw [HDR.out.1, HDR.out.2, hbr]
    simpa using HR1.out
  · obtain ⟨g, cap, rfl, HC⟩ : ∃ g cap, v2 = .slice (some ⟨g, 0, none⟩) r cap ∧ Hid (∀ j u, (N.br.map sv)[j]? = some u → w2.cell? ⟨g, j, none⟩ = some u) := by
      have h3 := ho2
      obtain ⟨hxl, ⟨h1, _⟩ | ⟨g, cap, cur, h1, _⟩⟩ := ho2
      · exact absurd h1 h0
      · subst h1
        exact ⟨g, cap, rfl, fun j u hj => by
          rw [h3.cellAt j (by have := (List.getElem?_eq_some_iff.1 hj).1; rw [List.length_map, hr] at this; omega)]; exact hj⟩
    have HRL := hidS hr
    clear h0 ho2 hr
    go_wp2_with (at_builtin; refine wpList_append_own _ (by rfl) _ _ 42 (by rfl) w.heap.size 9 i0 (.string ByteArray.empty) 1 16 Try.underlying42 hi0 hz0 hz1 hz2 (by rfl) (by decide) _ _ _ (by rfl) HR1.out ⟨g, 0, none⟩ r cap (N.br.map sv) (by rfl) (by simp [HRL.out]) ?qc2 ?qc3 (by unfold maxLen; omega) (by omega) HB2.out.size ?_)
    case qc2 =>
      intro j u hj
      rw [Addr.add_lit]
      have := HC.out j u hj
      simp only [Nat.zero_add]
      exact this
    case qc3 =>
      intro u hu
      obtain ⟨x, _, rfl⟩ := List.mem_map.1 hu
      rfl
    intro v4 w4 hown4 hgrow4 hnil4
    have HE := hidS (And.intro hown4 (HB2.out.trans ⟨hgrow4.os, hgrow4.tape, hgrow4.output, hgrow4.size, fun q hq => hgrow4.block q (Nat.lt_of_lt_of_le hq HB2.out.size) (fun e => by have := (HR1.out.lt q e.symm).1; omega)⟩))
    clear hown4 hgrow4 hnil4
    go_wp2_with fail
    go_ret
    refine ⟨v4, rfl, ?_, HE.out.2⟩
    rw [HDR.out.1, HDR.out.2]
    exact HE.out.1
theorem dnames_res0 (w : World) : Calls Try.prog 13 #[.pointer none] w (NmP [] w) := by
  obtain ⟨i0, hi0, hz0, hz1, hz2⟩ := info_parts Try.infoS
  have H1 := hidS (dnodes_nil w)
  have H2 := hidS (dbranches_nil w)
  have HN := hidS (World.ownsRow_nil w w.heap.size 9 1)
  go_enter Try.func13, Try.ntmps13
  go_wp2_with (first
    | (go_at_call 23; (with_reducible refine H1.out.mono ?_); rintro e v ⟨rfl, hv⟩; subst v)
    | (go_at_call 34; (with_reducible refine H2.out.mono ?_); rintro e v ⟨rfl, hv⟩; subst v)
    | (at_builtin; refine wpList_append_own_none (by rfl) _ _ 42 (by rfl) w.heap.size 9 i0 1 Try.underlying42 hi0 _ _ _ (by rfl) HN.out (by rfl) ?_))
  go_ret
  exact ⟨_, rfl, World.ownsRow_nil _ _ _ _, Below.refl _ _⟩
theorem snames_res {w : World} {nb p : Nat} {N : Ns} {b : Nb} (h : Nt w nb p N b) (hm : Md N) : Calls Try.prog 9 #[.pointer (some ⟨p, 0, none⟩)] w (NmP (nmR N) w) := snames_any h hm
theorem dnames_res {w : World} {p : Nat} {N : Ns} (h : Dn w p N.es) (hm : Md N) : Calls Try.prog 13 #[.pointer (some ⟨p, 0, none⟩)] w (NmP (nmR N) w) := dnames_any h hm
theorem nmR_le {N : Ns} (h : Md N) : (nmR N).length ≤ 64 := by unfold nmR; rw [List.length_append]; exact h.nb
theorem mx_same {w : World} {b b' K c c' : Nat} {A A' : Option Addr} {R : Nat → Cn} (h : Nr w b (.slice A (K * K) c) (K * K) R) (k : Nr w b' (.slice A' (K * K) c') (K * K) R) (hK : K ≤ 64) : Calls Try.prog 11 #[.agg #[.int .i64 (K : Int), .int .i64 (K : Int), .slice A (K * K) c], .agg #[.int .i64 (K : Int), .int .i64 (K : Int), .slice A' (K * K) c']] w fun e w' => e = .returned (.bool true) ∧ Below w.heap.size w w' := by
  obtain ⟨xs, h1⟩ := h.lst
  obtain ⟨ys, h2⟩ := k.lst
  exact ksameM _ _ h1 h2 (by have := Nat.mul_le_mul hK hK; omega)
def pk2 {α : Type} (a b : α) (j : Nat) : α := if j = 0 then a else b
theorem two2 {P : Nat → Prop} (h0 : P 0) (h1 : P 1) : ∀ j, j < 2 → P j := by
  intro j hj
  rcases (by omega : j = 0 ∨ j = 1) with rfl | rfl
  · exact h0
  · exact h1
/-- what is none of two rows, and was there -/
def No2 (w : World) (v0 v1 : Value) (q : Nat) : Prop := q < w.heap.size ∧ v0.ownBlock ≠ some q ∧ v1.ownBlock ≠ some q
theorem apart2k {w : World} {b0 n0 n1 : Nat} {v0 v1 : Value} {R0 R1 : Nat → Cn} {t : TypeId} {LB : Nat} (hLB : w.heap.size = LB) (r0 : Nr w b0 v0 n0 R0) (r1 : Nr w b0 v1 n1 R1) (h0 : n0 ≤ 100000) (h1 : n1 ≤ 100000)
    (a01 : ∀ g, v0.ownBlock = some g → v1.ownBlock ≠ some g) (hb : b0 ≤ w.heap.size) :
    Calls Try.prog 14 #[.slice (some ⟨LB, 0, none⟩) 2 2] (w.alloc (.cells #[v0, v1] t)) fun e w' => e = .returned (.bool true) ∧ Kf (No2 w v0 v1) (w.alloc (.cells #[v0, v1] t)) w' := by
  subst hLB
  obtain ⟨l0, r0, _⟩ := r0
  obtain ⟨l1, r1, _⟩ := r1
  have hM : Many b0 w.heap.size 2 (pk2 n0 n1) (pk2 v0 v1) (pk2 l0 l1) (w.alloc (.cells #[v0, v1] t)) := by
    refine many_of _ t (two2 rfl rfl) (two2 r0 r1) ?_
    intro j k hjk hk g hg e
    obtain ⟨rfl, rfl⟩ : j = 0 ∧ k = 1 := by omega
    exact a01 g hg e
  refine kapart_kept b0 w.heap.size 2 (No2 w v0 v1) _ _ _ _ (by omega) (by omega) hM (two2 (by show n0 * 16 + 96 ≤ _; omega) (by show n1 * 16 + 96 ≤ _; omega)) ?_ (fun k h => by rw [size_al]; have := h.1; omega) (by rw [size_al]; omega)
  exact two2 (fun g hg h => h.2.1 hg) (fun g hg h => h.2.2 hg)
theorem apart2t {w : World} {b0 : Nat} {v0 v1 : Value} {L0 L1 : List (List UInt8)} {t : TypeId} {LB : Nat} (hLB : w.heap.size = LB) (r0 : w.ownsRow b0 9 1 v0 L0.length (L0.map sv)) (r1 : w.ownsRow b0 9 1 v1 L1.length (L1.map sv)) (h0 : L0.length ≤ 100000) (h1 : L1.length ≤ 100000)
    (a01 : ∀ g, v0.ownBlock = some g → v1.ownBlock ≠ some g) (hb : b0 ≤ w.heap.size) :
    Calls Try.prog 15 #[.slice (some ⟨LB, 0, none⟩) 2 2] (w.alloc (.cells #[v0, v1] t)) fun e w' => e = .returned (.bool true) ∧ Below b0 (w.alloc (.cells #[v0, v1] t)) w' := by
  subst hLB
  have hM : Tx.Many b0 w.heap.size 2 (pk2 L0.length L1.length) (pk2 v0 v1) (pk2 L0 L1) (w.alloc (.cells #[v0, v1] t)) := by
    refine ⟨fun j hj => ?_, two2 (r0.alloc _) (r1.alloc _), two2 rfl rfl, ?_, ?_, by rw [size_al]; omega⟩
    · rw [al_at w _ t _ j rfl]
      revert j
      exact two2 rfl rfl
    · intro j k hj hk hne g hg e
      rcases (by omega : (j = 0 ∧ k = 1) ∨ (j = 1 ∧ k = 0)) with ⟨rfl, rfl⟩ | ⟨rfl, rfl⟩
      · exact a01 g hg e
      · exact a01 g e hg
    · exact two2 (fun e => by have := (r0.lt _ e).2; omega) (fun e => by have := (r1.lt _ e).2; omega)
  refine Tx.kapart_any b0 w.heap.size 2 b0 _ _ _ _ (by omega) (by omega) hM (two2 (by show L0.length * 16 + 96 ≤ _; omega) (by show L1.length * 16 + 96 ≤ _; omega)) ?_ (by rw [size_al]; omega) (by rw [size_al]; omega)
  exact two2 (fun g hg => own_ge r0 hg) (fun g hg => own_ge r1 hg)
end Go.Proofs.Ytmhplaanpbpndaa
