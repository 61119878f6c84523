/-
  Several texts in one: Nna Nnb Nnc Nnd Nne.
-/
import Derived.Test.YtjoncbfaajcioaaGreatDoorNpv
import Derived.Deep.RegionLaw
import Derived.Deep.RegionWith
import Derived.Deep.Cut
import Derived.Deep.DeepCutAuto
namespace Go.Proofs.YtjoncbfaajcioaaGreatDoor
open Go.Maps Go.RowKit Joins Deep
set_option linter.unusedVariables false
set_option maxRecDepth 100000

theorem same_vv (v : Nat) (hv : v < 18446744073709551616) (w : World) : Calls Tryz.prog 41 #[.float .f64 v, .float .f64 v] w fun e w' => e = .returned (.bool true) ∧ w' = w := by
  go_enter Tryz.func41, Tryz.ntmps41
  go_wp2
  go_ret
  exact ⟨rfl, rfl⟩
theorem same_xx (x : Elm) (hx : x.ok) (w : World) : Calls Tryz.prog 23 #[.agg #[.int .u8 (x.k : Int), .string x.n, .string x.a, .string x.b, .string x.c, .string x.d, .float .f64 x.v, .int .i64 x.ph], .agg #[.int .u8 (x.k : Int), .string x.n, .string x.a, .string x.b, .string x.c, .string x.d, .float .f64 x.v, .int .i64 x.ph]] w fun e w' => e = .returned (.bool true) ∧ Below w.heap.size w w' := by
  have HS : Hid (∀ W, Calls Tryz.prog 41 #[.float .f64 x.v, .float .f64 x.v] W fun e w' => e = .returned (.bool true) ∧ w' = W) := same_vv x.v hx.v
  clear hx
  obtain ⟨k, n, a, b, c, d, v, ph⟩ := x
  simp only at HS ⊢
  have HB : Hid (Below w.heap.size w ((w.alloc (.cells #[.int .u8 (k : Int), .string n, .string a, .string b, .string c, .string d, .float .f64 v, .int .i64 ph] 31)).alloc (.cells #[.int .u8 (k : Int), .string n, .string a, .string b, .string c, .string d, .float .f64 v, .int .i64 ph] 31))) := ((Below.refl _ _).alloc (Nat.le_refl _) _).alloc (by simp) _
  obtain ⟨wa, hwa⟩ : ∃ wa, (w.alloc (.cells #[.int .u8 (k : Int), .string n, .string a, .string b, .string c, .string d, .float .f64 v, .int .i64 ph] 31)).alloc (.cells #[.int .u8 (k : Int), .string n, .string a, .string b, .string c, .string d, .float .f64 v, .int .i64 ph] 31) = wa := ⟨_, rfl⟩
  have h0 : wa.heap[w.heap.size]? = some (.cells #[.int .u8 (k : Int), .string n, .string a, .string b, .string c, .string d, .float .f64 v, .int .i64 ph] 31 (0, 0)) := by rw [← hwa, Below.heap_alloc _ _ _ (by simp)]; exact heap_alloc_new _ _
  have h1 : wa.heap[w.heap.size + 1]? = some (.cells #[.int .u8 (k : Int), .string n, .string a, .string b, .string c, .string d, .float .f64 v, .int .i64 ph] 31 (0, 0)) := by
    rw [← hwa]
    have := heap_alloc_new (w.alloc (.cells #[.int .u8 (k : Int), .string n, .string a, .string b, .string c, .string d, .float .f64 v, .int .i64 ph] 31)) (.cells #[.int .u8 (k : Int), .string n, .string a, .string b, .string c, .string d, .float .f64 v, .int .i64 ph] 31)
    simpa using this
  obtain ⟨c0, c1, c2, c3, c4, c5, c6, c7⟩ := (eight h0).1
  obtain ⟨d0, d1, d2, d3, d4, d5, d6, d7⟩ := (eight h1).1
  rw [hwa] at HB
  clear h0 h1
  go_enter Tryz.func23, Tryz.ntmps23
  go_wp2_with (first
    | (go_at_call 41; (with_reducible refine (HS.out _).mono ?_); rintro e1 w1 ⟨rfl, hw1⟩; subst w1))
  go_ret
  exact ⟨rfl, HB.out⟩
theorem E8.belS {w w' : World} {b o : Nat} {x : Elm} (h : E8 w b o x) (hb : Below w.heap.size w w') : E8 w' b o x := h.bel h.lt hb
set_option maxHeartbeats 4000000 in
theorem sameEs_any (w : World) (v v' : Value) (l : List Elm) (hv : RdE w v l) (hv' : RdE w v' l) (hok : ∀ x ∈ l, x.ok) (hl : l.length ≤ 1000000) : Calls Tryz.prog 9 #[v, v'] w fun e w' => e = .returned (.bool true) ∧ Below w.heap.size w w' := by
  obtain ⟨-, A, c, rfl, hA⟩ := hv
  obtain ⟨-, A', c', rfl, hA'⟩ := hv'
  obtain ⟨n, hn⟩ : ∃ n, l.length = n := ⟨_, rfl⟩
  have HN : Hid (l.length = n) := hn
  have HA : Hid _ := hA
  have HA' : Hid _ := hA'
  have HOK : Hid (∀ x ∈ l, x.ok) := hok
  rw [hn] at hl ⊢
  have hnn : ((n : Int) != (n : Int)) = false := by simp
  clear hn hA hA' hok
  go_enter Tryz.func9, Tryz.ntmps9
  go_wp2_with fail
  go_loopw [5] (fun iv wr => ∃ (i : Nat), i ≤ n ∧ iv = .int .i64 i ∧ Hid (Below w.heap.size w wr)) (fun iv _ => n - (intOf iv).toNat)
  case atStart => exact ⟨0, Nat.zero_le _, rfl, Below.refl _ _⟩
  case round =>
    obtain ⟨i, hle, rfl, HB⟩ := hrel
    by_cases hp4 : i < n
    · have hpi : (i : Int) < (n : Int) := by omega
      obtain ⟨x, hx⟩ : ∃ x, l[i]? = some x := ⟨_, List.getElem?_eq_getElem (by have := HN.out; omega)⟩
      obtain ⟨b, rfl, hb⟩ := HA.out.resolve_left (by intro e; rw [e] at hx; cases hx)
      obtain ⟨b', rfl, hb'⟩ := HA'.out.resolve_left (by intro e; rw [e] at hx; cases hx)
      have k1 := (hb i x hx).belS HB.out
      have k2 := (hb' i x hx).belS HB.out
      have HS : Hid _ := same_xx x (HOK.out x (List.mem_of_getElem? hx))
      have K1 : Hid (E8 wr b (i * 8) x) := k1
      have K2 : Hid (E8 wr b' (i * 8) x) := k2
      obtain ⟨c0, c1, c2, c3, c4, c5, c6, c7⟩ := k1
      obtain ⟨d0, d1, d2, d3, d4, d5, d6, d7⟩ := k2
      clear hb hb' hx
      go_wp2_with fail
      go_region_held_law (fun W => (W.cell? ⟨b, i * 8, none⟩ = some (.int .u8 (x.k : Int)) ∧ W.cell? ⟨b, i * 8 + 1, none⟩ = some (.string x.n) ∧ W.cell? ⟨b, i * 8 + 2, none⟩ = some (.string x.a) ∧ W.cell? ⟨b, i * 8 + 3, none⟩ = some (.string x.b) ∧ W.cell? ⟨b, i * 8 + 4, none⟩ = some (.string x.c) ∧ W.cell? ⟨b, i * 8 + 5, none⟩ = some (.string x.d) ∧ W.cell? ⟨b, i * 8 + 6, none⟩ = some (.float .f64 x.v) ∧ W.cell? ⟨b, i * 8 + 7, none⟩ = some (.int .i64 x.ph)) ∧ W.cell? ⟨b', i * 8, none⟩ = some (.int .u8 (x.k : Int)) ∧ W.cell? ⟨b', i * 8 + 1, none⟩ = some (.string x.n) ∧ W.cell? ⟨b', i * 8 + 2, none⟩ = some (.string x.a) ∧ W.cell? ⟨b', i * 8 + 3, none⟩ = some (.string x.b) ∧ W.cell? ⟨b', i * 8 + 4, none⟩ = some (.string x.c) ∧ W.cell? ⟨b', i * 8 + 5, none⟩ = some (.string x.d) ∧ W.cell? ⟨b', i * 8 + 6, none⟩ = some (.float .f64 x.v) ∧ W.cell? ⟨b', i * 8 + 7, none⟩ = some (.int .i64 x.ph)) (first | exact ⟨⟨c0, c1, c2, c3, c4, c5, c6, c7⟩, d0, d1, d2, d3, d4, d5, d6, d7⟩ | exact ⟨⟨e0, e1, e2, e3, e4, e5, e6, e7⟩, f0, f1, f2, f3, f4, f5, f6, f7⟩ | go_keep) (first | (go_at_call 23; (with_reducible refine (HS.out _).mono ?_); rintro e w1 ⟨rfl, hb1⟩; (have hb2 : Below wr.heap.size wr w1 := ⟨hb1.os, hb1.tape, hb1.output, hb1.size, hb1.block⟩); (obtain ⟨e0, e1, e2, e3, e4, e5, e6, e7⟩ := K1.out.belS hb2); (obtain ⟨f0, f1, f2, f3, f4, f5, f6, f7⟩ := K2.out.belS hb2)))
      have HB1 : Hid (Below w.heap.size w w1) := HB.out.trans (hb2.mono HB.out.size)
      clear hb1 hb2 e0 e1 e2 e3 e4 e5 e6 e7 f0 f1 f2 f3 f4 f5 f6 f7
      go_wp2_with fail
      go_roundw
      case rel => exact ⟨i + 1, by omega, by go_num, HB1⟩
      case measure => simp [intOf]; omega
    · have hin : i = n := by omega
      subst hin
      have hnl : ¬ ((i : Int) < (i : Int)) := by omega
      go_wp2_with fail
      go_ret
      exact ⟨rfl, HB.out⟩
end Go.Proofs.YtjoncbfaajcioaaGreatDoor

namespace Go.Proofs.YtjoncbfaajcioaaGreatDoor
open Go.Maps Go.RowKit Joins Deep
set_option linter.unusedVariables false
set_option maxRecDepth 100000

theorem place_made {w : World} {base p : Nat} {N : Ns} {b : Nb} (h : Nt w base p N b) (s : ByteArray) (hs : s.size ≤ 100000) : Calls Tryz.prog 7 #[.pointer (some ⟨p, 0, none⟩), .string s] w fun e w' => e = .returned (.tuple #[.int .i64 (posL N.nd (bl s)), .bool (decide (bl s ∈ N.nd))]) ∧ w' = w := by
  have c2 := h.nm.c1
  have hpl := place_s w p 3 b.B4 N.nd s hs h.nd.c1 h.nd.mp
  go_enter Tryz.func7, Tryz.ntmps7
  go_wp2_with (first | (go_at_call 29; (with_reducible refine (made_yes c2).mono ?_); rintro e1 w1 ⟨rfl, hw1⟩; subst w1) | (go_at_call 30; (with_reducible refine hpl.mono ?_); rintro e2 w2 ⟨rfl, hw2⟩; subst w2))
  go_ret2
  exact ⟨rfl, rfl⟩
theorem branch_made {w : World} {base p : Nat} {N : Ns} {b : Nb} (h : Nt w base p N b) (s : ByteArray) (hs : s.size ≤ 100000) : Calls Tryz.prog 8 #[.pointer (some ⟨p, 0, none⟩), .string s] w fun e w' => e = .returned (.tuple #[.int .i64 (posL N.br (bl s)), .bool (decide (bl s ∈ N.br))]) ∧ w' = w := by
  have c2 := h.nm.c1
  have hpl := place_s w p 5 b.B6 N.br s hs h.br.c1 h.br.mp
  go_enter Tryz.func8, Tryz.ntmps8
  go_wp2_with (first | (go_at_call 29; (with_reducible refine (made_yes c2).mono ?_); rintro e1 w1 ⟨rfl, hw1⟩; subst w1) | (go_at_call 30; (with_reducible refine hpl.mono ?_); rintro e2 w2 ⟨rfl, hw2⟩; subst w2))
  go_ret2
  exact ⟨rfl, rfl⟩
theorem branches_made {w : World} {base p : Nat} {N : Ns} {b : Nb} (h : Nt w base p N b) (hn : N.br.length ≤ 1000000) : Calls Tryz.prog 12 #[.pointer (some ⟨p, 0, none⟩)] w fun e w' => ∃ v', e = .returned v' ∧ w'.ownsRow w.heap.size 9 1 v' N.br.length (N.br.map sv) ∧ Below w.heap.size w w' := by
  have c2 := h.nm.c1
  have c5 := h.br.c0
  have hcl := clone_s w base b.v5 N.br h.br.row hn
  go_enter Tryz.func12, Tryz.ntmps12
  go_wp2_with (first | (go_at_call 29; (with_reducible refine (made_yes c2).mono ?_); rintro e1 w1 ⟨rfl, hw1⟩; subst w1) | (go_at_call 32; (with_reducible refine hcl.mono ?_); rintro e2 w2 ⟨v2, rfl, ho2, hb2⟩))
  go_ret
  exact ⟨v2, rfl, ho2, hb2⟩
theorem without_there {w : World} {base p : Nat} {N : Ns} {b : Nb} (h : Nt w base p N b) (s : ByteArray) (hs : s.size ≤ 100000) (hn : bl s ∉ N.nm) : Calls Tryz.prog 14 #[.pointer (some ⟨p, 0, none⟩), .string s] w fun e w' => e = .returned (.tuple #[.pointer none, .int .i64 10]) ∧ w' = w := by
  have c2 := h.nm.c1
  have hpl := place_s w p 1 b.B2 N.nm s hs c2 h.nm.mp
  rw [show decide (bl s ∈ N.nm) = false from decide_eq_false hn] at hpl
  go_enter Tryz.func14, Tryz.ntmps14
  go_wp2_with (first | (go_at_call 29; (with_reducible refine (made_yes c2).mono ?_); rintro e1 w1 ⟨rfl, hw1⟩; subst w1) | (go_at_call 30; (with_reducible refine hpl.mono ?_); rintro e2 w2 ⟨rfl, hw2⟩; subst w2))
  go_ret2
  exact ⟨rfl, rfl⟩
/-- what Of answers, in one form -/
def OfU (w : World) (l : List Elm) (e : Ending) (w' : World) : Prop :=
  ∃ P : Option Addr, e = .returned (.tuple #[.pointer P, .agg #[.int .i64 (ofA l).1.1, .int .i64 (ofA l).1.2]]) ∧ Hid (Below w.heap.size w w' ∧ ((ofA l).1 = (0, 0) ∧ (∃ base p b, P = some ⟨p, 0, none⟩ ∧ Nt w' base p (ofA l).2 b ∧ w.heap.size ≤ p ∧ (ofA l).2.fits l.length) ∨ (ofA l).1.1 ≠ 0 ∧ P = none))
theorem ofU_of {w : World} {l : List Elm} {e : Ending} {w' : World} (h : OfP w l e w') : OfU w l e w' := by
  obtain ⟨hb, ⟨h1, base, p, b, rfl, h2, h3, h4⟩ | ⟨h1, rfl⟩⟩ := h
  · exact ⟨_, by rw [h1], hb, .inl ⟨h1, base, p, b, rfl, h2, h3, h4⟩⟩
  · exact ⟨none, rfl, hb, .inr ⟨h1, rfl⟩⟩
theorem heap_dr (W : World) : W.drew.heap = W.heap := rfl
theorem below_any {w w' : World} (h : Below w.heap.size w w') : Below w.heap.size w w' := h
set_option maxHeartbeats 4000000 in
theorem with_made {w : World} {base p : Nat} {N : Ns} {b : Nb} (h : Nt w base p N b) (x : Elm) (hx : x.ok) (hes : ∀ y ∈ N.es, y.ok) (hn : N.es.length ≤ 1000) : Calls Tryz.prog 15 #[.pointer (some ⟨p, 0, none⟩), .agg #[.int .u8 (x.k : Int), .string x.n, .string x.a, .string x.b, .string x.c, .string x.d, .float .f64 x.v, .int .i64 x.ph]] w (OfU w (N.es ++ [x])) := by
  obtain ⟨i0, hi0, hz0, hz1, hz2⟩ := info_parts Tryz.infoE
  have c2 := h.nm.c1
  have hlt : p < w.heap.size := World.block_lt_of_cell? w _ c2
  have HEL : Hid (∀ W, Below w.heap.size w W → Calls Tryz.prog 10 #[.pointer (some ⟨p, 0, none⟩)] W fun e w' => ∃ A c, e = .returned (.slice A N.es.length c) ∧ Hid (w'.ownsRow W.heap.size 31 8 (.slice A N.es.length c) N.es.length (elCs N.es) ∧ Below W.heap.size W w')) := fun W hW => (elements_made (h.below hW) (by omega)).mono (by
    rintro e w' ⟨v', rfl, ho, hb⟩
    obtain ⟨A, c, rfl⟩ := orow_slice ho
    exact ⟨A, c, rfl, ho, hb⟩)
  have HOF : Hid (∀ (W : World) (bs n : Nat) (v : Value), N.es.length + 1 = n → W.ownsRow bs 31 8 v n (elCs N.es ++ elC x) → Calls Tryz.prog 16 #[v] W (OfU W (N.es ++ [x]))) := fun W bs n v hnn hr => (ofl_row W bs n v (N.es ++ [x]) (by simp; omega) (by omega) (by rw [elCs_snoc]; exact hr) (fun y hy => by
    rcases List.mem_append.1 hy with q | q
    · exact hes y q
    · simp at q; rw [q]; exact hx)).mono fun e w' h => ofU_of h
  obtain ⟨n, hnn⟩ : ∃ n, N.es.length = n := ⟨_, rfl⟩
  rw [hnn] at HEL HOF hn
  obtain ⟨wb, hwb⟩ : ∃ wb, (w.alloc (.cells #[.int .u8 (x.k : Int), .string x.n, .string x.a, .string x.b, .string x.c, .string x.d, .float .f64 x.v, .int .i64 x.ph] 31)).alloc (.cells #[.int .i64 0, .int .i64 0] 25) = wb := ⟨_, rfl⟩
  have hs : wb.heap.size = w.heap.size + 1 + 1 := by rw [← hwb]; simp
  have hbx : wb.heap[w.heap.size]? = some (.cells (elA x) 31 (0, 0)) := by rw [← hwb, Below.heap_alloc _ _ _ (by simp)]; exact heap_alloc_new _ _
  have hbf : wb.heap[w.heap.size + 1]? = some (.cells #[.int .i64 0, .int .i64 0] 25 (0, 0)) := by
    rw [← hwb]
    have := heap_alloc_new (w.alloc (.cells #[.int .u8 (x.k : Int), .string x.n, .string x.a, .string x.b, .string x.c, .string x.d, .float .f64 x.v, .int .i64 x.ph] 31)) (.cells #[.int .i64 0, .int .i64 0] 25)
    simpa using this
  have HBw : Hid (Below w.heap.size w wb) := by rw [← hwb]; exact ((Below.refl _ _).alloc (Nat.le_refl _) _).alloc (by simp) _
  have HX : Hid (wb.heap[w.heap.size]? = some (.cells (elA x) 31 (0, 0))) := hbx
  have HF : Hid (wb.heap[w.heap.size + 1]? = some (.cells #[.int .i64 0, .int .i64 0] 25 (0, 0))) := hbf
  have c2b : wb.cell? ⟨p, 2, none⟩ = some (.map (some b.B2)) := (HBw.out.cell (p := ⟨p, 2, none⟩) hlt).trans c2
  obtain ⟨d0, d1, d2, d3, d4, d5, d6, d7⟩ := (eight hbx).1
  obtain ⟨g0, g1, g2, g3⟩ := tw_c hbf
  clear hbx hbf c2 h hx hes
  go_enter Tryz.func15, Tryz.ntmps15
  go_wp2_with (first | (go_at_call 29; (with_reducible refine (made_yes c2b).mono ?_); rintro e1 w1 ⟨rfl, hw1⟩; subst w1))
  go_region_held_law (fun W => W.cell? ⟨w.heap.size, 0, none⟩ = some (.int .u8 (x.k : Int)) ∧ W.cell? ⟨w.heap.size, 1, none⟩ = some (.string x.n) ∧ W.cell? ⟨w.heap.size, 2, none⟩ = some (.string x.a) ∧ W.cell? ⟨w.heap.size, 3, none⟩ = some (.string x.b) ∧ W.cell? ⟨w.heap.size, 4, none⟩ = some (.string x.c) ∧ W.cell? ⟨w.heap.size, 5, none⟩ = some (.string x.d) ∧ W.cell? ⟨w.heap.size, 6, none⟩ = some (.float .f64 x.v) ∧ W.cell? ⟨w.heap.size, 7, none⟩ = some (.int .i64 x.ph)) (first | exact ⟨d0, d1, d2, d3, d4, d5, d6, d7⟩ | exact ⟨e0, e1, e2, e3, e4, e5, e6, e7⟩ | exact ⟨f0, f1, f2, f3, f4, f5, f6, f7⟩ | exact ⟨p0, p1, p2, p3, p4, p5, p6, p7⟩ | go_keep)
    (first
      | (go_at_call 10; go_loud ((with_reducible refine (HEL.out _ (by repeat first | with_reducible exact HBw.out | with_reducible refine Below.drew ?_ | (refine Below.alloc ?_ (by first | omega | (simp; omega)) _))).mono ?_); rintro e w1 ⟨A, c, rfl, h1⟩; (have hxe : w1.heap[w.heap.size]? = some (.cells (elA x) 31 (0, 0)) := (by rw [h1.out.2.block _ (by simp; omega)]; first | exact HX.out | (rw [heap_dr, Below.heap_alloc _ _ _ (by omega)]; exact HX.out))); (have hfe : Hid (w1.heap[w.heap.size + 1]? = some (.cells #[.int .i64 0, .int .i64 0] 25 (0, 0))) := (by show _ = _; rw [h1.out.2.block _ (by simp; omega)]; first | exact HF.out | (rw [heap_dr, Below.heap_alloc _ _ _ (by omega)]; exact HF.out))); (obtain ⟨e0, e1, e2, e3, e4, e5, e6, e7⟩ := (eight hxe).1); (have rowE : Hid (w1.ownsRow wb.heap.size 31 8 (.slice A n c) n (elCs N.es)) := ⟨h1.out.1.1, h1.out.1.2.imp id (fun ⟨g, cap, cur, q1, q2, q3⟩ => ⟨g, cap, cur, q1, (by first | exact q2 | (simp at q2; omega)), q3⟩)⟩); (have sw1 : Hid (wb.heap.size ≤ w1.heap.size) := (by show _ ≤ _; have hq := h1.out.2.size; simp at hq; omega)); (have HXE : Hid (w1.heap[w.heap.size]? = some (.cells (elA x) 31 (0, 0))) := hxe); (have BW1 : Hid (Below w.heap.size w w1) := (show Below w.heap.size w w1 from Below.trans (by repeat first | with_reducible exact HBw.out | with_reducible refine Below.drew ?_ | (refine Below.alloc ?_ (by first | omega | (simp; omega)) _)) (h1.out.2.mono (by simp; omega)))); (try (have newsB : Hid (∀ (j : Nat) (u : Value), (elC x)[j]? = some u → w1.cell? ((⟨wb.heap.size, 0, none⟩ : Addr).add j) = some u) := World.news_of_block (w := w1) (fr := (0, 0)) (t := 31) (cs := (elC x).toArray) ((h1.out.2.block _ (by simp)).trans (heap_alloc_new wb _)))); clear h1 hxe))
      | (refine step_append_lies _ (by rfl) _ _ 32 (by rfl) wb.heap.size 31 i0 _ 8 104 Tryz.underlying32 hi0 hz0 hz1 hz2 (by rfl) (by decide) _ _ _ (by rfl) (rowE.out.alloc _) ⟨w1.heap.size, 0, none⟩ 1 1 (elC x) (by rfl) (by rfl) (World.news_of_block (fr := (0, 0)) (t := 31) (cs := (elC x).toArray) (heap_alloc_new _ _)) (fun u hu => by simp [elC] at hu; rcases hu with rfl | rfl | rfl | rfl | rfl | rfl | rfl | rfl <;> rfl) (by decide) (by unfold maxLen; omega) (by omega) (by have := sw1.out; simp; omega) (w1.heap.size + 1) (by simp) ?_; intro g4 cp4 w4 hown4 hgrow4 hat4 hlt4; (have RA : Hid (w4.ownsRow wb.heap.size 31 8 (.slice (some ⟨g4, 0, none⟩) (n + 1) cp4) (n + 1) (elCs N.es ++ elC x)) := hown4); (have hk : ∀ k, k < wb.heap.size → w4.heap[k]? = w1.heap[k]? := fun k hk => (hgrow4.block k (by have := sw1.out; first | omega | (simp; omega)) (fun e => by have := (row_ge rowE.out e.symm).1; omega)).trans (by first | rfl | (rw [Below.heap_alloc _ _ _ (by have := sw1.out; omega)]) | (rw [Below.heap_alloc _ _ _ (by have := sw1.out; simp; omega)]; rfl))); (have kf : Hid (w4.heap[w.heap.size + 1]? = some (.cells #[.int .i64 0, .int .i64 0] 25 (0, 0))) := ((hk _ (by omega)).trans hfe.out)); (have hxf : w4.heap[w.heap.size]? = some (.cells (elA x) 31 (0, 0)) := (hk _ (by omega)).trans HXE.out); (obtain ⟨f0, f1, f2, f3, f4, f5, f6, f7⟩ := (eight hxf).1); (have BW4 : Hid (Below w.heap.size w w4) := (show Below w.heap.size w w4 from ⟨hgrow4.os.trans BW1.out.os, hgrow4.tape.trans BW1.out.tape, hgrow4.output.trans BW1.out.output, (by have h1 := BW1.out.size; have h2 := hgrow4.size; first | omega | (simp at h2; omega)), fun k hq => (hk k (by omega)).trans (BW1.out.block k hq)⟩)); (have KX : Hid (w4.heap[w.heap.size]? = some (.cells (elA x) 31 (0, 0))) := hxf); clear hown4 hgrow4 hat4 hlt4 hk hxf)
      | (refine step_append_lies _ (by rfl) _ _ 32 (by rfl) wb.heap.size 31 i0 _ 8 104 Tryz.underlying32 hi0 hz0 hz1 hz2 (by rfl) (by decide) _ _ _ (by rfl) rowE.out ⟨w.heap.size + 1 + 1, 0, none⟩ 1 1 (elC x) (by rfl) (by rfl) (by rw [← hs]; exact newsB.out) (fun u hu => by simp [elC] at hu; rcases hu with rfl | rfl | rfl | rfl | rfl | rfl | rfl | rfl <;> rfl) (by decide) (by unfold maxLen; omega) (by omega) (by have := sw1.out; first | omega | (simp; omega)) w1.heap.size (by simp) ?_; intro g4 cp4 w4 hown4 hgrow4 hat4 hlt4; (have RA : Hid (w4.ownsRow wb.heap.size 31 8 (.slice (some ⟨g4, 0, none⟩) (n + 1) cp4) (n + 1) (elCs N.es ++ elC x)) := hown4); (have hk : ∀ k, k < wb.heap.size → w4.heap[k]? = w1.heap[k]? := fun k hk => (hgrow4.block k (by have := sw1.out; first | omega | (simp; omega)) (fun e => by have := (row_ge rowE.out e.symm).1; omega)).trans (by first | rfl | (rw [Below.heap_alloc _ _ _ (by have := sw1.out; omega)]) | (rw [Below.heap_alloc _ _ _ (by have := sw1.out; first | omega | (simp; omega))]; rfl))); (have kf : Hid (w4.heap[w.heap.size + 1]? = some (.cells #[.int .i64 0, .int .i64 0] 25 (0, 0))) := ((hk _ (by omega)).trans hfe.out)); (have hxf : w4.heap[w.heap.size]? = some (.cells (elA x) 31 (0, 0)) := (hk _ (by omega)).trans HXE.out); (obtain ⟨f0, f1, f2, f3, f4, f5, f6, f7⟩ := (eight hxf).1); (have BW4 : Hid (Below w.heap.size w w4) := (show Below w.heap.size w w4 from ⟨hgrow4.os.trans BW1.out.os, hgrow4.tape.trans BW1.out.tape, hgrow4.output.trans BW1.out.output, (by have h1 := BW1.out.size; have h2 := hgrow4.size; first | omega | (simp at h2; omega)), fun k hq => (hk k (by omega)).trans (BW1.out.block k hq)⟩)); (have KX : Hid (w4.heap[w.heap.size]? = some (.cells (elA x) 31 (0, 0))) := hxf); clear hown4 hgrow4 hat4 hlt4 hk hxf)
      | (go_at_call 16; ((with_reducible refine (HOF.out _ wb.heap.size (n + 1) _ rfl RA.out).mono ?_); rintro e w5 ⟨P, rfl, h5⟩; (have kf5 : w5.heap[w.heap.size + 1]? = some (.cells #[.int .i64 0, .int .i64 0] 25 (0, 0)) := (by rw [h5.out.1.block _ (by have := (Array.getElem?_eq_some_iff.1 kf.out).1; exact this)]; exact kf.out)); (have kx5 : w5.heap[w.heap.size]? = some (.cells (elA x) 31 (0, 0)) := (by rw [h5.out.1.block _ (by have := (Array.getElem?_eq_some_iff.1 kf.out).1; omega)]; exact KX.out)); (obtain ⟨p0, p1, p2, p3, p4, p5, p6, p7⟩ := (eight kx5).1); (obtain ⟨z0, z1, z2, z3⟩ := tw_c kf5); (have KF5 : Hid _ := kf5); clear kx5 kf5)))
  all_goals
    obtain ⟨y0, y1⟩ := tw_set KF5.out (.int .i64 (ofA (N.es ++ [x])).1.1) (.int .i64 (ofA (N.es ++ [x])).1.2)
    go_wp2_with fail
    (try simp only [Exit.inBlock, Exit.then])
    refine bodyPost_ret (by simp [results, Tryz.results15, go_sem, y0, y1]; try rfl) rfl ?_
    have hf4 : w.heap.size + 1 < w4.heap.size := (Array.getElem?_eq_some_iff.1 kf.out).1
    refine ⟨P, rfl, ?_, ?_⟩
    · exact tw_bel (BW4.out.trans (h5.out.1.mono (by omega))) (by omega) _ _
    · rcases h5.out.2 with ⟨h1, b0, q, b', rfl, h2, h3, h4⟩ | ⟨h1, rfl⟩
      · exact .inl ⟨h1, b0, q, b', rfl, h2.set2 (by omega) KF5.out _ _, by omega, h4⟩
      · exact .inr ⟨h1, rfl⟩
end Go.Proofs.YtjoncbfaajcioaaGreatDoor

namespace Go.Proofs.YtjoncbfaajcioaaGreatDoor
open Go.Maps Go.RowKit Joins Deep
set_option linter.unusedVariables false
set_option maxRecDepth 100000

def rfS0 : ByteArray := ⟨#[88, 49, 32, 97, 32, 98, 32, 49]⟩
theorem rf_er0 : erL 0 (liT rfS0) = (0, 0) := by kernel_rfl
theorem rf_e0 : psE rfS0 = (8, 0) := by decide +kernel
def rfS1 : ByteArray := ⟨#[82, 49, 32, 97, 32, 98]⟩
theorem rf_er1 : erL 0 (liT rfS1) = (0, 0) := by kernel_rfl
theorem rf_e1 : psE rfS1 = (4, 0) := by decide +kernel
def rfS2 : ByteArray := ⟨#[82, 49, 32, 97, 32, 98, 32, 49, 32, 50]⟩
theorem rf_er2 : erL 0 (liT rfS2) = (0, 0) := by kernel_rfl
theorem rf_e2 : psE rfS2 = (4, 0) := by decide +kernel
def rfS3 : ByteArray := ⟨#[73, 49, 32, 97, 32, 98, 32, 49, 32, 48, 51]⟩
theorem rf_er3 : erL 0 (liT rfS3) = (0, 0) := by kernel_rfl
theorem rf_e3 : psE rfS3 = (2, 0) := by decide +kernel
def rfS4 : ByteArray := ⟨#[73, 49, 32, 97, 32, 98, 32, 49, 32, 45, 48]⟩
theorem rf_er4 : erL 0 (liT rfS4) = (0, 0) := by kernel_rfl
theorem rf_e4 : psE rfS4 = (2, 0) := by decide +kernel
def rfS5 : ByteArray := ⟨#[86, 49, 32, 97, 32, 98, 32, 49, 32, 57, 50, 50, 51, 51, 55, 50, 48, 51, 54, 56, 53, 52, 55, 55, 53, 56, 48, 56]⟩
theorem rf_er5 : erL 0 (liT rfS5) = (0, 0) := by kernel_rfl
theorem rf_e5 : psE rfS5 = (2, 0) := by decide +kernel
def rfS6 : ByteArray := ⟨#[10, 82, 49, 32, 97, 32, 97, 32, 49]⟩
theorem rf_er6 : erL 0 (liT rfS6) = (0, 0) := by kernel_rfl
theorem rf_e6 : psE rfS6 = (2, 1) := by decide +kernel
def rfS7 : ByteArray := ⟨#[82, 49, 32, 97, 32, 98, 32, 49, 10, 82, 49, 32, 98, 32, 99, 32, 49]⟩
theorem rf_er7 : erL 0 (liT rfS7) = (0, 0) := by kernel_rfl
theorem rf_e7 : psE rfS7 = (9, 1) := by decide +kernel
def nxS : ByteArray := ⟨#[82, 49, 32, 97, 32, 98, 32, 120]⟩
theorem x_er : erL 0 (liT nxS) = (0, 0) := by kernel_rfl
theorem x_e : ((psE nxS).1 != 0 && (psE nxS).2 == 0) = true := by decide +kernel
def sS : ByteArray := ⟨#[42, 32, 97, 32, 114, 101, 109, 97, 114, 107, 10, 10, 69, 49, 32, 97, 32, 48, 32, 98, 32, 99, 32, 45, 50]⟩
def sE : List Elm := [⟨7, ⟨#[69, 49]⟩, ⟨#[97]⟩, ⟨#[48]⟩, ⟨#[98]⟩, ⟨#[99]⟩, 13835058055282163712, 0⟩]
theorem s_er : erL 0 (liT sS) = (0, 0) := by kernel_rfl
theorem s_a : psA sS = sE := by kernel_rfl
theorem s_e : psE sS = (0, 0) := by decide +kernel
theorem s_n : (ofA sE).2.es = sE := by kernel_rfl
theorem s_1 : (ofA sE).1 = (0, 0) := by kernel_rfl
end Go.Proofs.YtjoncbfaajcioaaGreatDoor

namespace Go.Proofs.YtjoncbfaajcioaaGreatDoor
open Go.Maps Go.RowKit Joins Deep
set_option linter.unusedVariables false
set_option maxRecDepth 100000

theorem parse_bad (s : ByteArray) (e a : Int) (w : World) (hw : Wow w) (hs : s.size ≤ 65536) (he : erL 0 (liT s) = (0, 0)) (hp : psE s = (e, a)) (h0 : e ≠ 0) : Calls Tryz.prog 6 #[.string s] w fun r w' => r = .returned (.tuple #[.pointer none, .agg #[.int .i64 e, .int .i64 a]]) ∧ Below w.heap.size w w' := by
  refine (parse_main s w hs hw he).mono ?_
  rintro r w' ⟨hb, ⟨h1, -⟩ | ⟨h1, rfl⟩⟩
  · rw [hp] at h1; exact absurd (congrArg Prod.fst h1) h0
  · rw [hp]; exact ⟨rfl, hb⟩
theorem refused_any (s : ByteArray) (e a : Int) (w : World) (hw : Wow w) (hs : s.size ≤ 65536) (he : erL 0 (liT s) = (0, 0)) (hp : psE s = (e, a)) (h0 : e ≠ 0) : Calls Tryz.prog 13 #[.string s, .int .i64 e, .int .i64 a] w fun r w' => r = .returned (.bool true) ∧ Below w.heap.size w w' := by
  have HP : Hid (Calls Tryz.prog 6 #[.string s] w fun r w' => r = .returned (.tuple #[.pointer none, .agg #[.int .i64 e, .int .i64 a]]) ∧ Below w.heap.size w w') := parse_bad s e a w hw hs he hp h0
  clear hw hs he hp h0
  go_enter Tryz.func13, Tryz.ntmps13
  go_wp2_with (first
    | (go_at_call 6; (with_reducible refine HP.out.mono ?_); rintro r w1 ⟨rfl, hb⟩))
  go_ret
  exact ⟨rfl, hb.alloc hb.size _⟩
/-- a block of elements reads as a list of them -/
theorem rdE_blk {W : World} {q : Nat} {l : List Elm} (h : W.heap[q]? = some (.cells (elCs l).toArray 31 (0, 0))) (hl : l.length ≤ 1000) : RdE W (.slice (some ⟨q, 0, none⟩) l.length l.length) l := by
  refine ⟨by omega, _, _, rfl, .inr ⟨q, rfl, fun k x hk => ?_⟩⟩
  have hc : ∀ c v, c < 8 → (elC x)[c]? = some v → W.cell? ⟨q, k * 8 + c, none⟩ = some v := fun c v h1 h2 => by
    rw [cell_of_row W q _ _ _ (0, 0) h, List.getElem?_toArray, elCs_get hk h1]; exact h2
  exact ⟨hc 0 _ (by omega) rfl, hc 1 _ (by omega) rfl, hc 2 _ (by omega) rfl, hc 3 _ (by omega) rfl, hc 4 _ (by omega) rfl, hc 5 _ (by omega) rfl, hc 6 _ (by omega) rfl, hc 7 _ (by omega) rfl⟩
/-- all that the walk carries: the example's net at p, the wanted elements at q, the fault at f -/
structure Nk (w W : World) (base p : Nat) (b : Nb) (q : Nat) : Prop where
  nt : Nt W base p exN b
  wow : Wow W
  bel : Below w.heap.size w W
  wa : W.heap[q]? = some (.cells (elCs exE).toArray 31 (0, 0))
theorem Nk.below {w W W' : World} {base p q : Nat} {b : Nb} (h : Nk w W base p b q) (hb : Below W.heap.size W W') : Nk w W' base p b q :=
  ⟨h.nt.below hb, h.wow.kept hb, h.bel.trans (hb.mono h.bel.size), by rw [hb.block q (Array.getElem?_eq_some_iff.1 h.wa).1]; exact h.wa⟩
theorem Nk.al {w W : World} {base p q : Nat} {b : Nb} (h : Nk w W base p b q) (o : Obj) : Nk w (W.alloc o) base p b q := h.below ((Below.refl _ _).alloc (Nat.le_refl _) o)
/-- a block that is kept -/
theorem blk_kept {W W' : World} {f : Nat} {o : Obj} (h : W.heap[f]? = some o) (hb : Below W.heap.size W W') : W'.heap[f]? = some o := by rw [hb.block f (Array.getElem?_eq_some_iff.1 h).1]; exact h
theorem nk_start {w w1 : World} {base p : Nat} {b : Nb} (hw : Wow w) (hN : Nt w1 base p exN b) (hb : Below w.heap.size w w1) : ∃ W2, (w1.alloc (.cells #[.int .i64 0, .int .i64 0] 25)).alloc (.cells #[.int .u8 1, .string ⟨#[82, 49]⟩, .string ⟨#[97]⟩, .string ⟨#[98]⟩, .string ⟨#[]⟩, .string ⟨#[]⟩, .float .f64 4661889719351640064, .int .i64 0, .int .u8 5, .string ⟨#[86, 49]⟩, .string ⟨#[97]⟩, .string ⟨#[48]⟩, .string ⟨#[]⟩, .string ⟨#[]⟩, .float .f64 4621819117588971520, .int .i64 6, .int .u8 3, .string ⟨#[67, 49]⟩, .string ⟨#[98]⟩, .string ⟨#[48]⟩, .string ⟨#[]⟩, .string ⟨#[]⟩, .float .f64 4502148214488346440, .int .i64 0] 31) = W2 ∧ Hid (Nk w W2 base p b (w1.heap.size + 1) ∧ W2.heap[w1.heap.size]? = some (.cells #[.int .i64 0, .int .i64 0] 25 (0, 0))) := by
  refine ⟨_, rfl, ⟨?_, ?_, ?_, ?_⟩, ?_⟩
  · exact (hN.below ((Below.refl _ _).alloc (Nat.le_refl _) _)).below ((Below.refl _ _).alloc (Nat.le_refl _) _)
  · exact ((hw.kept hb).kept ((Below.refl _ _).alloc (Nat.le_refl _) _)).kept ((Below.refl _ _).alloc (Nat.le_refl _) _)
  · exact (hb.alloc hb.size _).alloc (by have := hb.size; simp; omega) _
  · have := heap_alloc_new (w1.alloc (.cells #[.int .i64 0, .int .i64 0] 25)) (.cells (elCs exE).toArray 31)
    simp only [World.size_alloc] at this
    first | exact this | (simp at this ⊢; exact this)
  · rw [Below.heap_alloc _ _ _ (by simp)]; exact heap_alloc_new _ _
theorem pl_b (W : World) (base p : Nat) (b : Nb) (h : Nt W base p exN b) : Calls Tryz.prog 7 #[.pointer (some ⟨p, 0, none⟩), .string ⟨#[98]⟩] W fun e w' => e = .returned (.tuple #[.int .i64 1, .bool true]) ∧ w' = W := by
  have := place_made h ⟨#[98]⟩ (by decide)
  rw [show posL exN.nd (bl ⟨#[98]⟩) = 1 from by decide +kernel, show decide (bl ⟨#[98]⟩ ∈ exN.nd) = true from by decide +kernel] at this
  exact this
theorem pl_0 (W : World) (base p : Nat) (b : Nb) (h : Nt W base p exN b) : Calls Tryz.prog 7 #[.pointer (some ⟨p, 0, none⟩), .string ⟨#[48]⟩] W fun e w' => e = .returned (.tuple #[.int .i64 0, .bool false]) ∧ w' = W := by
  have := place_made h ⟨#[48]⟩ (by decide)
  rw [show posL exN.nd (bl ⟨#[48]⟩) = 0 from by decide +kernel, show decide (bl ⟨#[48]⟩ ∈ exN.nd) = false from by decide +kernel] at this
  exact this
theorem br_v (W : World) (base p : Nat) (b : Nb) (h : Nt W base p exN b) : Calls Tryz.prog 8 #[.pointer (some ⟨p, 0, none⟩), .string ⟨#[86, 49]⟩] W fun e w' => e = .returned (.tuple #[.int .i64 0, .bool true]) ∧ w' = W := by
  have := branch_made h ⟨#[86, 49]⟩ (by decide)
  rw [show posL exN.br (bl ⟨#[86, 49]⟩) = 0 from by decide +kernel, show decide (bl ⟨#[86, 49]⟩ ∈ exN.br) = true from by decide +kernel] at this
  exact this
theorem br_r (W : World) (base p : Nat) (b : Nb) (h : Nt W base p exN b) : Calls Tryz.prog 8 #[.pointer (some ⟨p, 0, none⟩), .string ⟨#[82, 49]⟩] W fun e w' => e = .returned (.tuple #[.int .i64 0, .bool false]) ∧ w' = W := by
  have := branch_made h ⟨#[82, 49]⟩ (by decide)
  rw [show posL exN.br (bl ⟨#[82, 49]⟩) = 0 from by decide +kernel, show decide (bl ⟨#[82, 49]⟩ ∈ exN.br) = false from by decide +kernel] at this
  exact this
theorem ex_oks : ∀ x ∈ exE, x.ok := by
  intro x hx
  simp only [exE, List.mem_cons, List.not_mem_nil, or_false] at hx
  rcases hx with rfl | rfl | rfl <;> exact ⟨by decide, by decide, by decide, by decide, by decide, by decide, by decide⟩
theorem s_oks : ∀ x ∈ sE, x.ok := by
  intro x hx
  simp only [sE, List.mem_cons, List.not_mem_nil, or_false] at hx
  subst hx
  exact ⟨by decide, by decide, by decide, by decide, by decide, by decide, by decide⟩
theorem wo_9 (W : World) (base p : Nat) (b : Nb) (h : Nt W base p exN b) : Calls Tryz.prog 14 #[.pointer (some ⟨p, 0, none⟩), .string ⟨#[82, 57]⟩] W fun e w' => e = .returned (.tuple #[.pointer none, .int .i64 10]) ∧ w' = W := without_there h ⟨#[82, 57]⟩ (by decide) (by decide +kernel)
def exX0 : Elm := ⟨1, ⟨#[82, 49]⟩, ⟨#[97]⟩, ⟨#[98]⟩, ⟨#[]⟩, ⟨#[]⟩, 4661889719351640064, 0⟩
theorem of_4 : (ofA (exN.es ++ [exX0])).1 = (9, 3) := by decide +kernel
theorem wi_r (W : World) (base p : Nat) (b : Nb) (h : Nt W base p exN b) : Calls Tryz.prog 15 #[.pointer (some ⟨p, 0, none⟩), .agg #[.int .u8 1, .string ⟨#[82, 49]⟩, .string ⟨#[97]⟩, .string ⟨#[98]⟩, .string ⟨#[]⟩, .string ⟨#[]⟩, .float .f64 4661889719351640064, .int .i64 0]] W fun e w' => e = .returned (.tuple #[.pointer none, .agg #[.int .i64 9, .int .i64 3]]) ∧ Below W.heap.size W w' := by
  refine (with_made h exX0 (ex_oks _ (by simp [exE, exX0])) ex_oks (by decide)).mono ?_
  rintro e w' ⟨P, rfl, h1⟩
  rw [of_4] at h1 ⊢
  obtain ⟨hb, ⟨h2, -⟩ | ⟨-, rfl⟩⟩ := h1.out
  · exact absurd h2 (by decide)
  · exact ⟨rfl, hb⟩
theorem of_n (W : World) : Calls Tryz.prog 16 #[.slice none 0 0] W fun e w' => ∃ p, e = .returned (.tuple #[.pointer (some ⟨p, 0, none⟩), .agg #[.int .i64 0, .int .i64 0]]) ∧ Hid (Below W.heap.size W w' ∧ ∃ base b, Nt w' base p Ns.nil b) := by
  refine (netOf_any W (.slice none 0 0) [] ⟨by decide, none, 0, rfl, .inl rfl⟩ (fun x hx => by cases hx)).mono ?_
  rintro e w' ⟨hb, ⟨h1, base, p, b, rfl, h2, h3, h4⟩ | ⟨h1, rfl⟩⟩
  · exact ⟨p, rfl, hb, base, b, h2⟩
  · exact absurd rfl h1
theorem pr_n (w : World) (base p : Nat) (b : Nb) (hN : Nt w base p Ns.nil b) (hw : Pw w) :
    Calls Tryz.prog 19 #[.pointer (some ⟨p, 0, none⟩)] w fun e w' => e = .returned (.string ⟨#[]⟩) ∧ Below w.heap.size w w' := by
  refine (nprint_any w base p Ns.nil b exX hN hw (fun x hx => by cases hx) (by decide) (by decide)).mono ?_
  rintro e w' ⟨rfl, hb⟩
  exact ⟨rfl, hb⟩
theorem sec_parse (w : World) (hw : Wow w) : Calls Tryz.prog 6 #[.string sS] w fun e w' => ∃ p, e = .returned (.tuple #[.pointer (some ⟨p, 0, none⟩), .agg #[.int .i64 0, .int .i64 0]]) ∧ Hid (Below w.heap.size w w' ∧ ∃ base b, Nt w' base p (ofA sE).2 b) := by
  refine (parse_main sS w (by decide) hw s_er).mono ?_
  rintro e w' ⟨hb, ⟨-, -, base, p, b, rfl, hN, hp⟩ | ⟨h1, -⟩⟩
  · rw [s_a] at hN
    exact ⟨p, rfl, hb, base, b, hN⟩
  · rw [s_e] at h1; exact absurd rfl h1
end Go.Proofs.YtjoncbfaajcioaaGreatDoor

namespace Go.Proofs.YtjoncbfaajcioaaGreatDoor
open Go.Maps Go.RowKit Joins Deep
set_option linter.unusedVariables false
set_option maxRecDepth 100000

structure Stg15 (n : Nat) : Prop where
  t : True
theorem el_s (W : World) (p : Nat) (h : ∃ base b, Nt W base p (ofA sE).2 b) : Calls Tryz.prog 10 #[.pointer (some ⟨p, 0, none⟩)] W fun e w' => ∃ v', e = .returned v' ∧ Hid (Below W.heap.size W w' ∧ RdE w' v' sE) := by
  obtain ⟨base, b, hN⟩ := h
  refine (elements_made hN (by rw [s_n]; decide)).mono ?_
  rintro e w' ⟨v', rfl, hr, hb⟩
  rw [s_n] at hr
  exact ⟨v', rfl, hb, ordE_row hr (by decide)⟩
theorem sm_s (W : World) (v : Value) (h : RdE W v sE) : Calls Tryz.prog 9 #[v, .slice (some ⟨W.heap.size, 0, none⟩) 1 1] (W.alloc (.cells #[.int .u8 7, .string ⟨#[69, 49]⟩, .string ⟨#[97]⟩, .string ⟨#[48]⟩, .string ⟨#[98]⟩, .string ⟨#[99]⟩, .float .f64 13835058055282163712, .int .i64 0] 31)) fun e w' => e = .returned (.bool true) ∧ Below (W.alloc (.cells #[.int .u8 7, .string ⟨#[69, 49]⟩, .string ⟨#[97]⟩, .string ⟨#[48]⟩, .string ⟨#[98]⟩, .string ⟨#[99]⟩, .float .f64 13835058055282163712, .int .i64 0] 31)).heap.size (W.alloc (.cells #[.int .u8 7, .string ⟨#[69, 49]⟩, .string ⟨#[97]⟩, .string ⟨#[48]⟩, .string ⟨#[98]⟩, .string ⟨#[99]⟩, .float .f64 13835058055282163712, .int .i64 0] 31)) w' :=
  sameEs_any _ v _ sE (h.kept ((Below.refl _ _).alloc (Nat.le_refl _) _)) (rdE_blk (l := sE) (heap_alloc_new W (.cells #[.int .u8 7, .string ⟨#[69, 49]⟩, .string ⟨#[97]⟩, .string ⟨#[48]⟩, .string ⟨#[98]⟩, .string ⟨#[99]⟩, .float .f64 13835058055282163712, .int .i64 0] 31)) (by decide)) s_oks (by decide)
theorem sec_l (w : World) (hw : Wow w) : Calls Tryz.prog 6 #[.string ⟨#[42, 32, 97, 32, 114, 101, 109, 97, 114, 107, 10, 10, 69, 49, 32, 97, 32, 48, 32, 98, 32, 99, 32, 45, 50]⟩] w fun e w' => ∃ p, e = .returned (.tuple #[.pointer (some ⟨p, 0, none⟩), .agg #[.int .i64 0, .int .i64 0]]) ∧ Hid (Below w.heap.size w w' ∧ ∃ base b, Nt w' base p (ofA sE).2 b) := sec_parse w hw
theorem sm_e (W : World) (v : Value) (q : Nat) (h : RdE W v exE) (hq : W.heap[q]? = some (.cells (elCs exE).toArray 31 (0, 0))) : Calls Tryz.prog 9 #[v, .slice (some ⟨q, 0, none⟩) 3 3] W fun e w' => e = .returned (.bool true) ∧ Below W.heap.size W w' :=
  sameEs_any _ v _ exE h (rdE_blk (l := exE) hq (by decide)) ex_oks (by decide)
theorem x_parse (w : World) (hw : Wow w) : Calls Tryz.prog 6 #[.string ⟨#[82, 49, 32, 97, 32, 98, 32, 120]⟩] w fun e w' => ∃ ex : Int, e = .returned (.tuple #[.pointer none, .agg #[.int .i64 ex, .int .i64 0]]) ∧ Hid (Below w.heap.size w w' ∧ ¬ ex = 0) := by
  have h := x_e
  rw [Bool.and_eq_true, bne_iff_ne, beq_iff_eq] at h
  refine (parse_bad nxS (psE nxS).1 0 w hw (by decide) x_er (Prod.ext rfl h.2) h.1).mono ?_
  rintro e w' ⟨rfl, hb⟩
  exact ⟨_, rfl, hb, h.1⟩
theorem want0 {w W : World} {base p q : Nat} {b : Nb} (h : Nk w W base p b q) : W.cell? ⟨q, 0, none⟩ = some (.int .u8 1) ∧ W.cell? ⟨q, 1, none⟩ = some (.string ⟨#[82, 49]⟩) ∧ W.cell? ⟨q, 2, none⟩ = some (.string ⟨#[97]⟩) ∧ W.cell? ⟨q, 3, none⟩ = some (.string ⟨#[98]⟩) ∧ W.cell? ⟨q, 4, none⟩ = some (.string ⟨#[]⟩) ∧ W.cell? ⟨q, 5, none⟩ = some (.string ⟨#[]⟩) ∧ W.cell? ⟨q, 6, none⟩ = some (.float .f64 4661889719351640064) ∧ W.cell? ⟨q, 7, none⟩ = some (.int .i64 0) ∧ q < W.heap.size := by
  have hc : ∀ j v, (elCs exE).toArray[j]? = some v → W.cell? ⟨q, j, none⟩ = some v := fun j v hj => by rw [cell_of_row W q _ _ _ (0, 0) h.wa]; exact hj
  exact ⟨hc 0 _ rfl, hc 1 _ rfl, hc 2 _ rfl, hc 3 _ rfl, hc 4 _ rfl, hc 5 _ rfl, hc 6 _ rfl, hc 7 _ rfl, (Array.getElem?_eq_some_iff.1 h.wa).1⟩
theorem exf {ex : Int} (h : ¬ ex = 0) : (ex == 0) = false := by simpa using h
theorem nodes_n (W : World) (p : Nat) (h : ∃ base b, Nt W base p Ns.nil b) : Calls Tryz.prog 17 #[.pointer (some ⟨p, 0, none⟩)] W fun e w' => ∃ c : Option Addr × Nat, e = .returned (.slice c.1 0 c.2) ∧ Below W.heap.size W w' := by
  obtain ⟨base, b, hN⟩ := h
  refine (nodes_made hN (by decide)).mono ?_
  rintro e w' ⟨v', rfl, hr, hb⟩
  obtain ⟨A, c, rfl⟩ := orow_slice hr
  exact ⟨(A, c), rfl, hb⟩
theorem order_n (W : World) (p : Nat) (h : ∃ base b, Nt W base p Ns.nil b) : Calls Tryz.prog 18 #[.pointer (some ⟨p, 0, none⟩)] W fun e w' => e = .returned (.int .i64 0) ∧ Below W.heap.size W w' := by
  obtain ⟨base, b, hN⟩ := h
  exact norder_made hN (by decide) (by decide)
theorem print_n (W : World) (p : Nat) (h : ∃ base b, Nt W base p Ns.nil b) (hw : Pw W) : Calls Tryz.prog 19 #[.pointer (some ⟨p, 0, none⟩)] W fun e w' => e = .returned (.string ⟨#[]⟩) ∧ Below W.heap.size W w' := by
  obtain ⟨base, b, hN⟩ := h
  exact pr_n W base p b hN hw
theorem rfc0 (w : World) (hw : Wow w) : Calls Tryz.prog 13 #[.string ⟨#[88, 49, 32, 97, 32, 98, 32, 49]⟩, .int .i64 8, .int .i64 0] w fun r w' => r = .returned (.bool true) ∧ Below w.heap.size w w' := refused_any rfS0 8 0 w hw (by decide) rf_er0 rf_e0 (by decide)
theorem rfc1 (w : World) (hw : Wow w) : Calls Tryz.prog 13 #[.string ⟨#[82, 49, 32, 97, 32, 98]⟩, .int .i64 4, .int .i64 0] w fun r w' => r = .returned (.bool true) ∧ Below w.heap.size w w' := refused_any rfS1 4 0 w hw (by decide) rf_er1 rf_e1 (by decide)
theorem rfc2 (w : World) (hw : Wow w) : Calls Tryz.prog 13 #[.string ⟨#[82, 49, 32, 97, 32, 98, 32, 49, 32, 50]⟩, .int .i64 4, .int .i64 0] w fun r w' => r = .returned (.bool true) ∧ Below w.heap.size w w' := refused_any rfS2 4 0 w hw (by decide) rf_er2 rf_e2 (by decide)
theorem rfc3 (w : World) (hw : Wow w) : Calls Tryz.prog 13 #[.string ⟨#[73, 49, 32, 97, 32, 98, 32, 49, 32, 48, 51]⟩, .int .i64 2, .int .i64 0] w fun r w' => r = .returned (.bool true) ∧ Below w.heap.size w w' := refused_any rfS3 2 0 w hw (by decide) rf_er3 rf_e3 (by decide)
theorem rfc4 (w : World) (hw : Wow w) : Calls Tryz.prog 13 #[.string ⟨#[73, 49, 32, 97, 32, 98, 32, 49, 32, 45, 48]⟩, .int .i64 2, .int .i64 0] w fun r w' => r = .returned (.bool true) ∧ Below w.heap.size w w' := refused_any rfS4 2 0 w hw (by decide) rf_er4 rf_e4 (by decide)
theorem rfc5 (w : World) (hw : Wow w) : Calls Tryz.prog 13 #[.string ⟨#[86, 49, 32, 97, 32, 98, 32, 49, 32, 57, 50, 50, 51, 51, 55, 50, 48, 51, 54, 56, 53, 52, 55, 55, 53, 56, 48, 56]⟩, .int .i64 2, .int .i64 0] w fun r w' => r = .returned (.bool true) ∧ Below w.heap.size w w' := refused_any rfS5 2 0 w hw (by decide) rf_er5 rf_e5 (by decide)
theorem rfc6 (w : World) (hw : Wow w) : Calls Tryz.prog 13 #[.string ⟨#[10, 82, 49, 32, 97, 32, 97, 32, 49]⟩, .int .i64 2, .int .i64 1] w fun r w' => r = .returned (.bool true) ∧ Below w.heap.size w w' := refused_any rfS6 2 1 w hw (by decide) rf_er6 rf_e6 (by decide)
theorem rfc7 (w : World) (hw : Wow w) : Calls Tryz.prog 13 #[.string ⟨#[82, 49, 32, 97, 32, 98, 32, 49, 10, 82, 49, 32, 98, 32, 99, 32, 49]⟩, .int .i64 9, .int .i64 1] w fun r w' => r = .returned (.bool true) ∧ Below w.heap.size w w' := refused_any rfS7 9 1 w hw (by decide) rf_er7 rf_e7 (by decide)
theorem sm_v (W : World) (n : Nat) (v : Value) (h : W.ownsRow n 9 1 v 1 ([[86, 49]].map sv)) : Calls Tryz.prog 11 #[v, .slice (some ⟨W.heap.size, 0, none⟩) 1 1] (W.alloc (.cells #[.string ⟨#[86, 49]⟩] 9)) fun e w' => e = .returned (.bool true) ∧ Below (W.alloc (.cells #[.string ⟨#[86, 49]⟩] 9)).heap.size (W.alloc (.cells #[.string ⟨#[86, 49]⟩] 9)) w' :=
  sameS_any (W.alloc (.cells #[.string ⟨#[86, 49]⟩] 9)) n W.heap.size v (.slice (some ⟨W.heap.size, 0, none⟩) 1 1) [[86, 49]] [[86, 49]] (h.alloc _) (World.ownsRow_lit W #[.string ⟨#[86, 49]⟩] 1 (Nat.le_refl _) (by decide) rfl) (by decide) (by decide)
theorem fl_cells {W : World} {f : Nat} {a b : Int} (h : W.heap[f]? = some (.cells #[.int .i64 a, .int .i64 b] 25 (0, 0))) : W.cell? ⟨f, 0, none⟩ = some (.int .i64 a) ∧ W.cell? ⟨f, 1, none⟩ = some (.int .i64 b) ∧ f < W.heap.size := ⟨(tw_c h).1, (tw_c h).2.1, (Array.getElem?_eq_some_iff.1 h).1⟩
set_option maxHeartbeats 16000000 in
theorem nnames_walk (w : World) (hw : Wow w) (hA : ∀ W, Wow W → Calls Tryz.prog 20 #[] W fun e w' => e = .returned (.bool true) ∧ Below W.heap.size W w') : Calls Tryz.prog 3 #[] w fun e w' => e = .returned (.bool true) ∧ Below w.heap.size w w' := by
  have HW : Hid (Wow w) := hw
  have HA : Hid (∀ W, Wow W → Calls Tryz.prog 20 #[] W fun e w' => e = .returned (.bool true) ∧ Below W.heap.size W w') := hA
  clear hw hA
  go_enter Tryz.func3, Tryz.ntmps3
  have st : Stg15 0 := ⟨trivial⟩
  go_wp2_with (first
    | ((have _ := (st : Stg15 0)); go_at_call 6; (with_reducible refine (ex_parse _ HW.out).mono ?_); rintro e w1 ⟨base, p, b, rfl, hN, hb⟩; (obtain ⟨W2, hW2, H2⟩ := nk_start HW.out hN hb); clear hN hb st; (have st : Stg15 1 := ⟨trivial⟩); (have hs1 : Hid True := trivial))
    | ((have _ := (st : Stg15 1)); go_at_call 7; (with_reducible refine (pl_b _ base p b H2.out.1.nt).mono ?_); rintro e wx ⟨rfl, hx⟩; subst wx; clear st; (have st : Stg15 2 := ⟨trivial⟩))
    | ((have _ := (st : Stg15 2)); go_at_call 7; (with_reducible refine (pl_0 _ base p b H2.out.1.nt).mono ?_); rintro e wx ⟨rfl, hx⟩; subst wx; clear st; (have st : Stg15 3 := ⟨trivial⟩))
    | ((have _ := (st : Stg15 3)); go_at_call 8; (with_reducible refine (br_v _ base p b H2.out.1.nt).mono ?_); rintro e wx ⟨rfl, hx⟩; subst wx; clear st; (have st : Stg15 4 := ⟨trivial⟩))
    | ((have _ := (st : Stg15 4)); go_at_call 8; (with_reducible refine (br_r _ base p b H2.out.1.nt).mono ?_); rintro e wx ⟨rfl, hx⟩; subst wx; clear st; (have st : Stg15 5 := ⟨trivial⟩); (obtain ⟨f0, f1, fl⟩ := fl_cells H2.out.2))
    | ((have _ := (st : Stg15 5)); go_at_call 10; (with_reducible refine (elements_made H2.out.1.nt (by decide)).mono ?_); rintro e w3 ⟨v3, rfl, hr3, hb3⟩; clear st f0 f1 fl; (have st : Stg15 6 := ⟨trivial⟩); (have H3 : Hid (Nk w w3 base p b (w1.heap.size + 1) ∧ RdE w3 v3 exE) := ⟨H2.out.1.below hb3, ordE_row hr3 (by decide)⟩); clear hr3 hb3)
    | ((have _ := (st : Stg15 6)); go_at_call 9; (with_reducible refine (sm_e _ _ _ H3.out.2 H3.out.1.wa).mono ?_); rintro e w4 ⟨rfl, hb4⟩; clear st; (have st : Stg15 7 := ⟨trivial⟩); (have H4 : Hid (Nk w w4 base p b (w1.heap.size + 1)) := H3.out.1.below hb4); clear hb4)
    | ((have _ := (st : Stg15 7)); go_at_call 12; (with_reducible refine (branches_made H4.out.nt (by decide)).mono ?_); rintro e w5 ⟨v5, rfl, hr5, hb5⟩; clear st; (have st : Stg15 8 := ⟨trivial⟩); (have H5 : Hid (Nk w w5 base p b (w1.heap.size + 1) ∧ w5.ownsRow w4.heap.size 9 1 v5 1 ([[86, 49]].map sv)) := ⟨H4.out.below hb5, hr5⟩); clear hr5 hb5)
    | ((have _ := (st : Stg15 8)); go_at_call 11; (with_reducible refine (sm_v _ _ _ H5.out.2).mono ?_); rintro e w6 ⟨rfl, hb6⟩; clear st; (have st : Stg15 9 := ⟨trivial⟩); (have H6 : Hid (Nk w w6 base p b (w1.heap.size + 1)) := (H5.out.1.al _).below hb6); clear hb6)
    | ((have _ := (st : Stg15 9)); go_at_call 6; (with_reducible refine (sec_l _ H6.out.wow).mono ?_); rintro e w7 ⟨p2, rfl, h7⟩; clear st; (have st : Stg15 10 := ⟨trivial⟩); (have H7 : Hid (Nk w (w7.alloc (.cells #[.int .i64 0, .int .i64 0] 25)) base p b (w1.heap.size + 1) ∧ ∃ base2 b2, Nt (w7.alloc (.cells #[.int .i64 0, .int .i64 0] 25)) base2 p2 (ofA sE).2 b2) := ⟨(H6.out.below h7.out.1).al _, (by obtain ⟨base2, b2, hq⟩ := h7.out.2; exact ⟨base2, b2, hq.below ((Below.refl _ _).alloc (Nat.le_refl _) _)⟩)⟩); clear h7)
    | ((have _ := (st : Stg15 10)); go_at_call 10; (with_reducible refine (el_s _ p2 H7.out.2).mono ?_); rintro e w8 ⟨v8, rfl, h8⟩; clear st; (have st : Stg15 11 := ⟨trivial⟩); (have H8 : Hid (Nk w w8 base p b (w1.heap.size + 1) ∧ RdE w8 v8 sE) := ⟨H7.out.1.below h8.out.1, h8.out.2⟩); clear h8)
    | ((have _ := (st : Stg15 11)); go_at_call 9; (with_reducible refine (sm_s _ _ H8.out.2).mono ?_); rintro e w9 ⟨rfl, hb9⟩; clear st; (have st : Stg15 12 := ⟨trivial⟩); (have H9 : Hid (Nk w w9 base p b (w1.heap.size + 1)) := (H8.out.1.al _).below hb9); clear hb9)
    | ((have _ := (st : Stg15 12)); go_at_call 13; (with_reducible refine (rfc0 _ H9.out.wow).mono ?_); rintro e wr0 ⟨rfl, hbr⟩; clear st; (have st : Stg15 13 := ⟨trivial⟩); (have R0 : Hid (Nk w wr0 base p b (w1.heap.size + 1)) := H9.out.below hbr); clear hbr)
    | ((have _ := (st : Stg15 13)); go_at_call 13; (with_reducible refine (rfc1 _ R0.out.wow).mono ?_); rintro e wr1 ⟨rfl, hbr⟩; clear st; (have st : Stg15 14 := ⟨trivial⟩); (have R1 : Hid (Nk w wr1 base p b (w1.heap.size + 1)) := R0.out.below hbr); clear hbr)
    | ((have _ := (st : Stg15 14)); go_at_call 13; (with_reducible refine (rfc2 _ R1.out.wow).mono ?_); rintro e wr2 ⟨rfl, hbr⟩; clear st; (have st : Stg15 15 := ⟨trivial⟩); (have R2 : Hid (Nk w wr2 base p b (w1.heap.size + 1)) := R1.out.below hbr); clear hbr)
    | ((have _ := (st : Stg15 15)); go_at_call 13; (with_reducible refine (rfc3 _ R2.out.wow).mono ?_); rintro e wr3 ⟨rfl, hbr⟩; clear st; (have st : Stg15 16 := ⟨trivial⟩); (have R3 : Hid (Nk w wr3 base p b (w1.heap.size + 1)) := R2.out.below hbr); clear hbr)
    | ((have _ := (st : Stg15 16)); go_at_call 13; (with_reducible refine (rfc4 _ R3.out.wow).mono ?_); rintro e wr4 ⟨rfl, hbr⟩; clear st; (have st : Stg15 17 := ⟨trivial⟩); (have R4 : Hid (Nk w wr4 base p b (w1.heap.size + 1)) := R3.out.below hbr); clear hbr)
    | ((have _ := (st : Stg15 17)); go_at_call 13; (with_reducible refine (rfc5 _ R4.out.wow).mono ?_); rintro e wr5 ⟨rfl, hbr⟩; clear st; (have st : Stg15 18 := ⟨trivial⟩); (have R5 : Hid (Nk w wr5 base p b (w1.heap.size + 1)) := R4.out.below hbr); clear hbr)
    | ((have _ := (st : Stg15 18)); go_at_call 13; (with_reducible refine (rfc6 _ R5.out.wow).mono ?_); rintro e wr6 ⟨rfl, hbr⟩; clear st; (have st : Stg15 19 := ⟨trivial⟩); (have R6 : Hid (Nk w wr6 base p b (w1.heap.size + 1)) := R5.out.below hbr); clear hbr)
    | ((have _ := (st : Stg15 19)); go_at_call 13; (with_reducible refine (rfc7 _ R6.out.wow).mono ?_); rintro e wr7 ⟨rfl, hbr⟩; clear st; (have st : Stg15 20 := ⟨trivial⟩); (have R7 : Hid (Nk w wr7 base p b (w1.heap.size + 1)) := R6.out.below hbr); clear hbr)
    | ((have _ := (st : Stg15 20)); go_at_call 6; (with_reducible refine (x_parse _ R7.out.wow).mono ?_); rintro e w10 ⟨ex, rfl, h10⟩; clear st; (have st : Stg15 21 := ⟨trivial⟩); (have H10 : Hid (Nk w (w10.alloc (.cells #[.int .i64 ex, .int .i64 0] 25)) base p b (w1.heap.size + 1) ∧ ¬ ex = 0 ∧ (w10.alloc (.cells #[.int .i64 ex, .int .i64 0] 25)).heap[w10.heap.size]? = some (.cells #[.int .i64 ex, .int .i64 0] 25 (0, 0))) := ⟨(R7.out.below h10.out.1).al _, h10.out.2, heap_alloc_new _ _⟩); clear h10)
    | ((have _ := (st : Stg15 21)); go_at_call 14; (with_reducible refine (wo_9 _ base p b H10.out.1.nt).mono ?_); rintro e wx ⟨rfl, hx⟩; subst wx; clear st; (have st : Stg15 22 := ⟨trivial⟩); (obtain ⟨c0, c1, c2, c3, c4, c5, c6, c7, cl⟩ := want0 H10.out.1))
    | ((have _ := (st : Stg15 22)); go_at_call 15; (with_reducible refine (wi_r _ base p b H10.out.1.nt).mono ?_); rintro e w11 ⟨rfl, hb11⟩; clear st c0 c1 c2 c3 c4 c5 c6 c7 cl; (have st : Stg15 23 := ⟨trivial⟩); (have H11 : Hid (Nk w (w11.alloc (.cells #[.int .i64 9, .int .i64 3] 25)) base p b (w1.heap.size + 1) ∧ (w11.alloc (.cells #[.int .i64 9, .int .i64 3] 25)).heap[w10.heap.size]? = some (.cells #[.int .i64 ex, .int .i64 0] 25 (0, 0)) ∧ (w11.alloc (.cells #[.int .i64 9, .int .i64 3] 25)).heap[w11.heap.size]? = some (.cells #[.int .i64 9, .int .i64 3] 25 (0, 0))) := ⟨(H10.out.1.below hb11).al _, blk_kept (blk_kept H10.out.2.2 hb11) ((Below.refl _ _).alloc (Nat.le_refl _) _), heap_alloc_new _ _⟩); clear hb11)
    | ((have _ := (st : Stg15 23)); go_at_call 16; (with_reducible refine (of_n _).mono ?_); rintro e w12 ⟨p3, rfl, h12⟩; clear st; (have st : Stg15 24 := ⟨trivial⟩); (have H12 : Hid (Nk w (w12.alloc (.cells #[.int .i64 0, .int .i64 0] 25)) base p b (w1.heap.size + 1) ∧ ∃ base3 b3, Nt (w12.alloc (.cells #[.int .i64 0, .int .i64 0] 25)) base3 p3 Ns.nil b3) := ⟨(H11.out.1.below h12.out.1).al _, (by obtain ⟨base3, b3, hq⟩ := h12.out.2; exact ⟨base3, b3, hq.below ((Below.refl _ _).alloc (Nat.le_refl _) _)⟩)⟩); (obtain ⟨x0, x1, xl⟩ := fl_cells (blk_kept H11.out.2.1 h12.out.1)); (obtain ⟨y0, y1, yl⟩ := fl_cells (blk_kept H11.out.2.2 h12.out.1)); (have hex := exf H10.out.2.1); clear h12)
    | ((have _ := (st : Stg15 24)); go_at_call 17; (with_reducible refine (nodes_n _ p3 H12.out.2).mono ?_); rintro e w13 ⟨c13, rfl, hb13⟩; clear st x0 x1 y0 y1 xl yl; (have st : Stg15 25 := ⟨trivial⟩); (have H13 : Hid (Nk w w13 base p b (w1.heap.size + 1) ∧ ∃ base3 b3, Nt w13 base3 p3 Ns.nil b3) := ⟨H12.out.1.below hb13, (by obtain ⟨base3, b3, hq⟩ := H12.out.2; exact ⟨base3, b3, hq.below hb13⟩)⟩); clear hb13)
    | ((have _ := (st : Stg15 25)); go_at_call 18; (with_reducible refine (order_n _ p3 H13.out.2).mono ?_); rintro e w14 ⟨rfl, hb14⟩; clear st; (have st : Stg15 26 := ⟨trivial⟩); (have H14 : Hid (Nk w w14 base p b (w1.heap.size + 1) ∧ ∃ base3 b3, Nt w14 base3 p3 Ns.nil b3) := ⟨H13.out.1.below hb14, (by obtain ⟨base3, b3, hq⟩ := H13.out.2; exact ⟨base3, b3, hq.below hb14⟩)⟩); clear hb14)
    | ((have _ := (st : Stg15 26)); go_at_call 19; (with_reducible refine (print_n _ p3 H14.out.2 H14.out.1.wow.pw).mono ?_); rintro e w15 ⟨rfl, hb15⟩; clear st; (have st : Stg15 27 := ⟨trivial⟩); (have H15 : Hid (Nk w w15 base p b (w1.heap.size + 1)) := H14.out.1.below hb15); clear hb15)
    | ((have _ := (st : Stg15 27)); go_at_call 20; (with_reducible refine (HA.out _ H15.out.wow).mono ?_); rintro e w16 ⟨rfl, hb16⟩; (have H16 : Hid (Below w.heap.size w w16) := H15.out.bel.trans (hb16.mono H15.out.bel.size)); clear hb16))
  go_ret
  exact ⟨rfl, H16.out⟩
end Go.Proofs.YtjoncbfaajcioaaGreatDoor
