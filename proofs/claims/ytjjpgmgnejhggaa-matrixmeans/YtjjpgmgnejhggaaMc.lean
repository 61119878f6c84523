/-
  What the functions say that package matrix hands to made and all.
-/
import Derived.Test.YtjjpgmgnejhggaaMb
import Derived.Deep.RegionHeldLaw
namespace Go.Proofs.Ytjjpgmgnejhggaa
open Fl RowKit

/-- a matrix that may be, and is read -/
structure Mx (w : World) (R C : Nat) (A : Option Addr) (c : Nat) (F : Nat → Cn) (xs : List Cw) : Prop where
  len : xs.length = R * C
  hR : R ≤ 64
  hC : C ≤ 64
  rep : repl F (R * C) xs
  sl : Sl w A c xs
theorem Mx.below {w w' : World} {R C c : Nat} {A : Option Addr} {F : Nat → Cn} {xs : List Cw} (h : Mx w R C A c F xs) (hb : Below w.heap.size w w') : Mx w' R C A c F xs := ⟨h.len, h.hR, h.hC, h.rep, h.sl.below hb⟩
theorem Mx.drewN {w : World} {R C c : Nat} {A : Option Addr} {F : Nat → Cn} {xs : List Cw} (h : Mx w R C A c F xs) (n : Nat) : Mx (w.drewN n) R C A c F xs := ⟨h.len, h.hR, h.hC, h.rep, h.sl.drewN n⟩
theorem Mx.okl {w : World} {R C c : Nat} {A : Option Addr} {F : Nat → Cn} {xs : List Cw} (h : Mx w R C A c F xs) : okl xs := by
  have h1 := h.len
  have h2 := h.rep
  rw [← h1] at h2
  exact h2.okl
theorem Mx.lst {w : World} {R C c : Nat} {A : Option Addr} {F : Nat → Cn} {xs : List Cw} (h : Mx w R C A c F xs) : Lst w A (R * C) F xs := ⟨h.len, h.rep, h.sl.rd⟩
theorem Mx.at {w : World} {R C c i j : Nat} {A : Option Addr} {F : Nat → Cn} {xs : List Cw} (h : Mx w R C A c F xs) (hi : i < R) (hj : j < C) : repz (F (i * C + j)) (zat xs (i * C + j)) := h.rep _ (place_lt hi hj)
theorem bal (w : World) (o : Obj) : Below w.heap.size w (w.alloc o) := (Below.refl _ _).alloc (Nat.le_refl _) o
/-- an entry, as at hands it back -/
theorem mat {w : World} {R C c i j : Nat} {A : Option Addr} {F : Nat → Cn} {xs : List Cw} (h : Mx w R C A c F xs) (hi : i < R) (hj : j < C) :
    Calls Try.prog 71 #[.agg #[.int .i64 R, .int .i64 C, .slice A (R * C) c], .int .i64 i, .int .i64 j] w fun e w' => ∃ r : Cw, e = .returned (.complex .f64 r.1 r.2) ∧ repz (F (i * C + j)) r ∧ Below w.heap.size w w' :=
  (at_any R C i j A c xs w h.len h.hR h.hC hi hj h.sl.rd).mono (by rintro e w' ⟨rfl, rfl⟩; exact ⟨_, rfl, h.at hi hj, bal _ _⟩)
/-- a row, as row hands it back -/
theorem mrow {w : World} {R C c i : Nat} {A : Option Addr} {F : Nat → Cn} {xs : List Cw} (h : Mx w R C A c F xs) (hi : i < R) :
    Calls Try.prog 68 #[.agg #[.int .i64 R, .int .i64 C, .slice A (R * C) c], .int .i64 i] w fun e w' => ∃ A' c', e = .returned (.slice A' C c') ∧ Lst w' A' C (fun j => F (i * C + j)) (rowL C xs i) ∧ Below w.heap.size w w' := by
  refine (row_any R C i A c xs w h.len (by have := h.sl.cap; have := h.len; omega) ?_ h.hR h.hC hi h.sl.rd).mono ?_
  · rcases h.sl.shape with ⟨h1, h2⟩ | h1
    · exact .inl ⟨h1, by rw [← h.len]; exact h2⟩
    · exact .inr h1
  · rintro e w' ⟨A', c', rfl, hr, rfl⟩
    exact ⟨A', c', rfl, ⟨rowL_len h.len hi, fun j hj => by rw [rowL_at hj]; exact h.at hi hj, hr.below (bal _ _)⟩, bal _ _⟩
/-- a product of two lists, as dot hands it back -/
theorem mdot {n ca cb : Nat} {ao bo : Option Addr} {F G : Nat → Cn} {xs ys : List Cw} {w : World} (h : Lst w ao n F xs) (k : Lst w bo n G ys) (hm : n ≤ 65536) :
    Calls Try.prog 67 #[.slice ao n ca, .slice bo n cb] w fun e w' => ∃ r : Cw, e = .returned (.complex .f64 r.1 r.2) ∧ repz (sumZ (zipF mulZ F G) n) r ∧ Below w.heap.size w w' := by
  go_enter Try.func67, Try.ntmps67
  go_wp2_with (go_at_call 107; refine (ldot_ok h k hm).mono ?_; rintro e w' ⟨s, t, m, rfl, hs, rfl⟩)
  go_ret
  exact ⟨(s, t), rfl, hs, below_drewN (Below.refl _ _) m⟩

abbrev ptr (B : Nat) : Value := .pointer (some ⟨B, 0, none⟩)
section one
variable {w : World} {R C c B : Nat} {A : Option Addr} {F : Nat → Cn} {xs : List Cw} (h : Mx w R C A c F xs) (hV : V3 B (.int .i64 R) (.int .i64 C) (.slice A (R * C) c) w)
include h hV
theorem says_mconj : SaysE w 69 #[ptr B] R C (fun i j => conZ (F (i * C + j))) := by
  intro i j W hi hj hb
  have M := h.below hb
  obtain ⟨_, c0, c1, c2, _, _, _⟩ := hV.below hb
  clear h hV hb
  show Calls Try.prog _ #[.int .i64 i, .int .i64 j, ptr B] W _
  go_enter Try.func69, Try.ntmps69
  go_wp2_with (first
    | (go_at_call 71; refine (mat M hi hj).mono ?_; rintro e w' ⟨r, rfl, hr, hb⟩)
    | (go_at_call 70; refine (conj_any _ hr.1 hr.2).mono ?_; rintro e w2 ⟨im, rfl, h1, hw2⟩; subst w2))
  go_ret
  exact ⟨(r.1, im), rfl, ⟨hr.1, h1⟩, hb⟩
theorem says_mtrans : SaysE w 106 #[ptr B] C R (fun j i => F (i * C + j)) := by
  intro j i W hj hi hb
  have M := h.below hb
  obtain ⟨_, c0, c1, c2, _, _, _⟩ := hV.below hb
  clear h hV hb
  show Calls Try.prog _ #[.int .i64 j, .int .i64 i, ptr B] W _
  go_enter Try.func106, Try.ntmps106
  go_wp2_with (go_at_call 71; refine (mat M hi hj).mono ?_; rintro e w' ⟨r, rfl, hr, hb⟩)
  go_ret
  exact ⟨r, rfl, hr, hb⟩
theorem says_mrow {i Bi : Nat} (hi : i < R) (hBi : Bi < w.heap.size) (hc : w.cell? ⟨Bi, 0, none⟩ = some (.int .i64 i)) : SaysE w 91 #[ptr B, ptr Bi] 1 C (fun _ j => F (i * C + j)) := by
  intro i0 j W hi0 hj hb
  have M := h.below hb
  obtain ⟨_, c0, c1, c2, _, _, _⟩ := hV.below hb
  have c3 := (hb.cell (p := ⟨Bi, 0, none⟩) hBi).trans hc
  clear h hV hb
  show Calls Try.prog _ #[.int .i64 i0, .int .i64 j, ptr B, ptr Bi] W _
  go_enter Try.func91, Try.ntmps91
  go_wp2_with (go_at_call 71; refine (mat M hi hj).mono ?_; rintro e w' ⟨r, rfl, hr, hb⟩)
  go_ret
  exact ⟨r, rfl, hr, hb⟩
theorem says_mcol {j Bj : Nat} (hj : j < C) (hBj : Bj < w.heap.size) (hc : w.cell? ⟨Bj, 0, none⟩ = some (.int .i64 j)) : SaysE w 92 #[ptr B, ptr Bj] R 1 (fun i _ => F (i * C + j)) := by
  intro i j0 W hi hj0 hb
  have M := h.below hb
  obtain ⟨_, c0, c1, c2, _, _, _⟩ := hV.below hb
  have c3 := (hb.cell (p := ⟨Bj, 0, none⟩) hBj).trans hc
  clear h hV hb
  show Calls Try.prog _ #[.int .i64 i, .int .i64 j0, ptr B, ptr Bj] W _
  go_enter Try.func92, Try.ntmps92
  go_wp2_with (go_at_call 71; refine (mat M hi hj).mono ?_; rintro e w' ⟨r, rfl, hr, hb⟩)
  go_ret
  exact ⟨r, rfl, hr, hb⟩
/-- rows i and j changed -/
def swp2 (i j r : Nat) : Nat := if r = i then j else if r = j then i else r
theorem says_mswap {i j Bi Bj : Nat} (hi : i < R) (hj : j < R) (hBi : Bi < w.heap.size) (hci : w.cell? ⟨Bi, 0, none⟩ = some (.int .i64 i)) (hBj : Bj < w.heap.size) (hcj : w.cell? ⟨Bj, 0, none⟩ = some (.int .i64 j)) : SaysE w 73 #[ptr Bi, ptr B, ptr Bj] R C (fun r k => F (swp2 i j r * C + k)) := by
  intro r k W hr hk hb
  have M := h.below hb
  obtain ⟨_, c0, c1, c2, _, _, _⟩ := hV.below hb
  have c3 := (hb.cell (p := ⟨Bi, 0, none⟩) hBi).trans hci
  have c4 := (hb.cell (p := ⟨Bj, 0, none⟩) hBj).trans hcj
  clear h hV hb
  show Calls Try.prog _ #[.int .i64 r, .int .i64 k, ptr Bi, ptr B, ptr Bj] W fun e W' => ∃ z : Cw, e = .returned (cx z) ∧ repz (F (swp2 i j r * C + k)) z ∧ Below W.heap.size W W'
  by_cases h1 : r = i
  · subst h1
    have e : swp2 r j r = j := by unfold swp2; rw [if_pos rfl]
    rw [e]
    go_enter Try.func73, Try.ntmps73
    go_wp2_with (go_at_call 71; refine (mat M hj hk).mono ?_; rintro e w' ⟨z, rfl, hz, hb⟩)
    go_ret
    exact ⟨z, rfl, hz, hb⟩
  · have h1' : ¬ (r : Int) = (i : Int) := by omega
    by_cases h2 : r = j
    · subst h2
      have e : swp2 i r r = i := by unfold swp2; rw [if_neg h1, if_pos rfl]
      rw [e]
      go_enter Try.func73, Try.ntmps73
      go_wp2_with (go_at_call 71; refine (mat M hi hk).mono ?_; rintro e w' ⟨z, rfl, hz, hb⟩)
      go_ret
      exact ⟨z, rfl, hz, hb⟩
    · have h2' : ¬ (r : Int) = (j : Int) := by omega
      have e : swp2 i j r = r := by unfold swp2; rw [if_neg h1, if_neg h2]
      rw [e]
      go_enter Try.func73, Try.ntmps73
      go_wp2_with (go_at_call 71; refine (mat M hr hk).mono ?_; rintro e w' ⟨z, rfl, hz, hb⟩)
      go_ret
      exact ⟨z, rfl, hz, hb⟩
end one
def idE (i j : Nat) : Cn := if i = j then (some 4607182418800017408, some 0) else (some 0, some 0)
theorem says_mid (w : World) (R C : Nat) : SaysE w 96 #[] R C idE := by
  intro i j W hi hj hb
  show Calls Try.prog _ #[.int .i64 i, .int .i64 j] W _
  by_cases h : i = j
  · subst h
    go_enter Try.func96, Try.ntmps96
    go_wp2
    go_ret
    exact ⟨(4607182418800017408, 0), rfl, by unfold idE; rw [if_pos rfl]; exact ⟨rep_num (by decide) (by decide), rep_0⟩, Below.refl _ _⟩
  · have h' : ¬ (i : Int) = (j : Int) := by omega
    go_enter Try.func96, Try.ntmps96
    go_wp2
    go_ret
    exact ⟨(0, 0), rfl, by unfold idE; rw [if_neg h]; exact ⟨rep_0, rep_0⟩, Below.refl _ _⟩
theorem matw {w : World} {R C c i j : Nat} {A : Option Addr} {F : Nat → Cn} {xs : List Cw} (h : Mx w R C A c F xs) (hi : i < R) (hj : j < C) :
    Calls Try.prog 71 #[.agg #[.int .i64 R, .int .i64 C, .slice A (R * C) c], .int .i64 i, .int .i64 j] w fun e w' => e = .returned (.complex .f64 (zat xs (i * C + j)).1 (zat xs (i * C + j)).2) ∧ Below w.heap.size w w' :=
  (at_any R C i j A c xs w h.len h.hR h.hC hi hj h.sl.rd).mono (by rintro e w' ⟨rfl, rfl⟩; exact ⟨rfl, bal _ _⟩)
/-- are two numbers the same, equal? -/
def sameW (x y : Cw) : Bool := smB x.1 y.1 && smB x.2 y.2
def equalW (x y : Cw) : Bool := eqB x.1 y.1 && eqB x.2 y.2
theorem b_of {n : Nat} {w w' w'' : World} (h : Below n w w') (k : Below w'.heap.size w' w'') (hn : n ≤ w'.heap.size) : Below n w w'' := h.trans (k.mono hn)

theorem undrew {w w' : World} (h : Below w.drew.heap.size w.drew w') : Below w.heap.size w w' := ((below_self w).drew).trans h
section one2
variable {w : World} {R C c B : Nat} {A : Option Addr} {F : Nat → Cn} {xs : List Cw} (h : Mx w R C A c F xs) (hV : V3 B (.int .i64 R) (.int .i64 C) (.slice A (R * C) c) w)
include h hV
set_option maxHeartbeats 1000000 in
theorem says_mapply {X : Option Addr} {cX Bx : Nat} {G : Nat → Cn} {ys : List Cw} (hx : Lst w X C G ys) (hBx : Bx < w.heap.size) (hcx : w.cell? ⟨Bx, 0, none⟩ = some (.slice X C cX)) : SaysE w 93 #[ptr B, ptr Bx] R 1 (fun i _ => sumZ (fun k => mulZ (F (i * C + k)) (G k)) C) := by
  intro i j W hi hj hb
  have M := h.below hb
  have v := hV.below hb
  obtain ⟨_, c0, c1, c2, _, _, _⟩ := v
  have v := hV.below hb
  have c3 := (hb.cell (p := ⟨Bx, 0, none⟩) hBx).trans hcx
  have hBW : Bx < W.heap.size := Nat.lt_of_lt_of_le hBx hb.size
  have hC := h.hC
  have LX := hx.below hb
  clear h hV hb hx hcx
  show Calls Try.prog _ #[.int .i64 i, .int .i64 j, ptr B, ptr Bx] W _
  go_enter Try.func93, Try.ntmps93
  go_wp2_with fail
  go_region_held_law (fun V => V.cell? ⟨B, 0, none⟩ = some (.int .i64 R) ∧ V.cell? ⟨B, 1, none⟩ = some (.int .i64 C) ∧ V.cell? ⟨B, 2, none⟩ = some (.slice A (R * C) c) ∧ V.cell? ⟨Bx, 0, none⟩ = some (.slice X C cX))
    (first | with_reducible exact ⟨E1.c0, E1.c1, E1.c2, E2⟩ | with_reducible exact ⟨D1.c0, D1.c1, D1.c2, D2⟩ | go_keep)
    ((first
      | (go_at_call 68; (with_reducible refine (mrow (M.below (by first | exact below_self _ | exact (below_self _).drew)) hi).mono ?_); rintro e w1 ⟨A1, k1, rfl, L1, bb1⟩; have B1 : Below W.heap.size W w1 := (by first | exact bb1 | exact undrew bb1); have D1 := v.below B1; have D2 := (B1.cell (p := ⟨Bx, 0, none⟩) hBW).trans c3)
      | (go_at_call 67; (with_reducible refine (mdot (L1.below (by first | exact below_self _ | exact (below_self _).drew)) (LX.below (by first | exact B1 | exact B1.drew)) (by omega)).mono ?_); rintro e w3 ⟨r, rfl, hr, bb3⟩; have B13 : Below w1.heap.size w1 w3 := (by first | exact bb3 | exact undrew bb3); have E1 := D1.below B13; have E2 := (B13.cell (p := ⟨Bx, 0, none⟩) (Nat.lt_of_lt_of_le hBW B1.size)).trans D2)))
  go_wp2
  go_ret
  exact ⟨r, rfl, hr, b_of B1 B13 B1.size⟩
set_option maxHeartbeats 1000000 in
theorem says_msym (hm : C = R) : SaysB w 87 #[ptr B] R R (fun i j => equalW (zat xs (i * R + j)) (zat xs (j * R + i))) := by
  subst hm
  intro i j W hi hj hb
  have M := h.below hb
  have v := hV.below hb
  obtain ⟨_, c0, c1, c2, _, _, _⟩ := v
  have v := hV.below hb
  clear h hV hb
  show Calls Try.prog _ #[.int .i64 i, .int .i64 j, ptr B] W _
  go_enter Try.func87, Try.ntmps87
  go_wp2_with fail
  go_region_held_law (fun V => V.cell? ⟨B, 0, none⟩ = some (.int .i64 C) ∧ V.cell? ⟨B, 1, none⟩ = some (.int .i64 C) ∧ V.cell? ⟨B, 2, none⟩ = some (.slice A (C * C) c))
    (first | with_reducible exact ⟨E1.c0, E1.c1, E1.c2⟩ | with_reducible exact ⟨D1.c0, D1.c1, D1.c2⟩ | go_keep)
    ((first
      | (go_at_call 71; (with_reducible refine (matw (M.below (by first | exact B1 | exact B1.drew)) hj hi).mono ?_); rintro e w2 ⟨rfl, bb2⟩; have B12 : Below w1.heap.size w1 w2 := (by first | exact bb2 | exact undrew bb2); have E1 := D1.below B12)
      | (go_at_call 71; (with_reducible refine (matw (M.below (by first | exact below_self _ | exact (below_self _).drew)) hi hj).mono ?_); rintro e w1 ⟨rfl, bb1⟩; have B1 : Below W.heap.size W w1 := (by first | exact bb1 | exact undrew bb1); have D1 := v.below B1)
      | (go_at_call 86; (with_reducible refine (equal_any _ _ _ _ _).mono ?_); rintro e w3 ⟨rfl, hw3⟩; subst w3)))
  go_wp2
  go_ret
  exact ⟨rfl, by first | exact b_of B1 B12 B1.size | exact (b_of B1 B12 B1.size).drew⟩
end one2
section two
variable {w : World} {R C c B R' C' c' B' : Nat} {A A' : Option Addr} {F G : Nat → Cn} {xs ys : List Cw} (h : Mx w R C A c F xs) (hV : V3 B (.int .i64 R) (.int .i64 C) (.slice A (R * C) c) w) (h' : Mx w R' C' A' c' G ys) (hV' : V3 B' (.int .i64 R') (.int .i64 C') (.slice A' (R' * C') c') w)
include h hV h' hV'
set_option maxHeartbeats 1000000 in
theorem says_mmul (hm : C' = C) : SaysE w 66 #[ptr B, ptr B'] R R' (fun i j => sumZ (fun k => mulZ (F (i * C + k)) (G (j * C + k))) C) := by
  subst hm
  intro i j W hi hj hb
  have M := h.below hb
  have M' := h'.below hb
  have v := hV.below hb
  have v' := hV'.below hb
  obtain ⟨_, c0, c1, c2, _, _, _⟩ := v
  obtain ⟨_, d0, d1, d2, _, _, _⟩ := v'
  have v := hV.below hb
  have v' := hV'.below hb
  have hC := h.hC
  clear h hV h' hV' hb
  show Calls Try.prog _ #[.int .i64 i, .int .i64 j, ptr B, ptr B'] W _
  go_enter Try.func66, Try.ntmps66
  go_wp2_with fail
  go_region_held_law (fun V => V.cell? ⟨B, 0, none⟩ = some (.int .i64 R) ∧ V.cell? ⟨B, 1, none⟩ = some (.int .i64 C') ∧ V.cell? ⟨B, 2, none⟩ = some (.slice A (R * C') c) ∧ V.cell? ⟨B', 0, none⟩ = some (.int .i64 R') ∧ V.cell? ⟨B', 1, none⟩ = some (.int .i64 C') ∧ V.cell? ⟨B', 2, none⟩ = some (.slice A' (R' * C') c'))
    (first | with_reducible exact ⟨H1.c0, H1.c1, H1.c2, H2.c0, H2.c1, H2.c2⟩ | with_reducible exact ⟨E1.c0, E1.c1, E1.c2, E2.c0, E2.c1, E2.c2⟩ | with_reducible exact ⟨D1.c0, D1.c1, D1.c2, D2.c0, D2.c1, D2.c2⟩ | go_keep)
    ((first
      | (go_at_call 68; (with_reducible refine (mrow (M.below (by first | exact below_self _ | exact (below_self _).drew)) hi).mono ?_); rintro e w1 ⟨A1, k1, rfl, L1, bb1⟩; have B1 : Below W.heap.size W w1 := (by first | exact bb1 | exact undrew bb1); have D1 := v.below B1; have D2 := v'.below B1)
      | (go_at_call 68; (with_reducible refine (mrow (M'.below (by first | exact B1 | exact B1.drew)) hj).mono ?_); rintro e w2 ⟨A2, k2, rfl, L2, bb2⟩; have B12 : Below w1.heap.size w1 w2 := (by first | exact bb2 | exact undrew bb2); have E1 := D1.below B12; have E2 := D2.below B12)
      | (go_at_call 67; (with_reducible refine (mdot (L1.below (by first | exact B12 | exact B12.drew)) (L2.below (by first | exact below_self _ | exact (below_self _).drew)) (by omega)).mono ?_); rintro e w3 ⟨r, rfl, hr, bb3⟩; have B23 : Below w2.heap.size w2 w3 := (by first | exact bb3 | exact undrew bb3); have H1 := E1.below B23; have H2 := E2.below B23)))
  go_wp2
  go_ret
  exact ⟨r, rfl, hr, b_of B1 (b_of B12 B23 B12.size) B1.size⟩
set_option maxHeartbeats 1000000 in
theorem says_msame (hr : R' = R) (hm : C' = C) : SaysB w 83 #[ptr B, ptr B'] R C (fun i j => sameW (zat xs (i * C + j)) (zat ys (i * C + j))) := by
  subst hr hm
  intro i j W hi hj hb
  have M := h.below hb
  have M' := h'.below hb
  have v := hV.below hb
  have v' := hV'.below hb
  obtain ⟨_, c0, c1, c2, _, _, _⟩ := v
  obtain ⟨_, d0, d1, d2, _, _, _⟩ := v'
  have v := hV.below hb
  have v' := hV'.below hb
  clear h hV h' hV' hb
  show Calls Try.prog _ #[.int .i64 i, .int .i64 j, ptr B, ptr B'] W _
  go_enter Try.func83, Try.ntmps83
  go_wp2_with fail
  go_region_held_law (fun V => V.cell? ⟨B, 0, none⟩ = some (.int .i64 R') ∧ V.cell? ⟨B, 1, none⟩ = some (.int .i64 C') ∧ V.cell? ⟨B, 2, none⟩ = some (.slice A (R' * C') c) ∧ V.cell? ⟨B', 0, none⟩ = some (.int .i64 R') ∧ V.cell? ⟨B', 1, none⟩ = some (.int .i64 C') ∧ V.cell? ⟨B', 2, none⟩ = some (.slice A' (R' * C') c'))
    (first | with_reducible exact ⟨E1.c0, E1.c1, E1.c2, E2.c0, E2.c1, E2.c2⟩ | with_reducible exact ⟨D1.c0, D1.c1, D1.c2, D2.c0, D2.c1, D2.c2⟩ | go_keep)
    ((first
      | (go_at_call 71; (with_reducible refine (matw (M.below (by first | exact below_self _ | exact (below_self _).drew)) hi hj).mono ?_); rintro e w1 ⟨rfl, bb1⟩; have B1 : Below W.heap.size W w1 := (by first | exact bb1 | exact undrew bb1); have D1 := v.below B1; have D2 := v'.below B1)
      | (go_at_call 71; (with_reducible refine (matw (M'.below (by first | exact B1 | exact B1.drew)) hi hj).mono ?_); rintro e w2 ⟨rfl, bb2⟩; have B12 : Below w1.heap.size w1 w2 := (by first | exact bb2 | exact undrew bb2); have E1 := D1.below B12; have E2 := D2.below B12)
      | (go_at_call 57; (with_reducible refine (same_any _ _ _ _ _).mono ?_); rintro e w3 ⟨rfl, hw3⟩; subst w3)))
  go_wp2
  go_ret
  exact ⟨rfl, by first | exact b_of B1 B12 B1.size | exact (b_of B1 B12 B1.size).drew⟩
set_option maxHeartbeats 1000000 in
theorem says_mequal (hr : R' = R) (hm : C' = C) : SaysB w 85 #[ptr B, ptr B'] R C (fun i j => equalW (zat xs (i * C + j)) (zat ys (i * C + j))) := by
  subst hr hm
  intro i j W hi hj hb
  have M := h.below hb
  have M' := h'.below hb
  have v := hV.below hb
  have v' := hV'.below hb
  obtain ⟨_, c0, c1, c2, _, _, _⟩ := v
  obtain ⟨_, d0, d1, d2, _, _, _⟩ := v'
  have v := hV.below hb
  have v' := hV'.below hb
  clear h hV h' hV' hb
  show Calls Try.prog _ #[.int .i64 i, .int .i64 j, ptr B, ptr B'] W _
  go_enter Try.func85, Try.ntmps85
  go_wp2_with fail
  go_region_held_law (fun V => V.cell? ⟨B, 0, none⟩ = some (.int .i64 R') ∧ V.cell? ⟨B, 1, none⟩ = some (.int .i64 C') ∧ V.cell? ⟨B, 2, none⟩ = some (.slice A (R' * C') c) ∧ V.cell? ⟨B', 0, none⟩ = some (.int .i64 R') ∧ V.cell? ⟨B', 1, none⟩ = some (.int .i64 C') ∧ V.cell? ⟨B', 2, none⟩ = some (.slice A' (R' * C') c'))
    (first | with_reducible exact ⟨E1.c0, E1.c1, E1.c2, E2.c0, E2.c1, E2.c2⟩ | with_reducible exact ⟨D1.c0, D1.c1, D1.c2, D2.c0, D2.c1, D2.c2⟩ | go_keep)
    ((first
      | (go_at_call 71; (with_reducible refine (matw (M.below (by first | exact below_self _ | exact (below_self _).drew)) hi hj).mono ?_); rintro e w1 ⟨rfl, bb1⟩; have B1 : Below W.heap.size W w1 := (by first | exact bb1 | exact undrew bb1); have D1 := v.below B1; have D2 := v'.below B1)
      | (go_at_call 71; (with_reducible refine (matw (M'.below (by first | exact B1 | exact B1.drew)) hi hj).mono ?_); rintro e w2 ⟨rfl, bb2⟩; have B12 : Below w1.heap.size w1 w2 := (by first | exact bb2 | exact undrew bb2); have E1 := D1.below B12; have E2 := D2.below B12)
      | (go_at_call 86; (with_reducible refine (equal_any _ _ _ _ _).mono ?_); rintro e w3 ⟨rfl, hw3⟩; subst w3)))
  go_wp2
  go_ret
  exact ⟨rfl, by first | exact b_of B1 B12 B1.size | exact (b_of B1 B12 B1.size).drew⟩
end two

end Go.Proofs.Ytjjpgmgnejhggaa
