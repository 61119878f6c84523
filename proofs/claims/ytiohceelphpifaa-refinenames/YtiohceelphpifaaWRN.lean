/-
  RefineNames' walk.
-/
import Derived.Test.YtiohceelphpifaaRna
namespace Go.Proofs.Ytiohceelphpifaa
open Fl RowKit

def m3 : Nat → Nat → Cw := fun _ _ => n3
def M3 : Nat → Nat → Cw := (elm 1 m3 1).2.M
def O3 : Nat → Nat := (elm 1 m3 1).2.o
theorem e3 : (elm 1 m3 1).1.1 = 0 := by kernel_rfl
theorem s3 : (elm 1 m3 1).2.s = 1 := by kernel_rfl
theorem f3 : nff [n3] (1 * 1) = 1 * 1 := by kernel_rfl
theorem M3_0 : M3 0 0 = n3 := by kernel_rfl
theorem O3_0 : O3 0 = 0 := by kernel_rfl
theorem okM3 : okM 1 M3 := fun i j hi hj => by rw [show i = 0 by omega, show j = 0 by omega, M3_0]; exact ⟨by decide, by decide⟩
theorem okO3 : ∀ i, i < 1 → O3 i < 1 := fun i hi => by rw [show i = 0 by omega, O3_0]; decide
theorem l3 : lfL 1 [n3] [n2] [n9] = [n3] := by kernel_rfl
theorem k3 : lfK 1 [n3] [n2] [n9] = true := by kernel_rfl
theorem b3 : btK 1 M3 O3 [n2] (lfL 1 [n3] [n2] [n9]) = true := by kernel_rfl
theorem c3 : btL 1 M3 O3 [n2] (lfL 1 [n3] [n2] [n9]) = [n3] := by kernel_rfl
theorem u5 : unt 1 [n3] [n9] M3 O3 5 [n2] (lfL 1 [n3] [n2] [n9]) = ([n3], 1) := by kernel_rfl
theorem u0 : unt 1 [n3] [n9] M3 O3 0 [n2] (lfL 1 [n3] [n2] [n9]) = ([n2], 0) := by kernel_rfl
abbrev nH : Cw := (9214871658872686752, 0)
abbrev nI : Cw := (0, 9218868437227405312)
theorem kH : lfK 1 [nH] [nH] [(0, 0)] = false := by kernel_rfl
theorem gd_2 : Gd 1 [n2] := gd1 ⟨by decide, by decide⟩ (by kernel_rfl)
theorem gd_9 : Gd 1 [n9] := gd1 ⟨by decide, by decide⟩ (by kernel_rfl)
def L3 (w : World) (p : Nat) : Prop := Lhd w (.pointer (some ⟨p, 0, none⟩)) 1 M3 O3 1
theorem L3.below {w w' : World} {p : Nat} (h : L3 w p) (hb : Below w.heap.size w w') : L3 w' p := Lhd.below h hb
theorem of_3 {W : World} {g : Nat} (hr : Rc W (some ⟨g, 0, none⟩) [n3]) : Calls Try.prog 25 #[.agg #[.int .i64 1, .int .i64 1, .slice (some ⟨g, 0, none⟩) 1 1]] W fun e w' => ∃ p, e = .returned (.tuple #[.pointer (some ⟨p, 0, none⟩), .agg #[.int .i64 0, .int .i64 0]]) ∧ L3 w' p ∧ Below W.heap.size W w' := by
  refine (of_square 1 _ 1 [n3] m3 W (by decide) rfl (by decide) hr g3.ok f3 (fun i j hi hj => by rw [show i = 0 by omega, show j = 0 by omega]; rfl)).mono ?_
  rintro e w' ⟨_, h2, h3⟩
  obtain ⟨p, gr, go, bl, he', hL⟩ := h2 e3
  refine ⟨p, he', ?_, h3⟩
  have := hL.lh
  rw [s3] at this
  exact this
theorem lh_zero11 (w : World) (t : TypeId) (M : Nat → Nat → Cw) (o : Nat → Nat) : Lhd (w.alloc (.cells #[.slice none 0 0, .slice none 0 0, .int .i64 0] t)) (.pointer (some ⟨w.heap.size, 0, none⟩)) 0 M o 0 :=
  ⟨none, 0, none, 0, .inr ⟨_, rfl, v3_new w _ _ _ _⟩, rws_nil _ M, fun k hk => absurd hk (by simp [ri])⟩
/-- what the statement's calls start with -/
structure K11 (w0 : World) (p x y : Nat) (W : World) : Prop where
  l : L3 W p
  x : Rc W (some ⟨x, 0, none⟩) [n2]
  y : Rc W (some ⟨y, 0, none⟩) [n9]
  be : Below w0.heap.size w0 W
theorem K11.below {w0 W W' : World} {p x y : Nat} (h : K11 w0 p x y W) (hb : Below W.heap.size W W') : K11 w0 p x y W' := ⟨h.l.below hb, h.x.below hb, h.y.below hb, bt h.be hb⟩
section kk
variable {w0 W : World} {p x y g : Nat} (h : K11 w0 p x y W) (hr : Rc W (some ⟨g, 0, none⟩) [n3])
include h hr
theorem k_once : Calls Try.prog 27 #[.agg #[.int .i64 1, .int .i64 1, .slice (some ⟨g, 0, none⟩) 1 1], .pointer (some ⟨p, 0, none⟩), .slice (some ⟨x, 0, none⟩) 1 1, .slice (some ⟨y, 0, none⟩) 1 1] W fun e w' => ∃ g, e = .returned (.tuple #[.slice (some ⟨g, 0, none⟩) 1 1, .int .i64 0]) ∧ Rc w' (some ⟨g, 0, none⟩) [n3] ∧ Below W.heap.size W w' :=
  (once_y (N := 1) h.l (by decide) okM3 okO3 (by decide) rfl (Nat.le_refl _) (.inr ⟨_, _, rfl⟩) g3 gd_2 gd_9 hr h.x h.y k3 b3).mono (by rintro e w' ⟨g, rfl, h1, h2⟩; rw [c3] at h1; exact ⟨g, rfl, h1.rc, h2⟩)
theorem k_until (m : Nat) (hm : m ≤ 64) (z : Cw) (n : Nat) (hu : unt 1 [n3] [n9] M3 O3 m [n2] (lfL 1 [n3] [n2] [n9]) = ([z], n)) : Calls Try.prog 20 #[.agg #[.int .i64 1, .int .i64 1, .slice (some ⟨g, 0, none⟩) 1 1], .pointer (some ⟨p, 0, none⟩), .slice (some ⟨x, 0, none⟩) 1 1, .slice (some ⟨y, 0, none⟩) 1 1, .int .i64 m] W fun e w' => ∃ g, e = .returned (.tuple #[.slice (some ⟨g, 0, none⟩) 1 1, .int .i64 n, .int .i64 0]) ∧ Rc w' (some ⟨g, 0, none⟩) [z] ∧ Below W.heap.size W w' :=
  (until_any (N := 1) h.l (by decide) okM3 okO3 (by decide) (Nat.le_refl _) (.inr ⟨_, _, rfl⟩) g3 gd_2 gd_9 hr h.x h.y k3 hm).mono (by rintro e w' ⟨g, rfl, h1, h2⟩; rw [hu] at h1 ⊢; exact ⟨g, rfl, h1.rc, h2⟩)
theorem k_until5 : Calls Try.prog 20 #[.agg #[.int .i64 1, .int .i64 1, .slice (some ⟨g, 0, none⟩) 1 1], .pointer (some ⟨p, 0, none⟩), .slice (some ⟨x, 0, none⟩) 1 1, .slice (some ⟨y, 0, none⟩) 1 1, .int .i64 5] W fun e w' => ∃ g, e = .returned (.tuple #[.slice (some ⟨g, 0, none⟩) 1 1, .int .i64 1, .int .i64 0]) ∧ Rc w' (some ⟨g, 0, none⟩) [n3] ∧ Below W.heap.size W w' := k_until h hr 5 (by decide) n3 1 u5
theorem k_until0 : Calls Try.prog 20 #[.agg #[.int .i64 1, .int .i64 1, .slice (some ⟨g, 0, none⟩) 1 1], .pointer (some ⟨p, 0, none⟩), .slice (some ⟨x, 0, none⟩) 1 1, .slice (some ⟨y, 0, none⟩) 1 1, .int .i64 0] W fun e w' => ∃ g, e = .returned (.tuple #[.slice (some ⟨g, 0, none⟩) 1 1, .int .i64 0, .int .i64 0]) ∧ Rc w' (some ⟨g, 0, none⟩) [n2] ∧ Below W.heap.size W w' := k_until h hr 0 (by decide) n2 0 u0
omit hr in
theorem k_arg (m : Int) (hm : m < 0 ∨ 64 < m) : Calls Try.prog 20 #[.agg #[.int .i64 1, .int .i64 1, .slice (some ⟨g, 0, none⟩) 1 1], .pointer (some ⟨p, 0, none⟩), .slice (some ⟨x, 0, none⟩) 1 1, .slice (some ⟨y, 0, none⟩) 1 1, .int .i64 m] W fun e w' => e = .returned (.tuple #[.slice none 0 0, .int .i64 0, .int .i64 2]) ∧ Below W.heap.size W w' :=
  (until_arg (n := 1) h.l (by decide) _ _ _ _ _ _ _ _ _ m hm).mono (by rintro e w' ⟨rfl, h2⟩; exact ⟨rfl, h2⟩)
theorem k_inf {b : Nat} (hb : Rc W (some ⟨b, 0, none⟩) [nI]) : Calls Try.prog 12 #[.agg #[.int .i64 1, .int .i64 1, .slice (some ⟨g, 0, none⟩) 1 1], .slice (some ⟨x, 0, none⟩) 1 1, .slice (some ⟨b, 0, none⟩) 1 1] W fun e w' => e = .returned (.tuple #[.slice none 0 0, .int .i64 5]) ∧ Below W.heap.size W w' :=
  (left_err5 1 1 _ _ _ 1 1 1 [n3] [n2] [nI] W (by decide) (by decide) rfl rfl rfl hr h.x hb g3.ok gd_2.ok (fun k => by
    match k with
    | 0 => exact ⟨by decide, by decide⟩
    | k + 1 => rw [zat_ge (by simp)]; exact ⟨by decide, by decide⟩) (by rintro ⟨_, _, h3⟩; exact absurd h3 (by rw [show finL [nI] 1 = false from by kernel_rfl]; decide))).mono (by rintro e w' ⟨rfl, h2⟩; exact ⟨rfl, h2⟩)
end kk
theorem k_none {W : World} {x y g : Nat} : Calls Try.prog 27 #[.agg #[.int .i64 1, .int .i64 1, .slice (some ⟨g, 0, none⟩) 1 1], .pointer none, .slice (some ⟨x, 0, none⟩) 1 1, .slice (some ⟨y, 0, none⟩) 1 1] W fun e w' => e = .returned (.tuple #[.slice none 0 0, .int .i64 1]) ∧ Below W.heap.size W w' :=
  (once_none (lh_nil W (fun _ _ => (0, 0)) (fun _ => 0)) 1 1 _ _ _ _ _ _ _ _ _).mono (by rintro e w' ⟨rfl, h2⟩; exact ⟨rfl, h2⟩)
theorem k_over {w0 W : World} {p x y a b c : Nat} (_ : K11 w0 p x y W) (ha : Rc W (some ⟨a, 0, none⟩) [nH]) (hb : Rc W (some ⟨b, 0, none⟩) [nH]) (hc : Rc W (some ⟨c, 0, none⟩) [(0, 0)]) : Calls Try.prog 12 #[.agg #[.int .i64 1, .int .i64 1, .slice (some ⟨a, 0, none⟩) 1 1], .slice (some ⟨b, 0, none⟩) 1 1, .slice (some ⟨c, 0, none⟩) 1 1] W fun e w' => e = .returned (.tuple #[.slice none 0 0, .int .i64 6]) ∧ Below W.heap.size W w' :=
  (left_n (N := 1) (by decide) (Nat.le_refl _) (.inr ⟨_, _, rfl⟩) (gd1 ⟨by decide, by decide⟩ (by kernel_rfl)) (gd1 ⟨by decide, by decide⟩ (by kernel_rfl)) (gd1 ⟨by decide, by decide⟩ (by kernel_rfl)) ha hb hc kH).mono (by rintro e w' ⟨rfl, h2⟩; exact ⟨rfl, h2⟩)
theorem k_shape {w0 W : World} {p x y a b : Nat} {c : Nat} (_ : K11 w0 p x y W) : Calls Try.prog 12 #[.agg #[.int .i64 1, .int .i64 1, .slice (some ⟨a, 0, none⟩) 1 1], .slice (some ⟨b, 0, none⟩) 2 2, .slice (some ⟨c, 0, none⟩) 1 1] W fun e w' => e = .returned (.tuple #[.slice none 0 0, .int .i64 4]) ∧ Below W.heap.size W w' :=
  (left_err4 1 1 _ _ _ 1 2 1 1 2 1 W (by decide) (by decide)).mono (by rintro e w' ⟨rfl, h2⟩; exact ⟨rfl, h2⟩)
theorem k_zero {w0 W : World} {p x y g : Nat} {t : TypeId} (_ : K11 w0 p x y W) {a b : Nat} : Calls Try.prog 20 #[.agg #[.int .i64 1, .int .i64 1, .slice (some ⟨g, 0, none⟩) 1 1], .pointer (some ⟨W.heap.size, 0, none⟩), .slice (some ⟨a, 0, none⟩) 1 1, .slice (some ⟨b, 0, none⟩) 1 1, .int .i64 1] (W.alloc (.cells #[.slice none 0 0, .slice none 0 0, .int .i64 0] t)) fun e w' => e = .returned (.tuple #[.slice none 0 0, .int .i64 0, .int .i64 1]) ∧ Below (W.alloc (.cells #[.slice none 0 0, .slice none 0 0, .int .i64 0] t)).heap.size (W.alloc (.cells #[.slice none 0 0, .slice none 0 0, .int .i64 0] t)) w' :=
  (until_none (lh_zero11 W t (fun _ _ => (0, 0)) (fun _ => 0)) 1 1 _ _ _ _ _ _ _ _ _ 1).mono (by rintro e w' ⟨rfl, h2⟩; exact ⟨rfl, h2⟩)
abbrev FO11 : Obj := .cells #[.int .i64 0, .int .i64 0] 62
set_option maxRecDepth 20000 in
set_option maxHeartbeats 8000000 in
theorem rnames_walk (w : World) : Calls Try.prog 6 #[] w fun e w' => e = .returned (.bool true) ∧ Below w.heap.size w w' := by
  have z0 : (FloatKind.f64.format.order 0 0 == some .eq) = true := by kernel_rfl
  have z2 : (FloatKind.f64.format.order 4611686018427387904 4611686018427387904 == some .eq) = true := by kernel_rfl
  have z3 : (FloatKind.f64.format.order 4613937818241073152 4613937818241073152 == some .eq) = true := by kernel_rfl
  have st : Stg 0 := ⟨trivial⟩
  go_enter Try.func6, Try.ntmps6
  go_wp2_with (first
    | ((have _ := (st : Stg 0)); go_at_call 26; (with_reducible refine (three_any _).mono ?_); rintro e a1 ⟨g1, rfl, hr, hb⟩; have R1 := hid_o hr; have BE := hid_o hb; clear hr hb; clear st; have st : Stg 1 := ⟨trivial⟩)
    | ((have _ := (st : Stg 1)); go_at_call 25; (refine (of_3 R1.out).mono ?_); rintro e a2 ⟨p, rfl, hL, hb⟩; have HK : Hid (K11 w p (a2.heap.size + 1) (a2.heap.size + 1 + 1) (((a2.alloc FO11).alloc (.cells #[.complex .f64 4611686018427387904 0] 56)).alloc (.cells #[.complex .f64 4621256167635550208 0] 56))) := (⟨((hL.below (bal _ _)).below (bal _ _)).below (bal _ _), (al_rc1 _ n2 56 _ (by simp)).below (bal _ _), al_rc1 _ n9 56 _ (by simp), ba (ba (ba (bt BE.out hb) _) _) _⟩); have V2' := v2_new a2 (.int .i64 0) (.int .i64 0) 62; have c0 := V2'.c0; have c1 := V2'.c1; clear hL hb V2' R1 BE; clear st; have st : Stg 2 := ⟨trivial⟩)
    | ((have _ := (st : Stg 2)); go_at_call 26; (with_reducible refine (three_any _).mono ?_); rintro e b2 ⟨g2, rfl, hr, hb⟩; have R := hid_o hr; replace HK := hid_o ((HK.out).below hb); clear c0 c1; clear hr hb; clear st; have st : Stg 3 := ⟨trivial⟩)
    | ((have _ := (st : Stg 3)); go_at_call 27; (refine (k_once HK.out R.out).mono ?_); rintro e d3 ⟨x3, rfl, hr, hb⟩; replace HK := hid_o ((HK.out).below hb); have X1 := hid_o hr; clear hr hb R; clear st; have st : Stg 4 := ⟨trivial⟩)
    | ((have _ := (st : Stg 4)); go_at_call 26; (with_reducible refine (three_any _).mono ?_); rintro e b4 ⟨g4, rfl, hr, hb⟩; have R := hid_o hr; replace HK := hid_o ((HK.out).below hb); replace X1 := hid_o ((X1.out).below hb); clear hr hb; clear st; have st : Stg 5 := ⟨trivial⟩)
    | ((have _ := (st : Stg 5)); go_at_call 20; (refine (k_until5 HK.out R.out).mono ?_); rintro e d5 ⟨x5, rfl, hr, hb⟩; replace HK := hid_o ((HK.out).below hb); replace X1 := hid_o ((X1.out).below hb); have X2 := hid_o hr; clear hr hb R; clear st; have st : Stg 6 := ⟨trivial⟩)
    | ((have _ := (st : Stg 6)); go_at_call 26; (with_reducible refine (three_any _).mono ?_); rintro e b6 ⟨g6, rfl, hr, hb⟩; have R := hid_o hr; replace HK := hid_o ((HK.out).below hb); replace X1 := hid_o ((X1.out).below hb); replace X2 := hid_o ((X2.out).below hb); clear hr hb; clear st; have st : Stg 7 := ⟨trivial⟩)
    | ((have _ := (st : Stg 7)); go_at_call 20; (refine (k_until0 HK.out R.out).mono ?_); rintro e d7 ⟨x7, rfl, hr, hb⟩; replace HK := hid_o ((HK.out).below hb); replace X1 := hid_o ((X1.out).below hb); replace X2 := hid_o ((X2.out).below hb); have X3 := hid_o hr; clear hr hb R; clear st; have st : Stg 8 := ⟨trivial⟩)
    | ((have _ := (st : Stg 8)); go_at_call 26; (with_reducible refine (three_any _).mono ?_); rintro e b8 ⟨g8, rfl, hr, hb⟩; have R := hid_o hr; replace HK := hid_o ((HK.out).below hb); replace X1 := hid_o ((X1.out).below hb); replace X2 := hid_o ((X2.out).below hb); replace X3 := hid_o ((X3.out).below hb); clear hr hb; clear st; have st : Stg 9 := ⟨trivial⟩)
    | ((have _ := (st : Stg 9)); go_at_call 20; (refine (k_arg HK.out 65 (.inr (by decide))).mono ?_); rintro e d9 ⟨rfl, hb⟩; replace HK := hid_o ((HK.out).below hb); replace X1 := hid_o ((X1.out).below hb); replace X2 := hid_o ((X2.out).below hb); replace X3 := hid_o ((X3.out).below hb); clear hb R; clear st; have st : Stg 10 := ⟨trivial⟩)
    | ((have _ := (st : Stg 10)); go_at_call 26; (with_reducible refine (three_any _).mono ?_); rintro e b10 ⟨g10, rfl, hr, hb⟩; have R := hid_o hr; replace HK := hid_o ((HK.out).below hb); replace X1 := hid_o ((X1.out).below hb); replace X2 := hid_o ((X2.out).below hb); replace X3 := hid_o ((X3.out).below hb); clear hr hb; clear st; have st : Stg 11 := ⟨trivial⟩)
    | ((have _ := (st : Stg 11)); go_at_call 20; (refine (k_arg HK.out (-1) (.inl (by decide))).mono ?_); rintro e d11 ⟨rfl, hb⟩; replace HK := hid_o ((HK.out).below hb); replace X1 := hid_o ((X1.out).below hb); replace X2 := hid_o ((X2.out).below hb); replace X3 := hid_o ((X3.out).below hb); clear hb R; clear st; have st : Stg 12 := ⟨trivial⟩)
    | ((have _ := (st : Stg 12)); go_at_call 26; (with_reducible refine (three_any _).mono ?_); rintro e b12 ⟨g12, rfl, hr, hb⟩; have R := hid_o hr; replace HK := hid_o ((HK.out).below hb); replace X1 := hid_o ((X1.out).below hb); replace X2 := hid_o ((X2.out).below hb); replace X3 := hid_o ((X3.out).below hb); clear hr hb; clear st; have st : Stg 13 := ⟨trivial⟩)
    | ((have _ := (st : Stg 13)); go_at_call 12; (refine (k_shape (HK.out.below (bal _ _))).mono ?_); rintro e d13 ⟨rfl, hb⟩; replace HK := hid_o ((HK.out.below (bal _ _)).below hb); replace X1 := hid_o ((X1.out.below (bal _ _)).below hb); replace X2 := hid_o ((X2.out.below (bal _ _)).below hb); replace X3 := hid_o ((X3.out.below (bal _ _)).below hb); clear hb R; clear st; have st : Stg 14 := ⟨trivial⟩)
    | ((have _ := (st : Stg 14)); go_at_call 26; (with_reducible refine (three_any _).mono ?_); rintro e b14 ⟨g14, rfl, hr, hb⟩; have R := hid_o hr; replace HK := hid_o ((HK.out).below hb); replace X1 := hid_o ((X1.out).below hb); replace X2 := hid_o ((X2.out).below hb); replace X3 := hid_o ((X3.out).below hb); clear hr hb; clear st; have st : Stg 15 := ⟨trivial⟩)
    | (go_at_call 28; (with_reducible refine (inf_1 _).mono ?_); rintro e w' ⟨rfl, rfl⟩)
    | ((have _ := (st : Stg 15)); go_at_call 12; (refine (k_inf (HK.out.below (bal _ _)) (R.out.below (bal _ _)) (al_rc1 _ nI 56 _ rfl)).mono ?_); rintro e d15 ⟨rfl, hb⟩; replace HK := hid_o ((HK.out.below (bal _ _)).below hb); replace X1 := hid_o ((X1.out.below (bal _ _)).below hb); replace X2 := hid_o ((X2.out.below (bal _ _)).below hb); replace X3 := hid_o ((X3.out.below (bal _ _)).below hb); clear hb R; clear st; have st : Stg 16 := ⟨trivial⟩)
    | ((have _ := (st : Stg 16)); go_at_call 12; (refine (k_over (((HK.out.below (bal _ _)).below (bal _ _)).below (bal _ _)) (((al_rc1 _ nH 56 _ rfl).below (bal _ _)).below (bal _ _)) ((al_rc1 _ nH 56 _ (by simp)).below (bal _ _)) (al_rc1 _ (0, 0) 56 _ (by simp))).mono ?_); rintro e d16 ⟨rfl, hb⟩; replace HK := hid_o ((((HK.out.below (bal _ _)).below (bal _ _)).below (bal _ _)).below hb); replace X1 := hid_o ((((X1.out.below (bal _ _)).below (bal _ _)).below (bal _ _)).below hb); replace X2 := hid_o ((((X2.out.below (bal _ _)).below (bal _ _)).below (bal _ _)).below hb); replace X3 := hid_o ((((X3.out.below (bal _ _)).below (bal _ _)).below (bal _ _)).below hb); clear hb ; clear st; have st : Stg 17 := ⟨trivial⟩)
    | ((have _ := (st : Stg 17)); go_at_call 26; (with_reducible refine (three_any _).mono ?_); rintro e b17 ⟨g17, rfl, hr, hb⟩; have R := hid_o hr; replace HK := hid_o ((HK.out).below hb); replace X1 := hid_o ((X1.out).below hb); replace X2 := hid_o ((X2.out).below hb); replace X3 := hid_o ((X3.out).below hb); clear hr hb; clear st; have st : Stg 18 := ⟨trivial⟩)
    | ((have _ := (st : Stg 18)); go_at_call 27; (refine (k_none).mono ?_); rintro e d18 ⟨rfl, hb⟩; replace HK := hid_o ((HK.out).below hb); replace X1 := hid_o ((X1.out).below hb); replace X2 := hid_o ((X2.out).below hb); replace X3 := hid_o ((X3.out).below hb); clear hb R; clear st; have st : Stg 19 := ⟨trivial⟩)
    | ((have _ := (st : Stg 19)); go_at_call 26; (with_reducible refine (three_any _).mono ?_); rintro e b19 ⟨g19, rfl, hr, hb⟩; have R := hid_o hr; replace HK := hid_o ((HK.out).below hb); replace X1 := hid_o ((X1.out).below hb); replace X2 := hid_o ((X2.out).below hb); replace X3 := hid_o ((X3.out).below hb); clear hr hb; clear st; have st : Stg 20 := ⟨trivial⟩)
    | ((have _ := (st : Stg 20)); go_at_call 20; (refine (k_zero HK.out).mono ?_); rintro e d20 ⟨rfl, hb⟩; replace HK := hid_o ((HK.out.below (bal _ _)).below hb); replace X1 := hid_o ((X1.out.below (bal _ _)).below hb); replace X2 := hid_o ((X2.out.below (bal _ _)).below hb); replace X3 := hid_o ((X3.out.below (bal _ _)).below hb); have y1 := rc1_cell X1.out; have y2 := rc1_cell X2.out; have y3 := rc1_cell X3.out; clear hb R; clear st; have st : Stg 21 := ⟨trivial⟩)
    | ((have _ := (st : Stg 21)); go_at_call 7; (with_reducible refine (lives_any _).mono ?_); rintro e dz ⟨rfl, hb⟩; have BZ := hid_o (bt HK.out.be hb); clear hb; clear st; have st : Stg 22 := ⟨trivial⟩))
  go_ret
  exact ⟨rfl, BZ.out⟩
end Go.Proofs.Ytiohceelphpifaa
