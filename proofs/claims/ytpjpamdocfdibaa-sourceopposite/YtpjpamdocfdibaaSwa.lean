/-
  What the chapter's examples say: the statements' awake.
-/
import Derived.Test.YtpjpamdocfdibaaSwp
import Derived.Test.YtpjpamdocfdibaaSdr
import Derived.Test.YtpjpamdocfdibaaDne
namespace Go.Proofs.Ytpjpamdocfdibaa
open Fl Go.Maps RowKit Joins Deep
set_option linter.unusedVariables false

theorem rdE_l (w : World) (l : List Elm) (hl : l.length ≤ 1000) : RdE (w.alloc (.cells (elCs l).toArray 57)) (.slice (some ⟨w.heap.size, 0, none⟩) l.length l.length) l := by
  have hr : (w.alloc (.cells (elCs l).toArray 57)).ownsRow w.heap.size 57 8 (.slice (some ⟨w.heap.size, 0, none⟩) l.length l.length) l.length (elCs l) := by
    have := World.ownsRow_lit (e := 57) (size := 8) w (elCs l).toArray l.length (Nat.le_refl _) (by unfold maxLen; omega) (by rw [List.size_toArray]; exact elCs_len l)
    exact this
  refine ⟨by omega, _, _, rfl, .inr ⟨w.heap.size, rfl, fun k x hk => ?_⟩⟩
  obtain ⟨g, cap, he, hE⟩ := de8_row hr rfl hk
  injection he with he1 he2 he3
  injection he1 with he4
  injection he4 with he5
  rw [he5]; exact hE
theorem rdE_row2 {w : World} {base : Nat} {v : Value} {l : List Elm} (h : w.ownsRow base 57 8 v l.length (elCs l)) (hl : l.length ≤ 1000) : RdE w v l := by
  refine ⟨by omega, ?_⟩
  have h0 := h
  obtain ⟨_, ⟨h1, h2⟩ | ⟨g, cap, cur, h1, _⟩⟩ := h
  · exact ⟨none, 0, by rw [h1, h2], .inl (List.length_eq_zero_iff.1 h2)⟩
  · rw [h1] at h0
    refine ⟨_, cap, h1, .inr ⟨g, rfl, fun k x hk => ?_⟩⟩
    obtain ⟨g2, cap2, he, hE⟩ := de8_row h0 rfl hk
    injection he with he1 he2 he3
    injection he1 with he4
    injection he4 with he5
    rw [he5]; exact hE
theorem of_yes2 {w w' : World} {l : List Elm} {N : Ns} {e : Ending} (h : ofA l = ((0, 0), N)) (hp : OfP w l e w') : Below w.heap.size w w' ∧ ∃ p b0 b, e = .returned (.tuple #[.pointer (some ⟨p, 0, none⟩), .agg #[.int .i64 0, .int .i64 0]]) ∧ Nt w' b0 p N b := by
  obtain ⟨hb, ⟨_, b0, p, b, he, hN, _⟩ | ⟨hne, _⟩⟩ := hp
  · rw [h] at hN
    exact ⟨hb, p, b0, b, he, hN⟩
  · rw [h] at hne; exact absurd rfl hne
/-- an element of the examples -/
theorem sel_any (k : Nat) (n a b : ByteArray) (v : Nat) (ph : Int) (w : World) : Calls Try.prog 72 #[.int .u8 (k : Int), .string n, .string a, .string b, .float .f64 v, .int .i64 ph] w fun e w' => e = .returned (.agg #[.int .u8 (k : Int), .string n, .string a, .string b, .string ⟨#[]⟩, .string ⟨#[]⟩, .float .f64 v, .int .i64 ph]) ∧ Below w.heap.size w w' := by
  go_enter Try.func72, Try.ntmps72
  go_wp2_with fail
  (try simp only [Exit.inBlock, Exit.then])
  refine bodyPost_ret (by simp [results, Try.results72, go_sem]; try rfl) rfl ?_
  exact ⟨rfl, bal w _⟩
theorem ex_ok : ∀ x ∈ exL, x.ok := by
  intro x hx
  simp only [exL, List.mem_cons, List.not_mem_nil, or_false] at hx
  rcases hx with rfl | rfl | rfl | rfl | rfl <;> exact ⟨by decide, by decide, by decide, by decide, by decide, by decide, by decide⟩
theorem ex_pb : ∀ x ∈ exL, x.phb := by
  intro x hx
  simp only [exL, List.mem_cons, List.not_mem_nil, or_false] at hx
  rcases hx with rfl | rfl | rfl | rfl | rfl <;> exact ⟨by decide, by decide⟩
theorem ex_md : Md exN := by
  have h := Md.of (l := exL) (by rw [ex_of]) ex_ok ex_pb
  rw [ex_of] at h
  exact h
theorem ex_netOf (w : World) : Calls Try.prog 10 #[.slice (some ⟨w.heap.size, 0, none⟩) 5 5] (w.alloc (.cells (elCs exL).toArray 57)) (OfP (w.alloc (.cells (elCs exL).toArray 57)) exL) := netOf_any _ _ exL (rdE_l w exL (by decide)) ex_ok
set_option maxHeartbeats 4000000 in
theorem sexample_any (w : World) : Calls Try.prog 73 #[] w fun e w' => ∃ p b0 b, e = .returned (.pointer (some ⟨p, 0, none⟩)) ∧ Nt w' b0 p exN b ∧ Below w.heap.size w w' := by
  have HB := hidS (Below.refl w.heap.size w)
  go_enter Try.func73, Try.ntmps73
  go_wp2_with (first
    | (go_at_call 72; (refine (sel_any _ _ _ _ _ _ _).mono ?_); rintro e w1 ⟨rfl, hb⟩; (have HB := hidS (HB.out.trans (hb.mono HB.out.size))); clear hb)
    | (go_at_call 10; (refine (ex_netOf _).mono ?_); rintro e w2 hp; (obtain ⟨hb, p, b0, b, rfl, hN⟩ := of_yes2 ex_of hp); (have HN := hidS hN); (have HB2 := hidS ((HB.out.alloc HB.out.size _).trans (hb.mono (HB.out.alloc HB.out.size _).size))); clear hb hN hp))
  go_ret
  exact ⟨p, b0, b, rfl, HN.out.below (bal _ _), HB2.out.alloc HB2.out.size _⟩
/-- the numbers of the example -/
def exW : List Cw := [(13835058055282163712, 0), (4611686018427387904, 0), (0, 0), (13837309855095848960, 0)]
theorem ex_list {xs : List Cw} (hl : xs.length = 4) (hr : repl (rgL exN exN.es noC 0).2 4 xs) : xs = exW := by
  obtain ⟨a, b, c, d, rfl⟩ : ∃ a b c d, xs = [a, b, c, d] := by
    match xs, hl with
    | [a, b, c, d], _ => exact ⟨a, b, c, d, rfl⟩
  have h0 := hr 0 (by decide)
  have h1 := hr 1 (by decide)
  have h2 := hr 2 (by decide)
  have h3 := hr 3 (by decide)
  rw [show (rgL exN exN.es noC 0).2 0 = _ from ex_r0] at h0
  rw [show (rgL exN exN.es noC 0).2 1 = _ from ex_r1] at h1
  rw [show (rgL exN exN.es noC 0).2 2 = _ from ex_r2] at h2
  rw [show (rgL exN exN.es noC 0).2 3 = _ from ex_r3] at h3
  have k0 := repz_in h0
  have k1 := repz_in h1
  have k2 := repz_in h2
  have k3 := repz_in h3
  have e0 : zat [a, b, c, d] 0 = a := rfl
  have e1 : zat [a, b, c, d] 1 = b := rfl
  have e2 : zat [a, b, c, d] 2 = c := rfl
  have e3 : zat [a, b, c, d] 3 = d := rfl
  rw [e0] at k0; rw [e1] at k1; rw [e2] at k2; rw [e3] at k3
  rw [k0, k1, k2, k3]; rfl
theorem exW_eq : ∀ k, k < 4 → eqB (zat exW k).1 (zat exW k).1 = true ∧ eqB (zat exW k).2 (zat exW k).2 = true := by
  intro k hk
  rcases (by omega : k = 0 ∨ k = 1 ∨ k = 2 ∨ k = 3) with rfl | rfl | rfl | rfl <;> exact ⟨by kernel_rfl, by kernel_rfl⟩
/-- Right of the example -/
theorem ex_right {w : World} {nb p : Nat} {b : Nb} (h : Nt w nb p exN b) : Calls Try.prog 25 #[.pointer (some ⟨p, 0, none⟩)] w fun e w' => ∃ g c, e = .returned (.tuple #[.slice (some ⟨g, 0, none⟩) 4 c, .agg #[.int .i64 0, .int .i64 0]]) ∧ Rc w' (some ⟨g, 0, none⟩) exW ∧ Below w.heap.size w w' := by
  refine (sright_any h ex_md).mono ?_
  rintro e w' ⟨hb, ⟨_, v, rfl, hN⟩ | ⟨i, hi, _⟩⟩
  · obtain ⟨xs, h1, h2⟩ := hN
    obtain ⟨g, c, rfl, _, _, _⟩ := own_shape h1.own (show 0 < 4 by decide)
    have hx := ex_list h1.len h2
    have := h1.rc
    rw [hx] at this
    exact ⟨g, c, rfl, this, hb⟩
  · rw [show (rgL exN exN.es noC 0).1 = (0, 0) from ex_rg] at hi
    have h6 : (0 : Int) = 6 := congrArg Prod.fst hi
    exact absurd h6 (by decide)
theorem ex_equal {w : World} {g c B : Nat} (h : Rc w (some ⟨g, 0, none⟩) exW) (hB : w.heap.size = B) : Calls Try.prog 74 #[.slice (some ⟨g, 0, none⟩) 4 c, .slice (some ⟨B, 0, none⟩) 4 4] (w.alloc (.cells #[.complex .f64 13835058055282163712 0, .complex .f64 4611686018427387904 0, .complex .f64 0 0, .complex .f64 13837309855095848960 0] 59)) fun e w' => e = .returned (.bool true) ∧ Below w.heap.size w w' :=
  (kequal_len 4 _ _ c 4 exW exW _ (by decide) rfl rfl (h.below (bal _ _)) (al_rc4 w (13835058055282163712, 0) (4611686018427387904, 0) (0, 0) (13837309855095848960, 0) 59 B hB) exW_eq).mono (by
    rintro e w' ⟨n, rfl, rfl⟩
    exact ⟨rfl, below_dN (bal _ _) n⟩)
def exP : Elm := el2 4 ⟨#[73, 49]⟩ ⟨#[97]⟩ ⟨#[48]⟩ 4611686018427387904 6
theorem exP_K : phK exP = 0 := by kernel_rfl
theorem exP_C : phC exP = (some 0, some 4611686018427387904) := by kernel_rfl
theorem ex_phasor (w : World) : Calls Try.prog 22 #[.agg #[.int .u8 4, .string ⟨#[73, 49]⟩, .string ⟨#[97]⟩, .string ⟨#[48]⟩, .string ⟨#[]⟩, .string ⟨#[]⟩, .float .f64 4611686018427387904, .int .i64 6]] w fun e w' => e = .returned (.tuple #[.complex .f64 0 4611686018427387904, .int .i64 0]) ∧ Below w.heap.size w w' := by
  refine (sphasor_any exP w ⟨by decide, by decide, by decide, by decide, by decide, by decide, by decide⟩ ⟨by decide, by decide⟩ (by decide)).mono ?_
  rintro e w' ⟨re, im, rfl, h1, h2, hb⟩
  rw [exP_C] at h1 h2
  rw [exP_K, rep_in h1, rep_in h2]
  exact ⟨rfl, hb⟩
set_option maxHeartbeats 8000000 in
theorem awake19 (w : World) : Calls Try.prog 30 #[] w fun e w' => e = .returned (.bool true) ∧ Below w.heap.size w w' := by
  have HB := hidS (Below.refl w.heap.size w)
  have q1 : FloatKind.f64.format.order 0 0 = some .eq := by kernel_rfl
  have q2 : FloatKind.f64.format.order 4611686018427387904 4611686018427387904 = some .eq := by kernel_rfl
  go_enter Try.func30, Try.ntmps30
  go_wp2_with (first
    | (go_at_call 72; (refine (sel_any _ _ _ _ _ _ _).mono ?_); rintro e w1 ⟨rfl, hb⟩; (have HB := hidS (HB.out.trans (hb.mono HB.out.size))); clear hb)
    | (go_at_call 22; (refine (ex_phasor _).mono ?_); rintro e w2 ⟨rfl, hb⟩; (have HB := hidS (HB.out.trans (hb.mono HB.out.size))); clear hb)
    | (go_at_call 73; (refine (sexample_any _).mono ?_); rintro e w3 ⟨p, b0, b, rfl, hN, hb⟩; (have HB := hidS (HB.out.trans (hb.mono HB.out.size))); (have HN := hidS hN); clear hb hN)
    | (go_at_call 25; (refine (ex_right HN.out).mono ?_); rintro e w4 ⟨g, c, rfl, hR, hb⟩; (have HB := hidS (HB.out.trans (hb.mono HB.out.size))); (have HR := hidS hR); clear hb hR)
    | (go_at_call 74; (refine (ex_equal (HR.out.below (bal _ _)) (by simp)).mono ?_); rintro e w5 ⟨rfl, hb⟩; (have HB := hidS ((HB.out.alloc HB.out.size _).trans (hb.mono (HB.out.alloc HB.out.size _).size))); clear hb))
  go_ret
  exact ⟨rfl, HB.out⟩
end Go.Proofs.Ytpjpamdocfdibaa
