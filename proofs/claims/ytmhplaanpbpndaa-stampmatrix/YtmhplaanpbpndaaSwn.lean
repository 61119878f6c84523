/-
  What the chapter's examples say: the statements' awake.
-/
import Derived.Test.YtmhplaanpbpndaaSwp
import Derived.Test.YtmhplaanpbpndaaDne
namespace Go.Proofs.Ytmhplaanpbpndaa
open Fl Go.Maps RowKit Joins Deep
set_option linter.unusedVariables false

theorem rdE_l (w : World) (l : List Elm) (hl : l.length ≤ 1000) : RdE (w.alloc (.cells (elCs l).toArray 55)) (.slice (some ⟨w.heap.size, 0, none⟩) l.length l.length) l := by
  have hr : (w.alloc (.cells (elCs l).toArray 55)).ownsRow w.heap.size 55 8 (.slice (some ⟨w.heap.size, 0, none⟩) l.length l.length) l.length (elCs l) := by
    have := World.ownsRow_lit (e := 55) (size := 8) w (elCs l).toArray l.length (Nat.le_refl _) (by unfold maxLen; omega) (by rw [List.size_toArray]; exact elCs_len l)
    exact this
  refine ⟨by omega, _, _, rfl, .inr ⟨w.heap.size, rfl, fun k x hk => ?_⟩⟩
  obtain ⟨g, cap, he, hE⟩ := de8_row hr rfl hk
  injection he with he1 he2 he3
  injection he1 with he4
  injection he4 with he5
  rw [he5]; exact hE
theorem rdE_row2 {w : World} {base : Nat} {v : Value} {l : List Elm} (h : w.ownsRow base 55 8 v l.length (elCs l)) (hl : l.length ≤ 1000) : RdE w v l := by
  refine ⟨by omega, ?_⟩
  have h0 := h
  obtain ⟨_, ⟨h1, h2⟩ | ⟨g, cap, cur, h1, _⟩⟩ := h
  · exact ⟨none, 0, by rw [h1, h2], .inl (List.length_eq_zero_iff.1 h2)⟩
  · rw [h1] at h0
    refine ⟨_, cap, h1, .inr ⟨g, rfl, fun k x hk => ?_⟩⟩
    obtain ⟨g2, cap2, he, hE⟩ := de8_row h0 rfl hk
    injection he with he1 he2 he3
    injection he1 with he4
    injection he4 with he5
    rw [he5]; exact hE
theorem of_yes2 {w w' : World} {l : List Elm} {N : Ns} {e : Ending} (h : ofA l = ((0, 0), N)) (hp : OfP w l e w') : Below w.heap.size w w' ∧ ∃ p b0 b, e = .returned (.tuple #[.pointer (some ⟨p, 0, none⟩), .agg #[.int .i64 0, .int .i64 0]]) ∧ Nt w' b0 p N b := by
  obtain ⟨hb, ⟨_, b0, p, b, he, hN, _⟩ | ⟨hne, _⟩⟩ := hp
  · rw [h] at hN
    exact ⟨hb, p, b0, b, he, hN⟩
  · rw [h] at hne; exact absurd rfl hne
theorem ex_ok : ∀ x ∈ exL, x.ok := by
  intro x hx
  simp only [exL, List.mem_cons, List.not_mem_nil, or_false] at hx
  rcases hx with rfl | rfl | rfl | rfl | rfl <;> exact ⟨by decide, by decide, by decide, by decide, by decide, by decide, by decide⟩
theorem ex_pb : ∀ x ∈ exL, x.phb := by
  intro x hx
  simp only [exL, List.mem_cons, List.not_mem_nil, or_false] at hx
  rcases hx with rfl | rfl | rfl | rfl | rfl <;> exact ⟨by decide, by decide⟩
theorem ex_md : Md exN := by
  have h := Md.of (l := exL) (by rw [ex_of]) ex_ok ex_pb
  rw [ex_of] at h
  exact h
theorem ex_netOf (w : World) : Calls Try.prog 5 #[.slice (some ⟨w.heap.size, 0, none⟩) 5 5] (w.alloc (.cells (elCs exL).toArray 55)) (OfP (w.alloc (.cells (elCs exL).toArray 55)) exL) := netOf_any _ _ exL (rdE_l w exL (by decide)) ex_ok
/-- the numbers of the example -/
def exW : List Cw := [(13835058055282163712, 0), (4611686018427387904, 0), (0, 0), (13837309855095848960, 0)]
theorem ex_list {xs : List Cw} (hl : xs.length = 4) (hr : repl (rgL exN exN.es noC 0).2 4 xs) : xs = exW := by
  obtain ⟨a, b, c, d, rfl⟩ : ∃ a b c d, xs = [a, b, c, d] := by
    match xs, hl with
    | [a, b, c, d], _ => exact ⟨a, b, c, d, rfl⟩
  have h0 := hr 0 (by decide)
  have h1 := hr 1 (by decide)
  have h2 := hr 2 (by decide)
  have h3 := hr 3 (by decide)
  rw [show (rgL exN exN.es noC 0).2 0 = _ from ex_r0] at h0
  rw [show (rgL exN exN.es noC 0).2 1 = _ from ex_r1] at h1
  rw [show (rgL exN exN.es noC 0).2 2 = _ from ex_r2] at h2
  rw [show (rgL exN exN.es noC 0).2 3 = _ from ex_r3] at h3
  have k0 := repz_in h0
  have k1 := repz_in h1
  have k2 := repz_in h2
  have k3 := repz_in h3
  have e0 : zat [a, b, c, d] 0 = a := rfl
  have e1 : zat [a, b, c, d] 1 = b := rfl
  have e2 : zat [a, b, c, d] 2 = c := rfl
  have e3 : zat [a, b, c, d] 3 = d := rfl
  rw [e0] at k0; rw [e1] at k1; rw [e2] at k2; rw [e3] at k3
  rw [k0, k1, k2, k3]; rfl
theorem exW_eq : ∀ k, k < 4 → eqB (zat exW k).1 (zat exW k).1 = true ∧ eqB (zat exW k).2 (zat exW k).2 = true := by
  intro k hk
  rcases (by omega : k = 0 ∨ k = 1 ∨ k = 2 ∨ k = 3) with rfl | rfl | rfl | rfl <;> exact ⟨by kernel_rfl, by kernel_rfl⟩
def exP : Elm := el2 4 ⟨#[73, 49]⟩ ⟨#[97]⟩ ⟨#[48]⟩ 4611686018427387904 6
theorem exP_K : phK exP = 0 := by kernel_rfl
theorem exP_C : phC exP = (some 0, some 4611686018427387904) := by kernel_rfl
end Go.Proofs.Ytmhplaanpbpndaa
namespace Go.Proofs.Ytmhplaanpbpndaa
open Fl Go.Maps RowKit Joins Deep
set_option linter.unusedVariables false

theorem none_nil (w : World) : NoNet (.pointer none) w := .inl rfl
theorem none_box (w : World) : NoNet (.pointer (some ⟨w.heap.size, 0, none⟩)) (w.alloc (.cells #[.slice none 0 0, .slice none 0 0, .map none, .slice none 0 0, .map none, .slice none 0 0, .map none] 64)) := by
  refine .inr ⟨_, rfl, ?_⟩
  rw [cell_of_row _ _ _ _ _ (0, 0) (heap_alloc_new w _)]; rfl
/-- a fault of no net, as it lies in memory -/
def Fk (w : World) (q : Nat) : Prop := w.heap[q]? = some (.cells #[.int .i64 1, .int .i64 (-1)] 29 (0, 0))
theorem Fk.on {w w' : World} {q : Nat} (h : Fk w q) (hb : Below w.heap.size w w') : Fk w' q := by
  unfold Fk at *
  rw [hb.block q (Array.getElem?_eq_some_iff.1 h).1]; exact h
theorem fk_new (w : World) : Fk (w.alloc (.cells #[.int .i64 1, .int .i64 (-1)] 29)) w.heap.size := heap_alloc_new w _
end Go.Proofs.Ytmhplaanpbpndaa
