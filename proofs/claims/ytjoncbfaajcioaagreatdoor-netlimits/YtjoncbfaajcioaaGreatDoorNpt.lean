/-
  The chapter's example: read, printed, asked: awake of the statements.
-/
import Derived.Test.YtjoncbfaajcioaaGreatDoorNps
import Derived.Test.YtjoncbfaajcioaaGreatDoorBpd
namespace Go.Proofs.YtjoncbfaajcioaaGreatDoor
open Go.Maps Go.RowKit Joins Deep
set_option linter.unusedVariables false
set_option maxRecDepth 100000

theorem ex_parse (w : World) (hw : Wow w) : Calls Tryz.prog 6 #[.string ⟨#[82, 49, 32, 97, 32, 98, 32, 52, 46, 55, 107, 10, 86, 49, 32, 97, 32, 48, 32, 49, 48, 32, 54, 10, 67, 49, 32, 98, 32, 48, 32, 49, 48, 48, 110, 10]⟩] w fun e w' => ∃ base p b, e = .returned (.tuple #[.pointer (some ⟨p, 0, none⟩), .agg #[.int .i64 0, .int .i64 0]]) ∧ Nt w' base p exN b ∧ Below w.heap.size w w' := by
  refine (parse_main exS w (by decide) hw ex_er).mono ?_
  rintro e w' ⟨hb, ⟨-, -, base, p, b, rfl, hN, hp⟩ | ⟨h1, -⟩⟩
  · rw [ex_a, ex_of] at hN
    exact ⟨base, p, b, rfl, hN, hb⟩
  · rw [ex_e] at h1; exact absurd rfl h1
theorem ex_print (w : World) (base p : Nat) (b : Nb) (hN : Nt w base p exN b) (hw : Pw w) (hP : ∀ x ∈ exE, PrE x (exX x)) :
    Calls Tryz.prog 19 #[.pointer (some ⟨p, 0, none⟩)] w fun e w' => e = .returned (.string ⟨#[82, 49, 32, 97, 32, 98, 32, 52, 46, 55, 107, 10, 86, 49, 32, 97, 32, 48, 32, 49, 48, 32, 54, 10, 67, 49, 32, 98, 32, 48, 32, 49, 48, 48, 110, 10]⟩) ∧ Below w.heap.size w w' := by
  refine (nprint_any w base p exN b exX hN hw hP (by have h := congrArg Array.size ex_pr; simp at h; show (prnL exX exE).length ≤ _; rw [h]; decide) (by decide)).mono ?_
  rintro e w' ⟨rfl, hb⟩
  refine ⟨?_, hb⟩
  show Ending.returned (.string ⟨(prnL exX exE).toArray⟩) = _
  rw [ex_pr]; rfl
set_option maxHeartbeats 4000000 in
theorem awake15_by (w : World) (hw : Wow w) (hP : ∀ x ∈ exE, PrE x (exX x)) : Calls Tryz.prog 20 #[] w fun e w' => e = .returned (.bool true) ∧ Below w.heap.size w w' := by
  have HW : Hid (Wow w) := hw
  have HP : Hid (∀ x ∈ exE, PrE x (exX x)) := hP
  have HA : Hid (∀ W, Wow W → Calls Tryz.prog 6 #[.string ⟨#[82, 49, 32, 97, 32, 98, 32, 52, 46, 55, 107, 10, 86, 49, 32, 97, 32, 48, 32, 49, 48, 32, 54, 10, 67, 49, 32, 98, 32, 48, 32, 49, 48, 48, 110, 10]⟩] W fun e w' => ∃ base p b, e = .returned (.tuple #[.pointer (some ⟨p, 0, none⟩), .agg #[.int .i64 0, .int .i64 0]]) ∧ Nt w' base p exN b ∧ Below W.heap.size W w') := ex_parse
  have HQ : Hid (∀ W base p b, Nt W base p exN b → Pw W → Calls Tryz.prog 19 #[.pointer (some ⟨p, 0, none⟩)] W fun e w' => e = .returned (.string ⟨#[82, 49, 32, 97, 32, 98, 32, 52, 46, 55, 107, 10, 86, 49, 32, 97, 32, 48, 32, 49, 48, 32, 54, 10, 67, 49, 32, 98, 32, 48, 32, 49, 48, 48, 110, 10]⟩) ∧ Below W.heap.size W w') := fun W base p b h1 h2 => ex_print W base p b h1 h2 hP
  have HR : Hid (∀ W base p b, Nt W base p exN b → Calls Tryz.prog 18 #[.pointer (some ⟨p, 0, none⟩)] W fun e w' => e = .returned (.int .i64 3) ∧ Below W.heap.size W w') := fun W base p b h1 => norder_made h1 (by decide) (by decide)
  have HS : Hid (∀ W base p b, Nt W base p exN b → Calls Tryz.prog 17 #[.pointer (some ⟨p, 0, none⟩)] W fun e w' => ∃ v', e = .returned v' ∧ w'.ownsRow W.heap.size 9 1 v' 2 ([[97], [98]].map sv) ∧ Below W.heap.size W w') := fun W base p b h1 => nodes_made h1 (by decide)
  have HC : Hid (∀ (W : World) (n : Nat) (v : Value), W.ownsRow n 9 1 v 2 ([[97], [98]].map sv) → Calls Tryz.prog 11 #[v, .slice (some ⟨W.heap.size, 0, none⟩) 2 2] (W.alloc (.cells #[.string ⟨#[97]⟩, .string ⟨#[98]⟩] 9)) fun e w' => e = .returned (.bool true) ∧ Below (W.alloc (.cells #[.string ⟨#[97]⟩, .string ⟨#[98]⟩] 9)).heap.size (W.alloc (.cells #[.string ⟨#[97]⟩, .string ⟨#[98]⟩] 9)) w') := fun W n v h => sameS_any (W.alloc (.cells #[.string ⟨#[97]⟩, .string ⟨#[98]⟩] 9)) n W.heap.size v (.slice (some ⟨W.heap.size, 0, none⟩) 2 2) [[97], [98]] [[97], [98]] (h.alloc _) (World.ownsRow_lit W #[.string ⟨#[97]⟩, .string ⟨#[98]⟩] 2 (Nat.le_refl _) (by decide) rfl) (by decide) (by decide)
  clear hw hP
  go_enter Tryz.func20, Tryz.ntmps20
  go_wp2_with (first
    | (go_at_call 6; (with_reducible refine (HA.out _ HW.out).mono ?_); rintro e w1 ⟨base, p, b, rfl, hN, hb⟩; (have H1 : Hid (Nt w1 base p exN b ∧ Below w.heap.size w w1) := ⟨hN, hb⟩); clear hN hb)
    | (go_at_call 19; (with_reducible refine (HQ.out _ base p b (H1.out.1.below ((Below.refl _ _).alloc (Nat.le_refl _) _)) (HW.out.pw.kept (H1.out.2.alloc H1.out.2.size _))).mono ?_); rintro e w2 ⟨rfl, hb2⟩; (have H2 : Hid (Nt w2 base p exN b ∧ Below w.heap.size w w2) := ⟨(H1.out.1.below ((Below.refl _ _).alloc (Nat.le_refl _) _)).below hb2, (H1.out.2.alloc H1.out.2.size _).trans (hb2.mono (H1.out.2.alloc H1.out.2.size _).size)⟩); clear hb2)
    | (go_at_call 17; (with_reducible refine (HS.out _ base p b H2.out.1).mono ?_); rintro e w3 ⟨v3, rfl, hr3, hb3⟩; (have H3 : Hid (Nt w3 base p exN b ∧ Below w.heap.size w w3 ∧ w3.ownsRow w2.heap.size 9 1 v3 2 ([[97], [98]].map sv)) := ⟨H2.out.1.below hb3, H2.out.2.trans (hb3.mono H2.out.2.size), hr3⟩); clear hb3 hr3)
    | (go_at_call 11; (with_reducible refine (HC.out _ _ _ H3.out.2.2).mono ?_); rintro e w4 ⟨rfl, hb4⟩; (have H4 : Hid (Nt w4 base p exN b ∧ Below w.heap.size w w4) := ⟨(H3.out.1.below ((Below.refl _ _).alloc (Nat.le_refl _) _)).below hb4, (H3.out.2.1.alloc H3.out.2.1.size _).trans (hb4.mono (H3.out.2.1.alloc H3.out.2.1.size _).size)⟩); clear hb4)
    | (go_at_call 18; (with_reducible refine (HR.out _ base p b H4.out.1).mono ?_); rintro e w5 ⟨rfl, hb5⟩; (have H5 : Hid (Below w.heap.size w w5) := H4.out.2.trans (hb5.mono H4.out.2.size)); clear hb5))
  go_ret
  exact ⟨rfl, H5.out⟩
end Go.Proofs.YtjoncbfaajcioaaGreatDoor
