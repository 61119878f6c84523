/-
  Words: Cut where nothing is wrong; the statements' lives.
-/
import Derived.Test.YtpfdgibgdehcdaaDoorTke
import Derived.Test.YtpfdgibgdehcdaaDoorTkh
import Derived.Test.YtpfdgibgdehcdaaDoorTki
namespace Go.Proofs.YtpfdgibgdehcdaaDoor
open RowKit Joins Deep
set_option linter.unusedVariables false

/-- the variable of the library that strings.Split names holds some number -/
def Mln (w : World) : Prop := ∃ m, w.cell? ⟨2, 0, none⟩ = some (.int .i64 m)
theorem Mln.kept {w w' : World} (h : Mln w) (hb : Below w.heap.size w w') : Mln w' := by
  obtain ⟨m, hm⟩ := h
  exact ⟨m, (hb.cell (World.block_lt_of_cell? w _ hm)).trans hm⟩
theorem cut_ok (s : ByteArray) (w : World) (hs : s.size ≤ 65536) (hm : Mln w) (he : erL 0 (liT s) = (0, 0)) :
    Calls Tryd.prog 16 #[.string s] w fun e w' => ∃ v, e = .returned (.tuple #[v, fltV 0 0]) ∧ RdL w' v (tkL 0 (liT s)) ∧ Below w.heap.size w w' := by
  obtain ⟨m, hm⟩ := hm
  refine (cut_any s m w hs hm).mono ?_
  rintro e w' ⟨hb, v, h1, h2⟩
  rw [he] at h1 h2
  rcases h2 with ⟨_, _, rfl, vs, ts, hf, ht⟩ | ⟨h, _⟩
  · exact ⟨_, h1, RdL.fam hs hf ht, hb⟩
  · exact absurd rfl h
theorem cut_bad (s : ByteArray) (w : World) (hs : s.size ≤ 65536) (hm : Mln w) {a b : Nat} (he : erL 0 (liT s) = (a, b)) (ha : a ≠ 0) :
    Calls Tryd.prog 16 #[.string s] w fun e w' => e = .returned (.tuple #[.slice none 0 0, fltV a b]) ∧ Below w.heap.size w w' := by
  obtain ⟨m, hm⟩ := hm
  refine (cut_any s m w hs hm).mono ?_
  rintro e w' ⟨hb, v, h1, h2⟩
  rw [he] at h1 h2
  rcases h2 with ⟨h, _⟩ | ⟨_, rfl⟩
  · exact absurd h ha
  · exact ⟨h1, hb⟩

def lvS : ByteArray := ⟨#[82, 49, 32, 97, 32, 48, 32, 52, 46, 55, 107, 32, 42, 32, 108, 111, 97, 100]⟩
def lvT : List (List Tok) := [[(⟨#[82, 49]⟩, 0, 0), (⟨#[97]⟩, 0, 3), (⟨#[48]⟩, 0, 5), (⟨#[52, 46, 55, 107]⟩, 0, 7)]]
set_option maxRecDepth 100000 in
theorem lv_er : erL 0 (liT lvS) = (0, 0) := by kernel_rfl
set_option maxRecDepth 100000 in
theorem lv_tk : tkL 0 (liT lvS) = lvT := by kernel_rfl
set_option maxRecDepth 100000 in
theorem lv_jn : jnL lvT = [82, 49, 32, 97, 32, 48, 32, 52, 46, 55, 107, 10] := by kernel_rfl
/-- a list of words laid as a literal -/
theorem RdT.lit {w : World} {B : Nat} {ts : List Tok} {cs : Array Value} {c : Nat} (h : w.heap[B]? = some (.cells cs 85 (0, 0))) (hc : cs.toList = tcs ts) (hl : ts.length ≤ 4611686018427387904) : RdT w (.slice (some ⟨B, 0, none⟩) ts.length c) ts := by
  refine ⟨hl, _, _, rfl, .inr ⟨B, rfl, fun k p hk => ?_⟩⟩
  obtain ⟨q0, q1, q2⟩ := tcs_get hk
  rw [← hc] at q0 q1 q2
  refine ⟨?_, ?_, ?_⟩
  · rw [cell_of_row w B _ _ _ (0, 0) h]; simpa using q0
  · rw [cell_of_row w B _ _ _ (0, 0) h]; simpa using q1
  · rw [cell_of_row w B _ _ _ (0, 0) h]; simpa using q2
theorem lv_rd (w : World) (B1 B2 : Nat) (h1 : w.heap[B1]? = some (.cells #[.string ⟨#[82, 49]⟩, .int .i64 0, .int .i64 0, .string ⟨#[97]⟩, .int .i64 0, .int .i64 3, .string ⟨#[48]⟩, .int .i64 0, .int .i64 5, .string ⟨#[52, 46, 55, 107]⟩, .int .i64 0, .int .i64 7] 85 (0, 0)))
    (h2 : w.cell? ⟨B2, 0, none⟩ = some (.slice (some ⟨B1, 0, none⟩) 4 4)) : RdL w (.slice (some ⟨B2, 0, none⟩) 1 1) lvT := by
  refine ⟨by decide, _, _, rfl, .inr ⟨B2, rfl, fun k ts hk => ?_⟩⟩
  have hk0 : k = 0 := by have := (List.getElem?_eq_some_iff.1 hk).1; have e : lvT.length = 1 := rfl; omega
  subst hk0
  cases hk
  exact ⟨_, h2, RdT.lit (ts := [(⟨#[82, 49]⟩, 0, 0), (⟨#[97]⟩, 0, 3), (⟨#[48]⟩, 0, 5), (⟨#[52, 46, 55, 107]⟩, 0, 7)]) h1 rfl (by decide)⟩

theorem below_3 (w : World) (a b c : Obj) : Below w.heap.size w (((w.alloc a).alloc b).alloc c) := (((Below.refl _ w).alloc (Nat.le_refl _) a).alloc (by simp) b).alloc (by simp; omega) c
theorem below_dn {n : Nat} {w w' : World} (h : Below n w w') (q : Nat) : Below n w (w'.drewN q) := by
  induction q with
  | zero => exact h
  | succ q ih => exact ih.drew
theorem lv_same (w : World) (v : Value) (h : RdL w v lvT) (F : Obj) :
    Calls Tryd.prog 38 #[v, .slice (some ⟨w.heap.size + 1 + 1, 0, none⟩) 1 1] (((w.alloc F).alloc (.cells #[.string ⟨#[82, 49]⟩, .int .i64 0, .int .i64 0, .string ⟨#[97]⟩, .int .i64 0, .int .i64 3, .string ⟨#[48]⟩, .int .i64 0, .int .i64 5, .string ⟨#[52, 46, 55, 107]⟩, .int .i64 0, .int .i64 7] 85)).alloc (.cells #[.slice (some ⟨w.heap.size + 1, 0, none⟩) 4 4] 80))
      fun e w' => e = .returned (.bool true) ∧ RdL w' v lvT ∧ Below w.heap.size w w' := by
  have h1 := h.kept (below_3 w F (.cells #[.string ⟨#[82, 49]⟩, .int .i64 0, .int .i64 0, .string ⟨#[97]⟩, .int .i64 0, .int .i64 3, .string ⟨#[48]⟩, .int .i64 0, .int .i64 5, .string ⟨#[52, 46, 55, 107]⟩, .int .i64 0, .int .i64 7] 85) (.cells #[.slice (some ⟨w.heap.size + 1, 0, none⟩) 4 4] 80))
  have h2 := lv_rd (((w.alloc F).alloc (.cells #[.string ⟨#[82, 49]⟩, .int .i64 0, .int .i64 0, .string ⟨#[97]⟩, .int .i64 0, .int .i64 3, .string ⟨#[48]⟩, .int .i64 0, .int .i64 5, .string ⟨#[52, 46, 55, 107]⟩, .int .i64 0, .int .i64 7] 85)).alloc (.cells #[.slice (some ⟨w.heap.size + 1, 0, none⟩) 4 4] 80)) (w.heap.size + 1) (w.heap.size + 1 + 1)
    (by rw [blk_alloc_lt _ _ _ (by simp)]
        have := heap_alloc_new (w.alloc F) (.cells #[.string ⟨#[82, 49]⟩, .int .i64 0, .int .i64 0, .string ⟨#[97]⟩, .int .i64 0, .int .i64 3, .string ⟨#[48]⟩, .int .i64 0, .int .i64 5, .string ⟨#[52, 46, 55, 107]⟩, .int .i64 0, .int .i64 7] 85)
        simpa using this)
    (by have := heap_alloc_new ((w.alloc F).alloc (.cells #[.string ⟨#[82, 49]⟩, .int .i64 0, .int .i64 0, .string ⟨#[97]⟩, .int .i64 0, .int .i64 3, .string ⟨#[48]⟩, .int .i64 0, .int .i64 5, .string ⟨#[52, 46, 55, 107]⟩, .int .i64 0, .int .i64 7] 85)) (.cells #[.slice (some ⟨w.heap.size + 1, 0, none⟩) 4 4] 80)
        rw [show ((w.alloc F).alloc (.cells #[.string ⟨#[82, 49]⟩, .int .i64 0, .int .i64 0, .string ⟨#[97]⟩, .int .i64 0, .int .i64 3, .string ⟨#[48]⟩, .int .i64 0, .int .i64 5, .string ⟨#[52, 46, 55, 107]⟩, .int .i64 0, .int .i64 7] 85)).heap.size = w.heap.size + 1 + 1 by simp] at this
        rw [cell_of_row _ _ 0 _ _ (0, 0) this]; rfl)
  refine (same_any _ v _ lvT lvT h1 h2).mono ?_
  rintro e w' ⟨rfl, q, rfl⟩
  refine ⟨by simp, h1.kept (below_dn (Below.refl _ _) q), below_dn (below_3 w _ _ _) q⟩

set_option maxHeartbeats 4000000 in
set_option maxRecDepth 100000 in
theorem lives_any (w : World) (hm : Mln w) :
    Calls Tryd.prog 17 #[] w fun e w' => e = .returned (.bool true) ∧ Below w.heap.size w w' := by
  have HCU : Hid (Calls Tryd.prog 16 #[.string ⟨#[82, 49, 32, 97, 32, 48, 32, 52, 46, 55, 107, 32, 42, 32, 108, 111, 97, 100]⟩] w fun e w' => ∃ v, e = .returned (.tuple #[v, fltV 0 0]) ∧ RdL w' v lvT ∧ Below w.heap.size w w') := by
    have := cut_ok lvS w (by decide) hm lv_er
    rw [lv_tk] at this; exact this
  go_enter Tryd.func17, Tryd.ntmps17
  go_wp2_with (first
    | (go_at_call 16; (with_reducible refine HCU.out.mono ?_); rintro e w1 ⟨v, rfl, hr, hb⟩; (have HR : Hid (RdL w1 v lvT) := hr); (have HB : Hid (Below w.heap.size w w1) := hb); clear hr hb)
    | (go_at_call 38; (with_reducible refine (lv_same w1 v HR.out _).mono ?_); rintro e w2 ⟨rfl, hr, hb⟩; (have HR2 : Hid (RdL w2 v lvT) := hr); (have HB2 : Hid (Below w.heap.size w w2) := HB.out.trans (hb.mono HB.out.size)); clear hr hb)
    | (go_at_call 39; (with_reducible refine (join_any w2 v lvT HR2.out (by rw [lv_jn]; decide)).mono ?_); rintro e w3 ⟨rfl, hb⟩; (have HB3 : Hid (Below w.heap.size w w3) := HB2.out.trans (hb.mono HB2.out.size)); clear hb; rw [lv_jn]))
  go_ret
  exact ⟨rfl, HB3.out⟩
end Go.Proofs.YtpfdgibgdehcdaaDoor
