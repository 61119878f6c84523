/-
  Number of 4.7k and of x.
-/
import Derived.Test.YtdcodajjcaipdaaDoorTfr
import Derived.Test.YtdcodajjcaipdaaDoorBqf
namespace Go.Proofs.YtdcodajjcaipdaaDoor
open RowKit
set_option linter.unusedVariables false

def s47 : ByteArray := ⟨#[52, 46, 55, 107]⟩
def sX : ByteArray := ⟨#[120]⟩
theorem p47_z : cZ s47 (pI s47) = 47 := by kernel_rfl
theorem p47_c : clp (cP s47 (pI s47)) = 2 := by kernel_rfl
theorem p47_b : pBad s47 = false := by kernel_rfl
theorem p47_t : tkb s47 0 45 = false := by kernel_rfl
theorem pX_b : pBad sX = true := by kernel_rfl
theorem pX_e : cEnd sX (pI sX) = 0 := by kernel_rfl
set_option maxRecDepth 100000 in
theorem flt_47 : flt 47 2 = 4661889719351640064 := by
  have e1 : pP 47 2 = 4700 := by decide
  have e2 : pQ 2 = 1 := by decide
  have n1 : nbits 4700 = 13 := nbits_eq (by decide) (by decide)
  have n2 : nbits 1 = 1 := nbits_eq (by decide) (by decide)
  have u : nU 4700 1 = 1033 := by unfold nU; rw [n1, n2]
  have d : nD 4700 1 = 1034 := by
    unfold nD
    rw [u, if_neg (by decide +kernel)]
  have r : nR 4700 1 = 5167704650547200 := by
    unfold nR
    rw [d, if_neg (by decide +kernel)]
    decide +kernel
  unfold flt
  rw [if_neg (by decide), e1, e2, d, r]
  decide +kernel
theorem pa_47 : paW s47 = 4661889719351640064 ∧ paE s47 = 0 ∧ paA s47 = 0 := by
  have hf : pF s47 = 4661889719351640064 := by unfold pF; rw [p47_z, p47_c]; exact flt_47
  have h64 : ¬ 64 < s47.size := by decide
  have hb : ¬ pBad s47 = true := by rw [p47_b]; decide
  refine ⟨?_, ?_, ?_⟩
  · unfold paW; rw [if_neg h64, if_neg hb, hf, if_neg (by decide), if_neg (by rw [p47_t]; decide)]
  · unfold paE; rw [if_neg h64, if_neg hb, hf, if_neg (by decide)]
  · unfold paA; rw [if_neg h64, if_neg hb, hf, if_neg (by decide)]
theorem pa_X : paE sX = 150 ∧ paA sX = 0 := by
  have h64 : ¬ 64 < sX.size := by decide
  refine ⟨?_, ?_⟩
  · unfold paE; rw [if_neg h64, if_pos pX_b]
  · unfold paA; rw [if_neg h64, if_pos pX_b, pX_e]; rfl
theorem two_al {w w1 : World} {a : Obj} {c : Array Value} {T : TypeId} (hb : Below ((w.alloc a).alloc (.cells c T)).heap.size ((w.alloc a).alloc (.cells c T)) w1) : Below w.heap.size w w1 ∧ w1.heap[w.heap.size + 1]? = some (.cells c T (0, 0)) := by
  constructor
  · exact (((Below.refl _ w).alloc (Nat.le_refl _) _).alloc (by simp) _).trans (hb.mono (by simp; omega))
  · have h := heap_alloc_new (w.alloc a) (.cells c T)
    rw [show (w.alloc a).heap.size = w.heap.size + 1 by simp] at h
    exact (hb.block (w.heap.size + 1) (by simp)).trans h
set_option maxHeartbeats 1000000 in
set_option maxRecDepth 100000 in
theorem number_t (t : ByteArray) (l c : Int) (w : World) :
    Calls Tryd.prog 15 #[.agg #[.string t, .int .i64 l, .int .i64 c]] w fun e w' => e = .returned (.tuple #[.float .f64 (paW t), fltV (paE t) (paA t)]) ∧ Below w.heap.size w w' := by
  have HP : Hid (∀ w : World, Calls Tryd.prog 32 #[.string t] w fun e w' => e = .returned (.tuple #[.float .f64 (paW t), .agg #[.int .i64 (paE t), .int .i64 (paA t)]]) ∧ Below w.heap.size w w') := fun w => Parse_any t w
  generalize paW t = x1 at HP ⊢
  generalize paE t = x2 at HP ⊢
  generalize paA t = x3 at HP ⊢
  go_enter Tryd.func15, Tryd.ntmps15
  go_wp2_with (first
    | (go_at_call 32; (with_reducible refine (HP.out _).mono ?_); rintro e w1 ⟨rfl, hb⟩; (obtain ⟨hb1, hf⟩ := two_al hb); (have HB : Hid (Below w.heap.size w w1) := hb1); (obtain ⟨c0, c1, f0, f1⟩ := two_c hf); (have rr := two_set hf (.int .i64 x2) (.int .i64 x3)); clear hb hf hb1))
  refine bodyPost_ret (by simp [results, Tryd.results15, go_sem, rr.1, rr.2]; try rfl) rfl ?_
  exact ⟨rfl, below_two HB.out (by omega) _ _⟩
end Go.Proofs.YtdcodajjcaipdaaDoor
