/-
  A way in a forest: back of package graph, whole.
-/
import Derived.Test.YtdlecihkjokeiaaGoa
namespace Go.Proofs.Ytdlecihkjokeiaa
open Go.Maps Go.RowKit
set_option linter.unusedVariables false
set_option maxRecDepth 100000

@[go_sem] theorem run_store_funcN {P : Program} (w : World) (a : Addr) (m : Mode) (f : Fn) (x y : Array Value) : (store a (.func f x y) m).run P w = stored P w a (.func f x y) m := run_store P w a _ m rfl
theorem row_le {w : World} {base b2 : Nat} {e : TypeId} {sz : Nat} {v : Value} {n : Nat} {xs : List Value} (h : w.ownsRow base e sz v n xs) (hb : b2 ≤ base) : w.ownsRow b2 e sz v n xs := by
  obtain ⟨h0, h1 | ⟨g, cap, cur, h1, h2, h3⟩⟩ := h
  · exact ⟨h0, .inl h1⟩
  · exact ⟨h0, .inr ⟨g, cap, cur, h1, by omega, h3⟩⟩
theorem sk_start (w : World) (fp b L : Nat) (tw : List (List Tw)) (hL : w.heap.size = L) (ht : TwR w fp L tw) :
    Sk ((((w.alloc (.cells #[.pointer (some ⟨fp, 0, none⟩)] 69)).alloc (.cells #[.int .i64 (b : Int)] 3)).alloc (.cells #[.slice none 0 0] 29)).alloc (.cells #[.func (.func 89) #[] #[.pointer (some ⟨L + 1, 0, none⟩), .pointer (some ⟨L, 0, none⟩), .pointer (some ⟨L + 3, 0, none⟩), .pointer (some ⟨L + 2, 0, none⟩)]] 136)) L fp b tw [] ∧
    Below L w ((((w.alloc (.cells #[.pointer (some ⟨fp, 0, none⟩)] 69)).alloc (.cells #[.int .i64 (b : Int)] 3)).alloc (.cells #[.slice none 0 0] 29)).alloc (.cells #[.func (.func 89) #[] #[.pointer (some ⟨L + 1, 0, none⟩), .pointer (some ⟨L, 0, none⟩), .pointer (some ⟨L + 3, 0, none⟩), .pointer (some ⟨L + 2, 0, none⟩)]] 136)) := by
  obtain ⟨w1, h1⟩ : ∃ w1, w1 = w.alloc (.cells #[.pointer (some ⟨fp, 0, none⟩)] 69) := ⟨_, rfl⟩
  rw [← h1]
  obtain ⟨w2, h2⟩ : ∃ w2, w2 = w1.alloc (.cells #[.int .i64 (b : Int)] 3) := ⟨_, rfl⟩
  rw [← h2]
  obtain ⟨w3, h3⟩ : ∃ w3, w3 = w2.alloc (.cells #[.slice none 0 0] 29) := ⟨_, rfl⟩
  rw [← h3]
  obtain ⟨w4, h4⟩ : ∃ w4, w4 = w3.alloc (.cells #[.func (.func 89) #[] #[.pointer (some ⟨L + 1, 0, none⟩), .pointer (some ⟨L, 0, none⟩), .pointer (some ⟨L + 3, 0, none⟩), .pointer (some ⟨L + 2, 0, none⟩)]] 136) := ⟨_, rfl⟩
  rw [← h4]
  have s1 : w1.heap.size = L + 1 := by rw [h1, ← hL]; simp
  have s2 : w2.heap.size = L + 2 := by rw [h2]; simp [s1]
  have s3 : w3.heap.size = L + 3 := by rw [h3]; simp [s2]
  have s4 : w4.heap.size = L + 4 := by rw [h4]; simp [s3]
  have b1 : Below L w w1 := by rw [h1]; exact (Below.refl _ _).alloc (by omega) _
  have b2 : Below (L + 1) w1 w2 := by rw [h2]; exact (Below.refl _ _).alloc (by omega) _
  have b3 : Below (L + 2) w2 w3 := by rw [h3]; exact (Below.refl _ _).alloc (by omega) _
  have b4 : Below (L + 3) w3 w4 := by rw [h4]; exact (Below.refl _ _).alloc (by omega) _
  have k1 : w1.heap[L]? = some (.cells #[.pointer (some ⟨fp, 0, none⟩)] 69 (0, 0)) := by rw [h1, ← hL]; exact heap_alloc_new _ _
  have k2 : w2.heap[L + 1]? = some (.cells #[.int .i64 (b : Int)] 3 (0, 0)) := by rw [h2, ← s1]; exact heap_alloc_new _ _
  have k3 : w3.heap[L + 2]? = some (.cells #[.slice none 0 0] 29 (0, 0)) := by rw [h3, ← s2]; exact heap_alloc_new _ _
  have k4 : w4.heap[L + 3]? = some (.cells #[.func (.func 89) #[] #[.pointer (some ⟨L + 1, 0, none⟩), .pointer (some ⟨L, 0, none⟩), .pointer (some ⟨L + 3, 0, none⟩), .pointer (some ⟨L + 2, 0, none⟩)]] 136 (0, 0)) := by rw [h4]; have := heap_alloc_new w3 (.cells #[.func (.func 89) #[] #[.pointer (some ⟨L + 1, 0, none⟩), .pointer (some ⟨L, 0, none⟩), .pointer (some ⟨L + 3, 0, none⟩), .pointer (some ⟨L + 2, 0, none⟩)]] 136); rw [s3] at this; exact this
  have q1 : w4.heap[L]? = some (.cells #[.pointer (some ⟨fp, 0, none⟩)] 69 (0, 0)) := by rw [b4.block _ (by omega), b3.block _ (by omega), b2.block _ (by omega)]; exact k1
  have q2 : w4.heap[L + 1]? = some (.cells #[.int .i64 (b : Int)] 3 (0, 0)) := by rw [b4.block _ (by omega), b3.block _ (by omega)]; exact k2
  have q3 : w4.heap[L + 2]? = some (.cells #[.slice none 0 0] 29 (0, 0)) := by rw [b4.block _ (by omega)]; exact k3
  have hB : Below L w w4 := b1.trans ((b2.mono (by omega)).trans ((b3.mono (by omega)).trans (b4.mono (by omega))))
  refine ⟨⟨by rw [cell_of_row w4 L 0 _ _ (0, 0) q1]; rfl, by rw [cell_of_row w4 (L + 1) 0 _ _ (0, 0) q2]; rfl, ⟨.slice none 0 0, by rw [cell_of_row w4 (L + 2) 0 _ _ (0, 0) q3]; rfl, frozen_of_row w4 (L + 2) 0 _ _ q3, World.ownsRow_nil _ _ _ _⟩, by rw [cell_of_row w4 (L + 3) 0 _ _ (0, 0) k4]; rfl, ht.kept hB, by omega⟩, hB⟩
/-- back: the way from b back to a -/
theorem back_any (w : World) (fp a b f : Nat) (tw : List (List Tw)) (r : Option (List Nm)) (ht : TwR w fp w.heap.size tw) (hf : f ≤ 100000) (hr : skF tw b f a (-1) = some r) :
    Calls Try.prog 81 #[.pointer (some ⟨fp, 0, none⟩), .int .i64 (a : Int), .int .i64 (b : Int)] w fun e w' => ∃ v, e = .returned (.tuple #[v, .bool r.isSome]) ∧ w'.ownsRow w.heap.size 9 1 v (r.getD []).length ((r.getD []).map sv) ∧ Below w.heap.size w w' := by
  obtain ⟨L, hL⟩ : ∃ L, w.heap.size = L := ⟨_, rfl⟩
  rw [hL] at ht
  have hs := sk_start w fp b L tw hL ht
  have hcall := seek_any L fp b tw f a (-1) [] r _ hs.1 (by simpa using hf) hr
  have HB : Hid _ := hs.2
  clear hs
  go_enter Try.func81, Try.ntmps81
  go_wp2_with fail
  refine hcall.mono ?_
  rintro e5 w5 ⟨rfl, S5, B5, K5⟩
  obtain ⟨v, cw, fw, ow⟩ := S5.cw
  have HO : Hid (w5.ownsRow (L + 4) 9 1 v (r.getD []).length ((r.getD []).map sv) ∧ Below L w w5) := ⟨by simpa using ow, HB.out.trans B5⟩
  clear S5 B5 K5 ow hcall
  go_wp2_with fail
  go_ret2
  refine ⟨v, rfl, row_le HO.out.1 (by omega), ?_⟩
  rw [hL]; exact HO.out.2

end Go.Proofs.Ytdlecihkjokeiaa
