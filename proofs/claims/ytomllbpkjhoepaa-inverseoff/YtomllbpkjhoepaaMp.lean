/-
  Variables of three cells and owned rows, carried through new memory and through stores elsewhere.
-/
import Derived.Test.YtomllbpkjhoepaaBnc
namespace Go.Proofs.Ytomllbpkjhoepaa
open Fl RowKit

theorem V3.drew {p : Nat} {a b c : Value} {w : World} (h : V3 p a b c w) : V3 p a b c w.drew := h.drewN 1
theorem V3.putR {p : Nat} {x y z : Value} {w : World} (h : V3 p x y z w) (a b c : Value) : V3 p a b c (((w.setCell ⟨p, 0, none⟩ a).setCell ⟨p, 1, none⟩ b).setCell ⟨p, 2, none⟩ c) := h.put a b c
theorem V3.otherR {p n : Nat} {a b c : Value} {w : World} (h : V3 p a b c w) (hn : n ≠ p) (x y z : Value) : V3 p a b c (((w.setCell ⟨n, 0, none⟩ x).setCell ⟨n, 1, none⟩ y).setCell ⟨n, 2, none⟩ z) := h.other3 hn x y z
theorem cell_dr {w : World} {q : Addr} {v : Value} (h : w.cell? q = some v) : w.drew.cell? q = some v := h
theorem cell_ks {w : World} {q : Addr} {v u : Value} {g k : Nat} (h : w.cell? q = some v) (hq : q.block ≠ g) : (w.setCell ⟨g, k, none⟩ u).cell? q = some v := by
  rw [other_cell _ (fun e => hq (congrArg Addr.block e.symm))]; exact h
theorem cell_kb {w : World} {b o g k : Nat} {v u : Value} (h : w.cell? ⟨b, o, none⟩ = some v) (hq : b ≠ g) : (w.setCell ⟨g, k, none⟩ u).cell? ⟨b, o, none⟩ = some v := cell_ks h hq
theorem cell_ab {w : World} {b o : Nat} {v : Value} {x : Obj} (h : w.cell? ⟨b, o, none⟩ = some v) (hq : b < w.heap.size) : (w.alloc x).cell? ⟨b, o, none⟩ = some v := cell_al h hq
theorem lt_al {w : World} {k : Nat} {o : Obj} (h : k < w.heap.size) : k < (w.alloc o).heap.size := by rw [size_al]; omega
theorem lt_dr {w : World} {k : Nat} (h : k < w.heap.size) : k < w.drew.heap.size := h
theorem lt_sc {w : World} {k : Nat} {q : Addr} {v : Value} (h : k < w.heap.size) : k < (w.setCell q v).heap.size := by simpa using h
theorem le_al {w : World} {k : Nat} {o : Obj} (h : k ≤ w.heap.size) : k ≤ (w.alloc o).heap.size := by rw [size_al]; omega
theorem le_dr {w : World} {k : Nat} (h : k ≤ w.heap.size) : k ≤ w.drew.heap.size := h
theorem mpick_any (a : Int) (n : Nat) (hn : 0 < n) (hb : n ≤ 64) : ∃ j : Nat, j < n ∧ ∀ w, Calls Try.prog 20 #[.int .i64 a, .int .i64 n] w fun e w' => e = .returned (.int .i64 (j : Int)) ∧ w' = w := by
  have h1 := Int.natAbs_tmod a (n : Int)
  have h2 : (a.tmod n).natAbs < n := by
    rw [h1, Int.natAbs_natCast]; exact Nat.mod_lt _ hn
  have hne : ¬ (n : Int) = 0 := by omega
  by_cases h0 : a.tmod n < 0
  · obtain ⟨j, hj⟩ := Int.eq_ofNat_of_zero_le (show 0 ≤ a.tmod n + (n : Int) by omega)
    refine ⟨j, by omega, fun w => ?_⟩
    have hwr : IntKind.i64.wrap (a.tmod n + (n : Int)) = (j : Int) := by rw [IntKind.wrap_i64]; omega
    clear h1 h2
    go_enter Try.func20, Try.ntmps20
    go_wp2
    go_ret
    exact ⟨by first | rfl | (rw [hj]; rfl) | (simp [hj]), rfl⟩
  · obtain ⟨j, hj⟩ := Int.eq_ofNat_of_zero_le (show 0 ≤ a.tmod n by omega)
    refine ⟨j, by omega, fun w => ?_⟩
    clear h1 h2
    go_enter Try.func20, Try.ntmps20
    go_wp2
    go_ret
    exact ⟨by first | rfl | (rw [hj]; rfl) | (simp [hj]), rfl⟩
/-- a row that is owned, between two blocks -/
structure Rx (lo hi : Nat) (w : World) (v : Value) (n : Nat) (zs : List Cw) : Prop where
  rw : Rw w lo v n zs
  lt : ∀ g, v.ownBlock = some g → g < hi
theorem Rw.rx {w : World} {b n : Nat} {v : Value} {zs : List Cw} (h : Rw w b v n zs) : Rx b w.heap.size w v n zs := ⟨h, fun g hg => (h.own.lt g hg).2⟩
theorem Rx.below {lo hi n : Nat} {w w' : World} {v : Value} {zs : List Cw} (h : Rx lo hi w v n zs) (hb : Below w.heap.size w w') : Rx lo hi w' v n zs := ⟨h.rw.below hb, h.lt⟩
theorem Rx.drew {lo hi n : Nat} {w : World} {v : Value} {zs : List Cw} (h : Rx lo hi w v n zs) : Rx lo hi w.drew v n zs := ⟨h.rw.drewN 1, h.lt⟩
theorem Rx.lo {lo lo' hi n : Nat} {w : World} {v : Value} {zs : List Cw} (h : Rx lo hi w v n zs) (hl : lo' ≤ lo) : Rx lo' hi w v n zs := ⟨rw_base h.rw hl, h.lt⟩
theorem Rx.setR {lo hi n p : Nat} {w : World} {v : Value} {zs : List Cw} (h : Rx lo hi w v n zs) (hp : p < lo ∨ hi ≤ p) (x y z : Value) : Rx lo hi (((w.setCell ⟨p, 0, none⟩ x).setCell ⟨p, 1, none⟩ y).setCell ⟨p, 2, none⟩ z) v n zs := by
  refine ⟨⟨h.rw.len, own_at h.rw.own (fun q hq => ?_)⟩, h.lt⟩
  have h1 := (h.rw.own.lt q hq).1
  have h2 := h.lt q hq
  exact set3_block (w := w) (by omega)
theorem below_setR {n p : Nat} {w w' : World} (h : Below n w w') (hp : n ≤ p) (a b c : Value) : Below n w (((w'.setCell ⟨p, 0, none⟩ a).setCell ⟨p, 1, none⟩ b).setCell ⟨p, 2, none⟩ c) := below_set3 h hp a b c
theorem size_dr (w : World) : w.drew.heap.size = w.heap.size := rfl
theorem size_ald (w : World) (o : Obj) : (w.alloc o).drew.heap.size = w.heap.size + 1 := size_al w o
theorem size_dal (w : World) (o : Obj) : (w.drew.alloc o).heap.size = w.heap.size + 1 := size_al w.drew o
theorem size_dald (w : World) (o : Obj) : (w.drew.alloc o).drew.heap.size = w.heap.size + 1 := size_al w.drew o
theorem size_s3 (w : World) (p : Nat) (a b c : Value) : (((w.setCell ⟨p, 0, none⟩ a).setCell ⟨p, 1, none⟩ b).setCell ⟨p, 2, none⟩ c).heap.size = w.heap.size := by simp
theorem size_s3al (w : World) (p : Nat) (a b c : Value) (o : Obj) : ((((w.setCell ⟨p, 0, none⟩ a).setCell ⟨p, 1, none⟩ b).setCell ⟨p, 2, none⟩ c).alloc o).heap.size = w.heap.size + 1 := by rw [size_al, size_s3]
theorem v3_both {p : Nat} {a b c : Value} {W w' : World} (h : V3 p a b c W) (hb : Below W.heap.size W w') : V3 p a b c w' ∧ p < W.heap.size := ⟨h.below hb, h.lt⟩
theorem lo_of {B : Nat} {W w' : World} (_hb : Below W.heap.size W w') (h : B ≤ W.heap.size) : B ≤ W.heap.size := h
theorem size_sc (w : World) (q : Addr) (v : Value) : (w.setCell q v).heap.size = w.heap.size := by simp

end Go.Proofs.Ytomllbpkjhoepaa
