/-
  What solve's turned and unknowns hand back.
-/
import Derived.Test.YtklbgibhbnijaaaSld
namespace Go.Proofs.Ytklbgibhbnijaaa
open Fl RowKit

/-- the matrix turned -/
def trF (n : Nat) (E : Nat → Cw) (k : Nat) : Cw := E (k % n * n + k / n)
theorem mz_tr {n : Nat} {E : Nat → Cw} {i j : Nat} (hj : j < n) : mz n (trF n E) i j = mz n E j i := by
  unfold mz trF
  rw [Nat.add_comm (i * n), Nat.add_mul_div_right _ _ (by omega), Nat.div_eq_of_lt hj, Nat.add_mul_mod_self_right, Nat.mod_eq_of_lt hj, Nat.zero_add]
set_option maxHeartbeats 1000000 in
/-- the transpose of finite numbers: the words themselves -/
theorem turned10_any {n ca : Nat} {A : Option Addr} {E : Nat → Cw} {w : World} (hn : n ≤ 64) (hca : n * n ≤ ca) (hA : A = none ∧ n * n = 0 ∨ ∃ g off, A = some ⟨g, off, none⟩) (hM : Rc w A (ro (n * n) E)) (hW : ∀ k, k < n * n → okz (E k)) :
    Calls Try.prog 92 #[.agg #[.int .i64 n, .int .i64 n, .slice A (n * n) ca]] w fun e w' => ∃ (g : Nat) (E' : Nat → Cw), e = .returned (.agg #[.int .i64 n, .int .i64 n, .slice (some ⟨g, 0, none⟩) (n * n) (n * n)]) ∧ (∀ k, k < n * n → okz (E' k)) ∧ (∀ i j, i < n → j < n → mz n E' i j = mz n E j i) ∧ Rw w' w.heap.size (.slice (some ⟨g, 0, none⟩) (n * n) (n * n)) (n * n) (ro (n * n) E') ∧ Below w.heap.size w w' := by
  have hMx : Mx w n n A ca (fun k => anz (E k)) (ro (n * n) E) := ⟨ro_len _ _, hn, hn, fun k hk => by rw [ro_at _ hk]; exact repz_anz (hW k hk), ⟨hM, by rw [ro_len]; exact hA, by rw [ro_len]; exact hca⟩⟩
  have HX := hid_o hMx
  clear hMx hM hW hA
  go_enter Try.func92, Try.ntmps92
  go_wp2_with (first
    | (go_at_call 122; (refine (mtranspose (HX.out.below (by repeat first | exact below_self _ | refine ba ?_ _ ))).mono ?_); (rintro e w3 ⟨g, zs, rfl, hN, hb⟩); (have Vr : V3 (w.heap.size + 1) (.int .i64 0) (.int .i64 0) (.slice none 0 0) w3 := V3.below (by repeat first | exact v3_at _ _ _ _ _ (by first | rfl | (simp only [size_al]; first | done | omega)) | refine V3.below ?_ (bal _ _)) hb); (have BB : Below w.heap.size w w3 := b_of (by repeat first | exact below_self _ | refine ba ?_ _ ) hb (by simp; try omega)); (have HN : Hid (New w.heap.size _ _ zs _ w3) := hN.base (by simp; try omega)); (have hg := hN.ge); (simp at hg); (have hgl := (hN.own.lt g rfl).2); (have HBB := hid_o BB); (have HV := hid_o Vr); (have Vl := HV.out.lt); (obtain ⟨_, q0, q1, q2, q3, q4, q5⟩ := Vr); clear hN hb BB))
  have P := ((HV.out.put (.int .i64 n) (.int .i64 n) (.slice (some ⟨g, 0, none⟩) (n * n) (n * n))).below (bal _ (.cells #[.int .i64 n, .int .i64 n, .slice (some ⟨g, 0, none⟩) (n * n) (n * n)] 26)))
  unfold set3 at P
  have p0 := P.c0
  have p1 := P.c1
  have p2 := P.c2
  refine bodyPost_ret (by simp [results, Try.results92, go_sem, p0, p1, p2]; try rfl) rfl ?_
  have hN2 := (HN.out.set3 (show w.heap.size + 1 ≠ g by omega) (.int .i64 n) (.int .i64 n) (.slice (some ⟨g, 0, none⟩) (n * n) (n * n))).below (bal _ (.cells #[.int .i64 n, .int .i64 n, .slice (some ⟨g, 0, none⟩) (n * n) (n * n)] 26))
  have e := ro_of hN2.len
  refine ⟨g, zat zs, rfl, fun k hk => (HN.out.rep k hk).ok, fun i j hi hj => ?_, ⟨ro_len _ _, ?_⟩, ?_⟩
  · unfold mz
    rw [HN.out.rep.anz (place_lt hi hj), flat_at hj]
  · rw [← e]
    exact hN2.own
  · exact (below_set3 HBB.out (show w.heap.size ≤ w.heap.size + 1 by omega) _ _ _).trans ((bal _ _).mono (by rw [show (set3 w3 (w.heap.size + 1) (.int .i64 n) (.int .i64 n) (.slice (some ⟨g, 0, none⟩) (n * n) (n * n))).heap.size = w3.heap.size by unfold set3; simp]; omega))

end Go.Proofs.Ytklbgibhbnijaaa
