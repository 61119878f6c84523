/-
  The walk of VectorMirror where both lists have as many numbers, at most 65,536: it hands back true and only lays new memory.
-/
import Derived.Test.YtgpjlobclcbniaaVl
namespace Go.Proofs.Ytgpjlobclcbniaa
open Fl RowKit

structure Stg (n : Nat) : Prop where
  t : True
theorem und {w w' : World} {m : Nat} (h : Below (w.drewN m).heap.size (w.drewN m) w') : Below w.heap.size w w' := ⟨h.os, h.tape, h.output, h.size, h.block⟩
theorem lnumbers {ao : Option Addr} {cap n : Nat} {xs : List Cw} {w : World} (hn : xs.length = n) (hsz : n * 16 ≤ 140737488355328) (hx : okl xs) (hc : Rz w ao xs) :
    Calls Try.prog 9 #[.slice ao n cap] w fun e w' => ∃ A C, e = .returned (.slice A n C) ∧ Lst w' A n (fun j => anz (zat xs j)) xs ∧ Below w.heap.size w w' := by
  subst hn
  refine (numbers_any ao cap xs w hsz hc).mono ?_
  rintro e w' ⟨v, rfl, ho, hb⟩
  obtain ⟨A, C, rfl, _, _, hr⟩ := own_rc rfl ho
  exact ⟨A, C, rfl, lst_self rfl hx hr, hb⟩
theorem smBB {o : Cn} {s t a b : Nat} (h : repz o (s, t)) (k : repz o (a, b)) : (smB s a && smB t b) = true := by
  rw [smB_of h.1 k.1, smB_of h.2 k.2]; rfl
theorem one_mul {xs zs : List Cw} {n : Nat} (hx : okl xs) (hf : finF (fun j => anz (zat xs j)) n = true) (h : repl (fun j => mulZ (anz (4607182418800017408, 0)) (anz (zat xs j))) n zs) : ∀ j, j < n → eqB (zat zs j).1 (zat xs j).1 = true ∧ eqB (zat zs j).2 (zat xs j).2 = true := by
  intro j hj
  have hc := finF_at hf j hj
  unfold finC at hc
  rw [Bool.and_eq_true] at hc
  have f1 : fin (zat xs j).1 := fin_of (by rw [finA_of (rep_ans (hx j).1)]; exact hc.1)
  have f2 : fin (zat xs j).2 := fin_of (by rw [finA_of (rep_ans (hx j).2)]; exact hc.2)
  have k := h j hj
  have e1 : (mulZ (anz (4607182418800017408, 0)) (anz (zat xs j))).1 = mulRe (ans (zat xs j).1) (ans (zat xs j).2) (some 4607182418800017408) (some 0) := by
    show subA (mulA (some 4607182418800017408) (ans (zat xs j).1)) (mulA (some 0) (ans (zat xs j).2)) = subA (mulA (ans (zat xs j).1) (some 4607182418800017408)) (mulA (ans (zat xs j).2) (some 0))
    rw [mulA_comm (some 4607182418800017408), mulA_comm (some 0)]
  have e2 : (mulZ (anz (4607182418800017408, 0)) (anz (zat xs j))).2 = mulIm (ans (zat xs j).1) (ans (zat xs j).2) (some 4607182418800017408) (some 0) := by
    show addA (mulA (some 4607182418800017408) (ans (zat xs j).2)) (mulA (some 0) (ans (zat xs j).1)) = addA (mulA (ans (zat xs j).1) (some 0)) (mulA (ans (zat xs j).2) (some 4607182418800017408))
    rw [mulA_comm (some 4607182418800017408), mulA_comm (some 0), addA_comm]
  exact times_one f1 f2 (hx j).1 (hx j).2 (by rw [← e1]; exact k.1) (by rw [← e2]; exact k.2)
theorem sub_zero_all {xs zs ms : List Cw} {n : Nat} (hf : finF (fun j => anz (zat xs j)) n = true) (h : repl (zipF subZ (fun j => anz (zat xs j)) (fun j => anz (zat xs j))) n zs) (hm : ms = List.replicate n (0, 0)) : ∀ j, j < n → eqB (zat zs j).1 (zat ms j).1 = true ∧ eqB (zat zs j).2 (zat ms j).2 = true := by
  intro j hj
  have hc := finF_at hf j hj
  unfold finC at hc
  rw [Bool.and_eq_true] at hc
  have k := h j hj
  have e : zat ms j = (0, 0) := by subst hm; simp [zat, List.getD_eq_getElem?_getD, hj]
  rw [e]
  exact ⟨sub_self_zero hc.1 k.1, sub_self_zero hc.2 k.2⟩
theorem run_mkC (n : Nat) (hn : n ≤ 65536) (w : World) : (Instr.makeSlice 23 (.int .i64 (n : Int)) (.int .i64 (n : Int))).run Try.prog w = .ok (.slice (some ⟨w.heap.size, 0, none⟩) n n) (w.alloc (.cells (madeCells #[.complex .f64 0 0] n) 55)) := by
  obtain ⟨i0, hi, hz0, hz1, hz2⟩ := info_parts Try.infoC
  have h := run_make (P := Try.prog) w 23 55 i0 (.complex .f64 0 0) Try.underlying23 hi hz0 .i64 .i64 n n (by omega) (Int.le_refl _) (by rw [hz2]; omega) (by omega)
  simp only [Int.toNat_natCast, hz1, Nat.mul_one] at h
  exact h
theorem lst_al (w : World) (n : Nat) (t : TypeId) : Lst (w.alloc (.cells (madeCells #[.complex .f64 0 0] n) t)) (some ⟨w.heap.size, 0, none⟩) n (fun _ => (some 0, some 0)) (List.replicate n (0, 0)) := by
  refine ⟨by simp, fun j hj => ?_, fun k hk => ⟨w.heap.size, 0, rfl, by rw [size_al]; omega, ?_⟩⟩
  · rw [show zat (List.replicate n ((0, 0) : Cw)) j = (0, 0) by simp [zat, List.getD_eq_getElem?_getD, hj]]
    exact ⟨rep_0, rep_0⟩
  · have hk' : k < n := by simpa using hk
    rw [Nat.zero_add, al_at w _ t _ k rfl, show zat (List.replicate n ((0, 0) : Cw)) k = (0, 0) by simp [zat, List.getD_eq_getElem?_getD, hk']]
    have := made_zeroC n
    rw [Nat.mul_one] at this
    have h2 := congrArg (fun l => l[k]?) this
    simp only [Array.getElem?_toList] at h2
    show (madeCells (Value.complex .f64 0 0).cells n)[k]? = _
    rw [h2]; simp [hk', cx]
theorem sum_in (xs ys : List Cw) (n : Nat) : sumZ (zipF innZ (fun j => anz (zat xs j)) (fun j => anz (zat ys j))) n = sumZ (dotF innZ xs ys) n := sumZ_congr (fun _ _ => rfl)

end Go.Proofs.Ytgpjlobclcbniaa
