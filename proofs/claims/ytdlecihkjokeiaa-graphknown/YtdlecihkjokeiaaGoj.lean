/-
  A list of one number, so many times: Repeat of package slices; bits.Mul.
-/
import Derived.Test.YtdlecihkjokeiaaGoi
import Derived.Laws.CopyOwn
namespace Go.Proofs.Ytdlecihkjokeiaa
open Go.Maps Go.RowKit
set_option linter.unusedVariables false
set_option maxRecDepth 100000

theorem maskG (a : Nat) (ha : a < 18446744073709551616) : bits .and .u64 (a : Int) 4294967295 = ((a % 4294967296 : Nat) : Int) := by
  have h := bits_and_u64_nat a 4294967295 ha (by omega)
  have e : a &&& 4294967295 = a % 4294967296 := Nat.and_two_pow_sub_one_eq_mod a 32
  rw [e] at h
  exact h
theorem mul64_one (n : Nat) (hn : n ≤ 100000) (W : World) : Calls Try.prog 91 #[.int .u64 1, .int .u64 (n : Int)] W fun e w' => e = .returned (.tuple #[.int .u64 0, .int .u64 (n : Int)]) ∧ w' = W := by
  have h1 : bits BinOp.and IntKind.u64 1 4294967295 = 1 := by decide +kernel
  have h0 : bits BinOp.and IntKind.u64 0 4294967295 = 0 := by decide +kernel
  have h2 : bits BinOp.and IntKind.u64 (n : Int) 4294967295 = (n : Int) := by rw [maskG n (by omega), Nat.mod_eq_of_lt (by omega)]
  have h3 : (n : Int) / 4294967296 = 0 := by omega
  have w0 : IntKind.u64.wrap 0 = 0 := by decide +kernel
  have w1 : IntKind.u64.wrap (n : Int) = (n : Int) := by rw [IntKind.wrap_u64]; omega
  go_enter Try.func91, Try.ntmps91
  go_wp2_with fail
  go_ret2
  exact ⟨rfl, rfl⟩
theorem mul_one (n : Nat) (hn : n ≤ 100000) (W : World) : Calls Try.prog 82 #[.int .u64 1, .int .u64 (n : Int)] W fun e w' => e = .returned (.tuple #[.int .u64 0, .int .u64 (n : Int)]) ∧ w' = W := by
  have hm := mul64_one n hn
  go_enter Try.func82, Try.ntmps82
  go_wp2_with (go_at_call 91; (with_reducible refine (hm _).mono ?_); rintro e1 w1 ⟨rfl, rfl⟩)
  go_ret2
  exact ⟨rfl, rfl⟩
/-- a block of whole numbers -/
def Ib (w : World) (G : Nat) (st : List Int) : Prop := w.heap[G]? = some (.cells (st.map (Value.int .i64)).toArray 3 (0, 0))
theorem Try.infoIg : (Try.prog.info? 3).map (fun i => (i.zero, i.size, i.bytes)) = some (some (.int .i64 0), 1, 8) := by kernel_rfl
theorem Try.infoIh : (Try.prog.info? 3).map (·.size) = some 1 := by kernel_rfl
/-- m times -1, then noughts -/
def rpM (n m : Nat) : List Value := (List.replicate m (-1) ++ List.replicate (n - m) 0).map (Value.int .i64)
theorem rpM_len {n m : Nat} (h : m ≤ n) : (rpM n m).length = n := by simp [rpM]; omega
theorem rpM_get {n m : Nat} (h : m ≤ n) (i : Nat) : (rpM n m)[i]? = if i < n then some (.int .i64 (if i < m then -1 else 0)) else none := by
  unfold rpM
  rw [List.getElem?_map]
  by_cases h1 : i < m
  · rw [List.getElem?_append_left (by simp; omega), List.getElem?_replicate, if_pos h1, if_pos (by omega), if_pos h1]; rfl
  · rw [List.getElem?_append_right (by simp; omega), List.getElem?_replicate, List.length_replicate]
    by_cases h2 : i < n
    · rw [if_pos (by omega), if_pos h2, if_neg h1]; rfl
    · rw [if_neg (by omega), if_neg h2]; rfl
theorem rpM_splice {n m c : Nat} (h : m + c ≤ n) : splice (rpM n m) m (List.replicate c (.int .i64 (-1))) = rpM n (m + c) := by
  apply List.ext_getElem?
  intro i
  rw [rpM_get h]
  unfold splice
  rw [List.length_replicate]
  have hl := rpM_len (show m ≤ n by omega)
  by_cases h1 : i < m
  · rw [List.getElem?_append_left (by rw [List.length_take, hl]; omega), List.getElem?_take, if_pos h1, rpM_get (by omega), if_pos (by omega), if_pos h1, if_pos (by omega), if_pos (by omega)]
  · rw [List.getElem?_append_right (by rw [List.length_take, hl]; omega), List.length_take, hl, Nat.min_eq_left (by omega)]
    by_cases h2 : i < m + c
    · rw [List.getElem?_append_left (by rw [List.length_replicate]; omega), List.getElem?_replicate, if_pos (by omega), if_pos (by omega), if_pos h2]
    · rw [List.getElem?_append_right (by rw [List.length_replicate]; omega), List.getElem?_drop, List.length_replicate, show m + c + (i - m - c) = i by omega, rpM_get (by omega)]
      by_cases h3 : i < n
      · rw [if_pos h3, if_neg h1, if_pos h3, if_neg h2]
      · rw [if_neg h3, if_neg h3]
theorem made_blk {w : World} {base g n : Nat} {e : TypeId} {xs : List Value} (h : w.ownsRow base e 1 (.slice (some ⟨g, 0, none⟩) n n) n xs) : w.heap[g]? = some (.cells xs.toArray e (0, 0)) := by
  obtain ⟨h0, ⟨q, _⟩ | ⟨g2, cap, cur, q, _, h3, _, _, h5, h6⟩⟩ := h
  · cases q
  · cases q
    have e1 : cur.toList = xs := by
      rw [← h6]
      exact (List.take_of_length_le (by rw [Array.length_toList, h5]; omega)).symm
    rw [h3, ← e1]
theorem one_rep (c : Nat) : ∀ v ∈ List.replicate c (Value.int .i64 (-1)), v.oneCell' = true := fun v hv => by rw [List.eq_of_mem_replicate hv]; rfl
theorem mdz (n : Nat) : (madeCells (Value.int .i64 0).cells (n * 1)).toList = rpM n 0 := by
  rw [Nat.mul_one]
  show (madeCells #[Value.int .i64 0] n).toList = _
  rw [made_rep]; simp [rpM]
theorem one_src {w : World} {b : Nat} {x : Value} (h : w.cell? ⟨b, 0, none⟩ = some x) {j : Nat} {v : Value} (hj : (List.replicate 1 x)[j]? = some v) : w.cell? ((⟨b, 0, none⟩ : Addr).add j) = some v := by
  match j, hj with
  | 0, hj => cases hj; exact h
  | j + 1, hj => simp at hj
set_option maxHeartbeats 4000000 in
theorem repeat_any (w : World) (b n : Nat) (hn0 : 0 < n) (hn : n ≤ 100000) (hx : w.cell? ⟨b, 0, none⟩ = some (.int .i64 (-1))) :
    Calls Try.prog 64 #[.slice (some ⟨b, 0, none⟩) 1 1, .int .i64 (n : Int)] w fun e w' => ∃ G, e = .returned (.slice (some ⟨G, 0, none⟩) n n) ∧ Ib w' G (List.replicate n (-1)) ∧ w.heap.size ≤ G ∧ Below w.heap.size w w' := by
  have hm := mul_one n hn
  have hni : ¬ (n : Int) < 0 := by omega
  have hc1 : IntKind.u64.wrap 1 = 1 := by decide +kernel
  have hc2 : IntKind.u64.wrap (n : Int) = (n : Int) := by rw [IntKind.wrap_u64]; omega
  have hc3 : IntKind.i64.wrap (n : Int) = (n : Int) := by rw [IntKind.wrap_i64]; omega
  have hbig : ¬ (9223372036854775807 : Int) < (n : Int) := by omega
  obtain ⟨i0, hi, hz0, hz1, hz2⟩ := info_parts Try.infoIg
  have HX : Hid (∀ W, Below w.heap.size w W → W.cell? ⟨b, 0, none⟩ = some (.int .i64 (-1))) := fun W hW => (hW.cell (World.block_lt_of_cell? w _ hx)).trans hx
  go_enter Try.func64, Try.ntmps64
  go_wp2_with (first
    | (go_at_call 82; (with_reducible refine (hm _).mono ?_); rintro e1 w1 ⟨rfl, hw1⟩; (have hw2 := hw1.symm); clear hw1; subst hw2)
    | (at_make; (refine wpList_make_full _ rfl _ _ 73 rfl w.heap.size 3 i0 (.int .i64 0) 1 Try.underlying73 hi hz0 hz1 _ _ _ _ n rfl rfl rfl rfl (by rw [hz2]; omega) (by unfold maxLen; omega) (Nat.le_refl _) ?_); intro w2 hown hgrow; (rw [show (madeCells (Value.int .i64 0).cells (n * 1)).toList = rpM n 0 from mdz n] at hown); (have hcur := made_blk hown); (have HB2 : Below w.heap.size w w2 := ⟨hgrow.os, hgrow.tape, hgrow.output, hgrow.size, fun k hk => hgrow.block k hk (by simp)⟩); clear hown hgrow)
    | (refine wpList_copy_splice rfl _ _ _ _ rfl 3 Try.underlying73 Try.infoIh _ _ _ _ _ _ rfl rfl w.heap.size 0 (rpM n 0) _ hcur (List.replicate 1 (.int .i64 (-1))) (by rw [List.length_replicate]; exact (Nat.min_eq_left (by omega)).symm) (fun _ => ⟨rfl, _, rfl, fun j v hj => one_src (HX.out w2 HB2) hj⟩) (by rw [rpM_len (Nat.zero_le _)]; simp; omega) (one_rep 1) w.heap.size w HB2 (Nat.le_refl _) ?_; intro w3 hb3 B3; clear hcur HB2))
  obtain ⟨G, hG⟩ : ∃ G, w.heap.size = G := ⟨_, rfl⟩
  rw [rpM_splice (show 0 + 1 ≤ n by omega), hG] at hb3
  rw [hG] at B3 ⊢
  have HG : Hid (w.heap.size = G) := hG
  clear hG hm hi hz0 hz1 hz2 hc1 hc2 hc3 hbig hni
  go_loopw [8] (fun iv wr => ∃ (m : Nat), 1 ≤ m ∧ m ≤ n ∧ iv = .int .i64 m ∧ Hid (wr.heap[G]? = some (.cells (rpM n m).toArray 3 (0, 0)) ∧ Below G w wr)) (fun iv _ => n - (intOf iv).toNat)
  case atStart => exact ⟨1, by omega, by omega, rfl, hb3.out, B3⟩
  case round =>
    obtain ⟨m, hm1, hmn, rfl, HR⟩ := hrel
    clear hb3 B3
    by_cases hlt : m < n
    · have hli : (m : Int) < (n : Int) := by omega
      obtain ⟨c, hc⟩ : ∃ c, Nat.min m (n - m) = c := ⟨_, rfl⟩
      have hc2 : c ≤ m ∧ c ≤ n - m ∧ 1 ≤ c := by
        have h1 : c = min m (n - m) := hc.symm
        omega
      have hmi : (m : Int) ≤ (n : Int) := by omega
      have hcur := HR.out.1
      have HB : Hid (Below G w wr) := HR.out.2
      have HB2 : Hid (Below G w wr.drew) := HB.out.drew
      have hcurD : wr.drew.heap[G]? = some (.cells (rpM n m).toArray 3 (0, 0)) := hcur
      have HCD : Hid (wr.drew.heap[G]? = some (.cells (rpM n m).toArray 3 (0, 0))) := hcurD
      have HS : Hid (∀ j v, (List.replicate c (Value.int .i64 (-1)))[j]? = some v → wr.drew.cell? ((⟨G, 0, none⟩ : Addr).add j) = some v) := fun j v hj => by
        have hjc : j < c := by have := (List.getElem?_eq_some_iff.1 hj).1; simpa using this
        rw [List.getElem?_replicate, if_pos hjc] at hj
        cases hj
        rw [Addr.add_lit]
        have h5 : wr.cell? ⟨G, 0 + j, none⟩ = some (.int .i64 (-1)) := by
          rw [cell_of_row wr G _ _ _ (0, 0) hcur, Nat.zero_add, List.getElem?_toArray, rpM_get hmn, if_pos (by omega), if_pos (by omega)]
        exact h5
      have HC : Hid (Nat.min m (n - m) = c) := hc
      have hsub : ((n : Int) - (m : Int)) = ((n - m : Nat) : Int) := by omega
      have hnm : ¬ n = m := by omega
      obtain ⟨d, hd⟩ : ∃ d, n - m = d := ⟨_, rfl⟩
      have HD : Hid (n - m = d) := hd
      have hwr : IntKind.i64.wrap ((m : Int) + (c : Int)) = ((m + c : Nat) : Int) := by rw [IntKind.wrap_i64]; omega
      clear hc HR hcur hcurD
      go_wp2_with fail
      go_region_law
        (first | (refine step_copy_splice rfl _ _ 73 73 rfl 3 Try.underlying73 Try.infoIh (some ⟨G, m, none⟩) (some ⟨G, 0, none⟩) d d m n (by go_simp) (by go_simp) G m (rpM n m) 3 HCD.out (List.replicate c (.int .i64 (-1))) (by rw [List.length_replicate, ← HD.out]; exact HC.out.symm) (fun _ => ⟨rfl, _, rfl, HS.out⟩) (by rw [rpM_len hmn, List.length_replicate]; omega) (one_rep c) G w HB2.out (Nat.le_refl _) ?_; intro w4 hb4 B4))
      all_goals (rw [rpM_splice (show m + c ≤ n by omega)] at hb4)
      all_goals go_simp
      all_goals go_wp2_with fail
      all_goals go_roundw
      case rel => exact ⟨m + c, by omega, by omega, by go_num, hb4.out, B4⟩
      case measure => simp [intOf]; omega
    · have hmn2 : m = n := by omega
      subst hmn2
      have hnn : ¬ (m : Int) < (m : Int) := by omega
      go_wp2_with fail
      go_ret
      refine ⟨G, rfl, ?_, by rw [HG.out]; exact Nat.le_refl _, by rw [HG.out]; exact HR.out.2⟩
      have := HR.out.1
      unfold rpM at this
      rw [Nat.sub_self, List.replicate_zero, List.append_nil] at this
      exact this

end Go.Proofs.Ytdlecihkjokeiaa
