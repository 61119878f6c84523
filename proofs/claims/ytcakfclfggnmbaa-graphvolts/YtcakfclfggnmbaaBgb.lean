/-
  Several texts in one: Goj Gok Gol Gom Gop Gon Goq Gor Gos Gpa Gqa Gqb Gqc Gqd Gqe.
-/
import Derived.Test.YtcakfclfggnmbaaBga
import Derived.Laws.CopyOwn
import Derived.Test.YtcakfclfggnmbaaEli
import Derived.Test.YtcakfclfggnmbaaElo
import Derived.Test.YtcakfclfggnmbaaNod
import Derived.Deep.Slices
import Derived.Deep.SlicePairs
import Derived.OpenShut
import Derived.SizedLaws
namespace Go.Proofs.Ytcakfclfggnmbaa
open Go.Maps Go.RowKit
set_option linter.unusedVariables false
set_option maxRecDepth 100000

theorem maskG (a : Nat) (ha : a < 18446744073709551616) : bits .and .u64 (a : Int) 4294967295 = ((a % 4294967296 : Nat) : Int) := by
  have h := bits_and_u64_nat a 4294967295 ha (by omega)
  have e : a &&& 4294967295 = a % 4294967296 := Nat.and_two_pow_sub_one_eq_mod a 32
  rw [e] at h
  exact h
theorem mul64_one (n : Nat) (hn : n ≤ 100000) (W : World) : Calls Try.prog 88 #[.int .u64 1, .int .u64 (n : Int)] W fun e w' => e = .returned (.tuple #[.int .u64 0, .int .u64 (n : Int)]) ∧ w' = W := by
  have h1 : bits BinOp.and IntKind.u64 1 4294967295 = 1 := by decide +kernel
  have h0 : bits BinOp.and IntKind.u64 0 4294967295 = 0 := by decide +kernel
  have h2 : bits BinOp.and IntKind.u64 (n : Int) 4294967295 = (n : Int) := by rw [maskG n (by omega), Nat.mod_eq_of_lt (by omega)]
  have h3 : (n : Int) / 4294967296 = 0 := by omega
  have w0 : IntKind.u64.wrap 0 = 0 := by decide +kernel
  have w1 : IntKind.u64.wrap (n : Int) = (n : Int) := by rw [IntKind.wrap_u64]; omega
  go_enter Try.func88, Try.ntmps88
  go_wp2_with fail
  go_ret2
  exact ⟨rfl, rfl⟩
theorem mul_oneN (n : Nat) (hn : n ≤ 100000) (W : World) : Calls Try.prog 79 #[.int .u64 1, .int .u64 (n : Int)] W fun e w' => e = .returned (.tuple #[.int .u64 0, .int .u64 (n : Int)]) ∧ w' = W := by
  have hm := mul64_one n hn
  go_enter Try.func79, Try.ntmps79
  go_wp2_with (go_at_call 88; (with_reducible refine (hm _).mono ?_); rintro e1 w1 ⟨rfl, rfl⟩)
  go_ret2
  exact ⟨rfl, rfl⟩
/-- a block of whole numbers -/
def Ib (w : World) (G : Nat) (st : List Int) : Prop := w.heap[G]? = some (.cells (st.map (Value.int .i64)).toArray 3 (0, 0))
theorem Try.infoIg : (Try.prog.info? 3).map (fun i => (i.zero, i.size, i.bytes)) = some (some (.int .i64 0), 1, 8) := by kernel_rfl
theorem Try.infoIh : (Try.prog.info? 3).map (·.size) = some 1 := by kernel_rfl
/-- m times -1, then noughts -/
def rpM (n m : Nat) : List Value := (List.replicate m (-1) ++ List.replicate (n - m) 0).map (Value.int .i64)
theorem rpM_len {n m : Nat} (h : m ≤ n) : (rpM n m).length = n := by simp [rpM]; omega
theorem rpM_get {n m : Nat} (h : m ≤ n) (i : Nat) : (rpM n m)[i]? = if i < n then some (.int .i64 (if i < m then -1 else 0)) else none := by
  unfold rpM
  rw [List.getElem?_map]
  by_cases h1 : i < m
  · rw [List.getElem?_append_left (by simp; omega), List.getElem?_replicate, if_pos h1, if_pos (by omega), if_pos h1]; rfl
  · rw [List.getElem?_append_right (by simp; omega), List.getElem?_replicate, List.length_replicate]
    by_cases h2 : i < n
    · rw [if_pos (by omega), if_pos h2, if_neg h1]; rfl
    · rw [if_neg (by omega), if_neg h2]; rfl
theorem rpM_splice {n m c : Nat} (h : m + c ≤ n) : splice (rpM n m) m (List.replicate c (.int .i64 (-1))) = rpM n (m + c) := by
  apply List.ext_getElem?
  intro i
  rw [rpM_get h]
  unfold splice
  rw [List.length_replicate]
  have hl := rpM_len (show m ≤ n by omega)
  by_cases h1 : i < m
  · rw [List.getElem?_append_left (by rw [List.length_take, hl]; omega), List.getElem?_take, if_pos h1, rpM_get (by omega), if_pos (by omega), if_pos h1, if_pos (by omega), if_pos (by omega)]
  · rw [List.getElem?_append_right (by rw [List.length_take, hl]; omega), List.length_take, hl, Nat.min_eq_left (by omega)]
    by_cases h2 : i < m + c
    · rw [List.getElem?_append_left (by rw [List.length_replicate]; omega), List.getElem?_replicate, if_pos (by omega), if_pos (by omega), if_pos h2]
    · rw [List.getElem?_append_right (by rw [List.length_replicate]; omega), List.getElem?_drop, List.length_replicate, show m + c + (i - m - c) = i by omega, rpM_get (by omega)]
      by_cases h3 : i < n
      · rw [if_pos h3, if_neg h1, if_pos h3, if_neg h2]
      · rw [if_neg h3, if_neg h3]
theorem made_blk {w : World} {base g n : Nat} {e : TypeId} {xs : List Value} (h : w.ownsRow base e 1 (.slice (some ⟨g, 0, none⟩) n n) n xs) : w.heap[g]? = some (.cells xs.toArray e (0, 0)) := by
  obtain ⟨h0, ⟨q, _⟩ | ⟨g2, cap, cur, q, _, h3, _, _, h5, h6⟩⟩ := h
  · cases q
  · cases q
    have e1 : cur.toList = xs := by
      rw [← h6]
      exact (List.take_of_length_le (by rw [Array.length_toList, h5]; omega)).symm
    rw [h3, ← e1]
theorem one_rep (c : Nat) : ∀ v ∈ List.replicate c (Value.int .i64 (-1)), v.oneCell' = true := fun v hv => by rw [List.eq_of_mem_replicate hv]; rfl
theorem mdz (n : Nat) : (madeCells (Value.int .i64 0).cells (n * 1)).toList = rpM n 0 := by
  rw [Nat.mul_one]
  show (madeCells #[Value.int .i64 0] n).toList = _
  rw [made_rep]; simp [rpM]
theorem one_src {w : World} {b : Nat} {x : Value} (h : w.cell? ⟨b, 0, none⟩ = some x) {j : Nat} {v : Value} (hj : (List.replicate 1 x)[j]? = some v) : w.cell? ((⟨b, 0, none⟩ : Addr).add j) = some v := by
  match j, hj with
  | 0, hj => cases hj; exact h
  | j + 1, hj => simp at hj
set_option maxHeartbeats 4000000 in
theorem repeat_any (w : World) (b n : Nat) (hn0 : 0 < n) (hn : n ≤ 100000) (hx : w.cell? ⟨b, 0, none⟩ = some (.int .i64 (-1))) :
    Calls Try.prog 61 #[.slice (some ⟨b, 0, none⟩) 1 1, .int .i64 (n : Int)] w fun e w' => ∃ G, e = .returned (.slice (some ⟨G, 0, none⟩) n n) ∧ Ib w' G (List.replicate n (-1)) ∧ w.heap.size ≤ G ∧ Below w.heap.size w w' := by
  have hm := mul_oneN n hn
  have hni : ¬ (n : Int) < 0 := by omega
  have hc1 : IntKind.u64.wrap 1 = 1 := by decide +kernel
  have hc2 : IntKind.u64.wrap (n : Int) = (n : Int) := by rw [IntKind.wrap_u64]; omega
  have hc3 : IntKind.i64.wrap (n : Int) = (n : Int) := by rw [IntKind.wrap_i64]; omega
  have hbig : ¬ (9223372036854775807 : Int) < (n : Int) := by omega
  obtain ⟨i0, hi, hz0, hz1, hz2⟩ := info_parts Try.infoIg
  have HX : Hid (∀ W, Below w.heap.size w W → W.cell? ⟨b, 0, none⟩ = some (.int .i64 (-1))) := fun W hW => (hW.cell (World.block_lt_of_cell? w _ hx)).trans hx
  go_enter Try.func61, Try.ntmps61
  go_wp2_with (first
    | (go_at_call 79; (with_reducible refine (hm _).mono ?_); rintro e1 w1 ⟨rfl, hw1⟩; (have hw2 := hw1.symm); clear hw1; subst hw2)
    | (at_make; (refine wpList_make_full _ rfl _ _ 67 rfl w.heap.size 3 i0 (.int .i64 0) 1 Try.underlying67 hi hz0 hz1 _ _ _ _ n rfl rfl rfl rfl (by rw [hz2]; omega) (by unfold maxLen; omega) (Nat.le_refl _) ?_); intro w2 hown hgrow; (rw [show (madeCells (Value.int .i64 0).cells (n * 1)).toList = rpM n 0 from mdz n] at hown); (have hcur := made_blk hown); (have HB2 : Below w.heap.size w w2 := ⟨hgrow.os, hgrow.tape, hgrow.output, hgrow.size, fun k hk => hgrow.block k hk (by simp)⟩); clear hown hgrow)
    | (refine wpList_copy_splice rfl _ _ _ _ rfl 3 Try.underlying67 Try.infoIh _ _ _ _ _ _ rfl rfl w.heap.size 0 (rpM n 0) _ hcur (List.replicate 1 (.int .i64 (-1))) (by rw [List.length_replicate]; exact (Nat.min_eq_left (by omega)).symm) (fun _ => ⟨rfl, _, rfl, fun j v hj => one_src (HX.out w2 HB2) hj⟩) (by rw [rpM_len (Nat.zero_le _)]; simp; omega) (one_rep 1) w.heap.size w HB2 (Nat.le_refl _) ?_; intro w3 hb3 B3; clear hcur HB2))
  obtain ⟨G, hG⟩ : ∃ G, w.heap.size = G := ⟨_, rfl⟩
  rw [rpM_splice (show 0 + 1 ≤ n by omega), hG] at hb3
  rw [hG] at B3 ⊢
  have HG : Hid (w.heap.size = G) := hG
  clear hG hm hi hz0 hz1 hz2 hc1 hc2 hc3 hbig hni
  go_loopw [8] (fun iv wr => ∃ (m : Nat), 1 ≤ m ∧ m ≤ n ∧ iv = .int .i64 m ∧ Hid (wr.heap[G]? = some (.cells (rpM n m).toArray 3 (0, 0)) ∧ Below G w wr)) (fun iv _ => n - (intOf iv).toNat)
  case atStart => exact ⟨1, by omega, by omega, rfl, hb3.out, B3⟩
  case round =>
    obtain ⟨m, hm1, hmn, rfl, HR⟩ := hrel
    clear hb3 B3
    by_cases hlt : m < n
    · have hli : (m : Int) < (n : Int) := by omega
      obtain ⟨c, hc⟩ : ∃ c, Nat.min m (n - m) = c := ⟨_, rfl⟩
      have hc2 : c ≤ m ∧ c ≤ n - m ∧ 1 ≤ c := by
        have h1 : c = min m (n - m) := hc.symm
        omega
      have hmi : (m : Int) ≤ (n : Int) := by omega
      have hcur := HR.out.1
      have HB : Hid (Below G w wr) := HR.out.2
      have HB2 : Hid (Below G w wr.drew) := HB.out.drew
      have hcurD : wr.drew.heap[G]? = some (.cells (rpM n m).toArray 3 (0, 0)) := hcur
      have HCD : Hid (wr.drew.heap[G]? = some (.cells (rpM n m).toArray 3 (0, 0))) := hcurD
      have HS : Hid (∀ j v, (List.replicate c (Value.int .i64 (-1)))[j]? = some v → wr.drew.cell? ((⟨G, 0, none⟩ : Addr).add j) = some v) := fun j v hj => by
        have hjc : j < c := by have := (List.getElem?_eq_some_iff.1 hj).1; simpa using this
        rw [List.getElem?_replicate, if_pos hjc] at hj
        cases hj
        rw [Addr.add_lit]
        have h5 : wr.cell? ⟨G, 0 + j, none⟩ = some (.int .i64 (-1)) := by
          rw [cell_of_row wr G _ _ _ (0, 0) hcur, Nat.zero_add, List.getElem?_toArray, rpM_get hmn, if_pos (by omega), if_pos (by omega)]
        exact h5
      have HC : Hid (Nat.min m (n - m) = c) := hc
      have hsub : ((n : Int) - (m : Int)) = ((n - m : Nat) : Int) := by omega
      have hnm : ¬ n = m := by omega
      obtain ⟨d, hd⟩ : ∃ d, n - m = d := ⟨_, rfl⟩
      have HD : Hid (n - m = d) := hd
      have hwr : IntKind.i64.wrap ((m : Int) + (c : Int)) = ((m + c : Nat) : Int) := by rw [IntKind.wrap_i64]; omega
      clear hc HR hcur hcurD
      go_wp2_with fail
      go_region_law
        (first | (refine step_copy_splice rfl _ _ 67 67 rfl 3 Try.underlying67 Try.infoIh (some ⟨G, m, none⟩) (some ⟨G, 0, none⟩) d d m n (by go_simp) (by go_simp) G m (rpM n m) 3 HCD.out (List.replicate c (.int .i64 (-1))) (by rw [List.length_replicate, ← HD.out]; exact HC.out.symm) (fun _ => ⟨rfl, _, rfl, HS.out⟩) (by rw [rpM_len hmn, List.length_replicate]; omega) (one_rep c) G w HB2.out (Nat.le_refl _) ?_; intro w4 hb4 B4))
      all_goals (rw [rpM_splice (show m + c ≤ n by omega)] at hb4)
      all_goals go_simp
      all_goals go_wp2_with fail
      all_goals go_roundw
      case rel => exact ⟨m + c, by omega, by omega, by go_num, hb4.out, B4⟩
      case measure => simp [intOf]; omega
    · have hmn2 : m = n := by omega
      subst hmn2
      have hnn : ¬ (m : Int) < (m : Int) := by omega
      go_wp2_with fail
      go_ret
      refine ⟨G, rfl, ?_, by rw [HG.out]; exact Nat.le_refl _, by rw [HG.out]; exact HR.out.2⟩
      have := HR.out.1
      unfold rpM at this
      rw [Nat.sub_self, List.replicate_zero, List.append_nil] at this
      exact this

end Go.Proofs.Ytcakfclfggnmbaa

namespace Go.Proofs.Ytcakfclfggnmbaa
open Go.Maps Go.RowKit
set_option linter.unusedVariables false
set_option maxRecDepth 100000

/-- what mark lays, node by node; none: it did not come to an end -/
def mkL (go : Nat → List Int → Option (List Int)) : List Tw → List Int → Option (List Int)
  | [], st => some st
  | t :: r, st => match st[t.2]? with
    | none => none
    | some v => if v = -1 then match go t.2 st with
      | none => none
      | some st' => mkL go r st'
      else mkL go r st
def mkF (tw : List (List Tw)) (c : Int) : Nat → Nat → List Int → Option (List Int)
  | 0, _, _ => none
  | f + 1, a, st => if a < st.length then match tw[a]? with
    | none => none
    | some ts => mkL (mkF tw c f) ts (st.set a c)
    else none
theorem mkL_len {go : Nat → List Int → Option (List Int)} (hg : ∀ x s s', go x s = some s' → s'.length = s.length) {ts : List Tw} : ∀ {st st' : List Int}, mkL go ts st = some st' → st'.length = st.length := by
  induction ts with
  | nil => intro st st' h; cases h; rfl
  | cons t r ih =>
    intro st st' h
    unfold mkL at h
    cases q : st[t.2]? with
    | none => rw [q] at h; cases h
    | some v =>
      rw [q] at h
      simp only at h
      split at h
      · cases q2 : go t.2 st with
        | none => rw [q2] at h; cases h
        | some s2 => rw [q2] at h; rw [ih h, hg _ _ _ q2]
      · exact ih h
theorem mkF_len {tw : List (List Tw)} {c : Int} {f : Nat} : ∀ {a : Nat} {st st' : List Int}, mkF tw c f a st = some st' → st'.length = st.length := by
  induction f with
  | zero => intro a st st' h; cases h
  | succ f ih =>
    intro a st st' h
    unfold mkF at h
    split at h
    · cases q : tw[a]? with
      | none => rw [q] at h; cases h
      | some ts => rw [q] at h; rw [mkL_len (fun x s s' => ih) h]; simp
    · cases h
/-- while mark goes on -/
structure Mk (w : World) (L Q G fp n : Nat) (c : Int) (tw : List (List Tw)) (st : List Int) : Prop where
  cf : w.cell? ⟨L, 0, none⟩ = some (.pointer (some ⟨fp, 0, none⟩))
  ci : w.cell? ⟨Q, 0, none⟩ = some (.slice (some ⟨G, 0, none⟩) n n)
  cc : w.cell? ⟨Q + 1, 0, none⟩ = some (.int .i64 c)
  cm : w.cell? ⟨Q + 2, 0, none⟩ = some (.func (.func 62) #[] #[.pointer (some ⟨Q + 1, 0, none⟩), .pointer (some ⟨Q, 0, none⟩), .pointer (some ⟨L, 0, none⟩), .pointer (some ⟨Q + 2, 0, none⟩)])
  ib : Ib w G st
  len : st.length = n
  tw : TwR w fp L tw
  lG : L < G
  GQ : G < Q
  zc : w.frozen? ⟨Q + 1, 0, none⟩ = false
theorem Ib.lt {w : World} {G : Nat} {st : List Int} (h : Ib w G st) : G < w.heap.size := (Array.getElem?_eq_some_iff.1 h).1
/-- only the block G has turned -/
theorem Mk.turn {w w' : World} {L Q G fp n : Nat} {c : Int} {tw : List (List Tw)} {st st' : List Int} (h : Mk w L Q G fp n c tw st) (hg : w.grownBy w' (some G)) (hi : Ib w' G st') (hl : st'.length = n) : Mk w' L Q G fp n c tw st' := by
  have h1 := h.lG
  have h2 := h.GQ
  have hc : ∀ (a : Addr) (v : Value), a.block ≠ G → w.cell? a = some v → w'.cell? a = some v := fun a v q1 q2 => (World.cell?_of_block (hg.block a.block (World.block_lt_of_cell? w a q2) (by simpa using q1))).trans q2
  exact ⟨hc _ _ (by simp only; omega) h.cf, hc _ _ (by simp only; omega) h.ci, hc _ _ (by simp only; omega) h.cc, hc _ _ (by simp only; omega) h.cm, hi, hl, h.tw.kept ⟨hg.os, hg.tape, hg.output, hg.size, fun k hk => hg.block k (by have := World.block_lt_of_cell? w _ h.cf; simp at this; omega) (by simp; omega)⟩, h1, h2, (World.frozen?_of_block (a := ⟨Q + 1, 0, none⟩) (hg.block (Q + 1) (World.block_lt_of_cell? w _ h.cc) (by simp; omega))).trans h.zc⟩
theorem Ib.cell {w : World} {G : Nat} {st : List Int} (h : Ib w G st) {i : Nat} {v : Int} (hi : st[i]? = some v) : w.cell? ⟨G, i, none⟩ = some (.int .i64 v) := by
  rw [cell_of_row w G _ _ _ (0, 0) h, List.getElem?_toArray, List.getElem?_map, hi]; rfl
theorem Ib.set {w : World} {G : Nat} {st : List Int} (h : Ib w G st) (i : Nat) (v : Int) : Ib (w.setCell ⟨G, i, none⟩ (.int .i64 v)) G (st.set i v) := by
  have := heap_setCell_same w G i _ _ (.int .i64 v) h
  unfold Ib
  rw [this]
  simp
theorem gb_set {w : World} {G i : Nat} {u : Value} : w.grownBy (w.setCell ⟨G, i, none⟩ u) (some G) := grown_setN
theorem gb_trans {w w1 w2 : World} {G : Nat} (h : w.grownBy w1 (some G)) (h2 : w1.grownBy w2 (some G)) : w.grownBy w2 (some G) :=
  ⟨h2.os.trans h.os, h2.tape.trans h.tape, h2.output.trans h.output, Nat.le_trans h.size h2.size, fun k hk hne => (h2.block k (Nat.lt_of_lt_of_le hk h.size) hne).trans (h.block k hk hne)⟩
theorem gb_bel {w w1 : World} {G : Nat} (h : Below w.heap.size w w1) : w.grownBy w1 (some G) := ⟨h.os, h.tape, h.output, h.size, fun k hk _ => h.block k hk⟩
theorem gb_refl (w : World) (G : Nat) : w.grownBy w (some G) := ⟨rfl, rfl, rfl, Nat.le_refl _, fun _ _ _ => rfl⟩
set_option maxHeartbeats 4000000 in
theorem mark_any (L Q G fp n : Nat) (c : Int) (tw : List (List Tw)) (f : Nat) : ∀ (a : Nat) (st st' : List Int) (w : World), Mk w L Q G fp n c tw st → mkF tw c f a st = some st' →
    Calls Try.prog 62 #[.int .i64 (a : Int), .pointer (some ⟨Q + 1, 0, none⟩), .pointer (some ⟨Q, 0, none⟩), .pointer (some ⟨L, 0, none⟩), .pointer (some ⟨Q + 2, 0, none⟩)] w fun e w' => e = .returned (.tuple #[]) ∧ Mk w' L Q G fp n c tw st' ∧ w.grownBy w' (some G) := by
  induction f with
  | zero => intro a st st' w _ h; cases h
  | succ f ih =>
    intro a st st' w hS hr
    have HI : Hid (∀ (a : Nat) (st st' : List Int) (w : World), Mk w L Q G fp n c tw st → mkF tw c f a st = some st' →
      Calls Try.prog 62 #[.int .i64 (a : Int), .pointer (some ⟨Q + 1, 0, none⟩), .pointer (some ⟨Q, 0, none⟩), .pointer (some ⟨L, 0, none⟩), .pointer (some ⟨Q + 2, 0, none⟩)] w fun e w' => e = .returned (.tuple #[]) ∧ Mk w' L Q G fp n c tw st' ∧ w.grownBy w' (some G)) := ih
    clear ih
    unfold mkF at hr
    split at hr
    · rename_i hal
      cases hq : tw[a]? with
      | none => rw [hq] at hr; cases hr
      | some ts =>
        rw [hq] at hr
        have han : a < n := by have := hS.len; omega
        have hai : (a : Int) < (n : Int) := by omega
        have cc := hS.cc
        have ci := hS.ci
        have hzG : w.frozen? ⟨G, a, none⟩ = false := frozen_of_row w G a _ _ hS.ib
        obtain ⟨v0, hv0⟩ : ∃ v, st[a]? = some v := ⟨_, List.getElem?_eq_getElem hal⟩
        have cG := hS.ib.cell hv0
        have S1 := hS.turn (w' := w.setCell ⟨G, a, none⟩ (.int .i64 c)) gb_set (hS.ib.set a c) (by simp [hS.len])
        obtain ⟨w1, hw1⟩ : ∃ w1, w.setCell ⟨G, a, none⟩ (.int .i64 c) = w1 := ⟨_, rfl⟩
        rw [hw1] at S1
        have G1 : w.grownBy w1 (some G) := by rw [← hw1]; exact gb_set
        obtain ⟨BL, cap, c1, hBL, hts⟩ := S1.tw.r
        obtain ⟨u, cu, A, cA, rfl, hA⟩ := hts a ts hq
        have cf := S1.cf
        have hlt : a < tw.length := (List.getElem?_eq_some_iff.1 hq).1
        have hni := S1.tw.n
        have hti := S1.tw.t ts (List.mem_of_getElem? hq)
        obtain ⟨m, hm⟩ : ∃ m, ts.length = m := ⟨_, rfl⟩
        obtain ⟨nt, hnt⟩ : ∃ nt, tw.length = nt := ⟨_, rfl⟩
        rw [hnt] at c1 hlt hni
        rw [hm] at cu hti
        have hati : (a : Int) < (nt : Int) := by omega
        have HM : Hid (ts.length = m) := hm
        have HA : Hid _ := hA
        have HS1 : Hid (Mk w1 L Q G fp n c tw (st.set a c) ∧ w.grownBy w1 (some G)) := ⟨S1, G1⟩
        have HR : Hid (mkL (mkF tw c f) ts (st.set a c) = some st') := hr
        have HLG : Hid (L < G) := S1.lG
        clear hm hnt hA hts hr hS hq S1 G1
        go_enter Try.func62, Try.ntmps62
        go_wp2_with fail
        clear hw1 cG hzG hv0 cf
        go_loopw [20] (fun iv wr => ∃ (k : Nat) (s2 : List Int), k ≤ m ∧ iv = .int .i64 k ∧ Hid (Mk wr L Q G fp n c tw s2 ∧ w.grownBy wr (some G) ∧ w1.grownBy wr (some G)) ∧ Hid (mkL (mkF tw c f) (ts.drop k) s2 = some st')) (fun iv _ => m - (intOf iv).toNat)
        case atStart => exact ⟨0, _, Nat.zero_le _, rfl, ⟨HS1.out.1, HS1.out.2, gb_refl _ _⟩, HR.out⟩
        case round =>
          obtain ⟨k, s2, hle, rfl, HS2, HR2⟩ := hrel
          clear HR cc ci c1 cu
          by_cases hp4 : k < m
          · have hpk : (k : Int) < (m : Int) := by omega
            obtain ⟨⟨nm, far⟩, hx⟩ : ∃ t, ts[k]? = some t := ⟨_, List.getElem?_eq_getElem (by have := HM.out; omega)⟩
            obtain ⟨g, rfl, hg, hcs⟩ := HA.out.resolve_left (by intro e; rw [e] at hx; cases hx)
            obtain ⟨d0, d1⟩ := hcs k _ hx
            have hgG : g ≠ G := by have := HLG.out; omega
            have e0 := (HS2.out.2.2.cell_far ⟨g, k * 2, none⟩ (World.block_lt_of_cell? w1 _ d0) (by simpa using hgG)).trans d0
            have e1 := (HS2.out.2.2.cell_far ⟨g, k * 2 + 1, none⟩ (World.block_lt_of_cell? w1 _ d1) (by simpa using hgG)).trans d1
            have hdr : ts.drop k = (nm, far) :: ts.drop (k + 1) := (List.drop_eq_getElem_cons (by have := HM.out; omega)).trans (by rw [(List.getElem?_eq_some_iff.1 hx).2])
            have hr2 := HR2.out
            rw [hdr] at hr2
            unfold mkL at hr2
            cases hfv : s2[far]? with
            | none => simp only [hfv] at hr2; cases hr2
            | some vf =>
              simp only [hfv] at hr2
              have hfl : far < n := by have := (List.getElem?_eq_some_iff.1 hfv).1; have := HS2.out.1.len; omega
              have hfli : (far : Int) < (n : Int) := by omega
              obtain ⟨wa, hwa⟩ : ∃ wa, wr.alloc (.cells #[.string ⟨nm.toArray⟩, .int .i64 (far : Int)] 109) = wa := ⟨_, rfl⟩
              obtain ⟨q, hq⟩ : ∃ q, wr.heap.size = q := ⟨_, rfl⟩
              have BA : Below wr.heap.size wr wa := by rw [← hwa]; exact (Below.refl _ _).alloc (Nat.le_refl _) _
              have SA := HS2.out.1.turn (gb_bel BA) (by unfold Ib; rw [BA.block G HS2.out.1.ib.lt]; exact HS2.out.1.ib) HS2.out.1.len
              have ciA := SA.ci
              have cmA := SA.cm
              have cGf := SA.ib.cell hfv
              have t1 : wa.cell? ⟨q, 1, none⟩ = some (.int .i64 (far : Int)) := by rw [← hwa, ← hq]; exact World.cell?_alloc_new _ _ _ _
              have HSA : Hid (Mk wa L Q G fp n c tw s2 ∧ w.grownBy wa (some G) ∧ w1.grownBy wa (some G)) := ⟨SA, gb_trans HS2.out.2.1 (gb_bel BA), gb_trans HS2.out.2.2 (gb_bel BA)⟩
              clear SA BA HS2 d0 d1 hcs hdr hx hfv
              simp only [sv] at e0 e1
              by_cases hm1 : vf = -1
              · rw [if_pos hm1] at hr2
                subst hm1
                cases hq2 : mkF tw c f far s2 with
                | none => rw [hq2] at hr2; cases hr2
                | some s3 =>
                  rw [hq2] at hr2
                  have hcall := HI.out far s2 s3 wa HSA.out.1 hq2
                  have HR3 : Hid (mkL (mkF tw c f) (ts.drop (k + 1)) s3 = some st') := hr2
                  clear hr2 hq2
                  go_wp2_with fail
                  refine hcall.mono ?_
                  rintro e5 w5 ⟨rfl, S5, G5⟩
                  have HS5 : Hid (Mk w5 L Q G fp n c tw s3 ∧ w.grownBy w5 (some G) ∧ w1.grownBy w5 (some G)) := ⟨S5, gb_trans HSA.out.2.1 G5, gb_trans HSA.out.2.2 G5⟩
                  clear S5 G5 hcall
                  go_wp2_with fail
                  go_roundw
                  case rel => exact ⟨k + 1, s3, by omega, by go_num, HS5.out, HR3.out⟩
                  case measure => simp [intOf]; omega
              · rw [if_neg hm1] at hr2
                have HR3 : Hid (mkL (mkF tw c f) (ts.drop (k + 1)) s2 = some st') := hr2
                have hmb : (vf == -1) = false := by rw [beq_eq_false_iff_ne]; exact hm1
                clear hr2
                go_wp2_with fail
                go_roundw
                case rel => exact ⟨k + 1, s2, by omega, by go_num, HSA.out, HR3.out⟩
                case measure => simp [intOf]; omega
          · have hkm : k = m := by omega
            subst hkm
            have hss : s2 = st' := by
              have := HR2.out
              rw [List.drop_eq_nil_of_le (by have := HM.out; omega)] at this
              exact Option.some.inj this
            subst hss
            have hkk : ¬ ((k : Int) < (k : Int)) := by omega
            clear HR2
            go_wp2_with fail
            go_end0
            exact ⟨rfl, HS2.out.1, HS2.out.2.1⟩
    · cases hr

end Go.Proofs.Ytcakfclfggnmbaa

namespace Go.Proofs.Ytcakfclfggnmbaa
open Go.Maps Go.RowKit
set_option linter.unusedVariables false
set_option maxRecDepth 100000

/-- what parts lays, from node a on; r nodes are left, c parts are counted -/
def paF (f : Nat) (tw : List (List Tw)) : Nat → Nat → Nat → List Int → Option (List Int)
  | 0, _, _, st => some st
  | r + 1, a, c, st => match st[a]? with
    | none => none
    | some v => if v = -1 then match mkF tw (c : Int) f a st with
      | none => none
      | some st' => paF f tw r (a + 1) (c + 1) st'
      else paF f tw r (a + 1) c st
theorem Mk.count {w : World} {L Q G fp n : Nat} {c c' : Int} {tw : List (List Tw)} {st : List Int} (h : Mk w L Q G fp n c tw st) : Mk (w.setCell ⟨Q + 1, 0, none⟩ (.int .i64 c')) L Q G fp n c' tw st := by
  have h1 := h.lG
  have h2 := h.GQ
  have hc : ∀ (a : Addr) (v : Value), a.block ≠ Q + 1 → w.cell? a = some v → (w.setCell ⟨Q + 1, 0, none⟩ (.int .i64 c')).cell? a = some v := fun a v q1 q2 => (World.cell?_of_block (heap_setCell_other w ⟨Q + 1, 0, none⟩ a.block _ (by simpa using q1))).trans q2
  refine ⟨hc _ _ (by simp only; omega) h.cf, hc _ _ (by simp only; omega) h.ci, World.cell?_setCell_same w _ _ h.cc, hc _ _ (by simp only; omega) h.cm, ?_, h.len, h.tw.kept ⟨rfl, rfl, rfl, by simp [World.setCell], fun k hk => heap_setCell_other w ⟨Q + 1, 0, none⟩ k _ (by simp; omega)⟩, h1, h2, by rw [show (w.setCell ⟨Q + 1, 0, none⟩ (.int .i64 c')).frozen? ⟨Q + 1, 0, none⟩ = w.frozen? ⟨Q + 1, 0, none⟩ by simp]; exact h.zc⟩
  unfold Ib
  rw [heap_setCell_other w ⟨Q + 1, 0, none⟩ G _ (by simp; omega)]; exact h.ib
theorem mk_start (w1 : World) (L Q G fp n : Nat) (tw : List (List Tw)) (hQ : w1.heap.size = Q) (hLG : L < G) (hGQ : G < Q) (kL : w1.cell? ⟨L, 0, none⟩ = some (.pointer (some ⟨fp, 0, none⟩))) (ib : Ib w1 G (List.replicate n (-1))) (ht : TwR w1 fp L tw) :
    Mk (((w1.alloc (.cells #[.slice (some ⟨G, 0, none⟩) n n] 67)).alloc (.cells #[.int .i64 0] 3)).alloc (.cells #[.func (.func 62) #[] #[.pointer (some ⟨Q + 1, 0, none⟩), .pointer (some ⟨Q, 0, none⟩), .pointer (some ⟨L, 0, none⟩), .pointer (some ⟨Q + 2, 0, none⟩)]] 106)) L Q G fp n 0 tw (List.replicate n (-1)) ∧ Below Q w1 (((w1.alloc (.cells #[.slice (some ⟨G, 0, none⟩) n n] 67)).alloc (.cells #[.int .i64 0] 3)).alloc (.cells #[.func (.func 62) #[] #[.pointer (some ⟨Q + 1, 0, none⟩), .pointer (some ⟨Q, 0, none⟩), .pointer (some ⟨L, 0, none⟩), .pointer (some ⟨Q + 2, 0, none⟩)]] 106)) := by
  obtain ⟨w2, h2⟩ : ∃ w2, w2 = w1.alloc (.cells #[.slice (some ⟨G, 0, none⟩) n n] 67) := ⟨_, rfl⟩
  rw [← h2]
  obtain ⟨w3, h3⟩ : ∃ w3, w3 = w2.alloc (.cells #[.int .i64 0] 3) := ⟨_, rfl⟩
  rw [← h3]
  obtain ⟨w4, h4⟩ : ∃ w4, w4 = w3.alloc (.cells #[.func (.func 62) #[] #[.pointer (some ⟨Q + 1, 0, none⟩), .pointer (some ⟨Q, 0, none⟩), .pointer (some ⟨L, 0, none⟩), .pointer (some ⟨Q + 2, 0, none⟩)]] 106) := ⟨_, rfl⟩
  rw [← h4]
  have s2 : w2.heap.size = Q + 1 := by rw [h2, ← hQ]; simp
  have s3 : w3.heap.size = Q + 2 := by rw [h3]; simp [s2]
  have s4 : w4.heap.size = Q + 3 := by rw [h4]; simp [s3]
  have b2 : Below Q w1 w2 := by rw [h2]; exact (Below.refl _ _).alloc (by omega) _
  have b3 : Below (Q + 1) w2 w3 := by rw [h3]; exact (Below.refl _ _).alloc (by omega) _
  have b4 : Below (Q + 2) w3 w4 := by rw [h4]; exact (Below.refl _ _).alloc (by omega) _
  have k2 : w2.heap[Q]? = some (.cells #[.slice (some ⟨G, 0, none⟩) n n] 67 (0, 0)) := by rw [h2, ← hQ]; exact heap_alloc_new _ _
  have k3 : w3.heap[Q + 1]? = some (.cells #[.int .i64 0] 3 (0, 0)) := by rw [h3, ← s2]; exact heap_alloc_new _ _
  have k4 : w4.heap[Q + 2]? = some (.cells #[.func (.func 62) #[] #[.pointer (some ⟨Q + 1, 0, none⟩), .pointer (some ⟨Q, 0, none⟩), .pointer (some ⟨L, 0, none⟩), .pointer (some ⟨Q + 2, 0, none⟩)]] 106 (0, 0)) := by rw [h4]; have := heap_alloc_new w3 (.cells #[.func (.func 62) #[] #[.pointer (some ⟨Q + 1, 0, none⟩), .pointer (some ⟨Q, 0, none⟩), .pointer (some ⟨L, 0, none⟩), .pointer (some ⟨Q + 2, 0, none⟩)]] 106); rw [s3] at this; exact this
  have q2 : w4.heap[Q]? = some (.cells #[.slice (some ⟨G, 0, none⟩) n n] 67 (0, 0)) := by rw [b4.block _ (by omega), b3.block _ (by omega)]; exact k2
  have q3 : w4.heap[Q + 1]? = some (.cells #[.int .i64 0] 3 (0, 0)) := by rw [b4.block _ (by omega)]; exact k3
  have hB : Below Q w1 w4 := b2.trans ((b3.mono (by omega)).trans (b4.mono (by omega)))
  refine ⟨⟨(hB.cell (p := ⟨L, 0, none⟩) (by simp only; omega)).trans kL, by rw [cell_of_row w4 Q 0 _ _ (0, 0) q2]; rfl, by rw [cell_of_row w4 (Q + 1) 0 _ _ (0, 0) q3]; rfl, by rw [cell_of_row w4 (Q + 2) 0 _ _ (0, 0) k4]; rfl, ?_, by simp, ht.kept (hB.mono (by omega)), hLG, hGQ, frozen_of_row w4 (Q + 1) 0 _ _ q3⟩, hB⟩
  unfold Ib
  rw [hB.block G hGQ]; exact ib
set_option maxHeartbeats 4000000 in
theorem parts_any (w : World) (base fp f n : Nat) (F : Fr) (B : Fb) (st : List Int) (h : Fo w base fp F B) (hok : F.ok) (hnd : F.nd.length = n) (hn0 : 0 < n) (hn : n ≤ 10000) (hp : paF f F.tw n 0 0 (List.replicate n (-1)) = some st) :
    Calls Try.prog 34 #[.pointer (some ⟨fp, 0, none⟩)] w fun e w' => ∃ G, e = .returned (.slice (some ⟨G, 0, none⟩) n n) ∧ Ib w' G st ∧ st.length = n ∧ w.heap.size ≤ G ∧ Below w.heap.size w w' := by
  obtain ⟨L, hL⟩ : ∃ L, w.heap.size = L := ⟨_, rfl⟩
  obtain ⟨c0, c1, c2, c3⟩ := h.c
  obtain ⟨An, cn, hvn⟩ := row_slice h.nd
  rw [hvn, hnd] at c0
  have HT : Hid (TwR w fp L F.tw) := by rw [← hL]; exact h.twR hok
  have hfp : fp < w.heap.size := h.lt
  have HP : Hid _ := hp
  have HF : Hid _ := h
  clear h hp hok c1 c2 c3 hvn
  obtain ⟨wA, hwA⟩ : ∃ wA, (w.alloc (.cells #[.pointer (some ⟨fp, 0, none⟩)] 63)).alloc (.cells #[.int .i64 (-1)] 3) = wA := ⟨_, rfl⟩
  have hsA : wA.heap.size = L + 2 := by rw [← hwA, ← hL]; simp
  have bA : Below L w wA := by rw [← hwA]; exact ((Below.refl _ w).alloc (by omega) _).alloc (by simp; omega) _
  have kL : wA.cell? ⟨L, 0, none⟩ = some (.pointer (some ⟨fp, 0, none⟩)) := by
    rw [← hwA, World.cell?_alloc_lt _ _ _ (by simp; omega), ← hL]; exact World.cell?_alloc_new _ _ _ _
  have kL1 : wA.cell? ⟨L + 1, 0, none⟩ = some (.int .i64 (-1)) := by
    rw [← hwA]
    have := World.cell?_alloc_new (w.alloc (.cells #[.pointer (some ⟨fp, 0, none⟩)] 63)) #[.int .i64 (-1)] 3 0
    simpa [hL] using this
  have c0A : wA.cell? ⟨fp, 0, none⟩ = some (.slice An n cn) := (bA.cell (p := ⟨fp, 0, none⟩) (by simp only; omega)).trans c0
  have hrep := repeat_any wA (L + 1) n hn0 (by omega) kL1
  have HA : Hid (wA.heap.size = L + 2 ∧ Below L w wA) := ⟨hsA, bA⟩
  clear hsA bA kL1 c0
  go_enter Try.func34, Try.ntmps34
  go_wp2_with fail
  refine hrep.mono ?_
  rintro e1 w1 ⟨G, rfl, ib1, hG1, b1⟩
  obtain ⟨Q, hQ⟩ : ∃ Q, w1.heap.size = Q := ⟨_, rfl⟩
  have hA2 := HA.out.1
  have hst := mk_start w1 L Q G fp n F.tw hQ (by omega) (by have := ib1.lt; omega) ((b1.cell (World.block_lt_of_cell? wA _ kL)).trans kL) ib1 ((HT.out.kept HA.out.2).kept (b1.mono (by omega)))
  have B1 : Below L w w1 := HA.out.2.trans (b1.mono (by omega))
  have c0B : w1.cell? ⟨fp, 0, none⟩ = some (.slice An n cn) := (b1.cell (World.block_lt_of_cell? wA _ c0A)).trans c0A
  obtain ⟨W, hW⟩ : ∃ W, (((w1.alloc (.cells #[.slice (some ⟨G, 0, none⟩) n n] 67)).alloc (.cells #[.int .i64 0] 3)).alloc (.cells #[.func (.func 62) #[] #[.pointer (some ⟨Q + 1, 0, none⟩), .pointer (some ⟨Q, 0, none⟩), .pointer (some ⟨L, 0, none⟩), .pointer (some ⟨Q + 1 + 1, 0, none⟩)]] 106)) = W := ⟨_, rfl⟩
  have hSW : Mk W L Q G fp n 0 F.tw (List.replicate n (-1)) ∧ Below Q w1 W := by rw [← hW]; exact hst
  have cfW := hSW.1.cf
  have HS : Hid (Mk W L Q G fp n 0 F.tw (List.replicate n (-1)) ∧ Below Q w1 W) := hSW
  have hLQ : L + 2 ≤ Q := by have := b1.size; omega
  have HC0 : Hid (∀ W, Below L w W → W.cell? ⟨fp, 0, none⟩ = some (.slice An n cn) ∧ W.cell? ⟨fp, 0, none⟩ = w.cell? ⟨fp, 0, none⟩) := fun W hW => by
    have h1 := hW.cell (p := ⟨fp, 0, none⟩) (by simp only; omega)
    have h2 := B1.cell (p := ⟨fp, 0, none⟩) (by simp only; omega)
    exact ⟨by rw [h1, ← h2]; exact c0B, h1⟩
  have HB1 : Hid (Below L w w1) := B1
  have HGL : Hid (L ≤ G) := by show L ≤ G; omega
  have fpQ : fp < w1.heap.size := World.block_lt_of_cell? w1 _ c0B
  have kLQ : w1.cell? ⟨L, 0, none⟩ = some (.pointer (some ⟨fp, 0, none⟩)) := (b1.cell (World.block_lt_of_cell? wA _ kL)).trans kL
  have LQ1 : L < w1.heap.size := by omega
  have c0W : W.cell? ⟨fp, 0, none⟩ = some (.slice An n cn) := (hSW.2.cell (p := ⟨fp, 0, none⟩) (by simp only; omega)).trans c0B
  clear hrep hst b1 B1 hG1 ib1 hwA kL c0A hSW
  go_wp2_with fail
  clear hW
  go_loopw [20] (fun iv wr => ∃ (k c : Nat) (s2 : List Int), k ≤ n ∧ iv = .int .i64 k ∧ c ≤ k ∧ Hid (Mk wr L Q G fp n (c : Int) F.tw s2 ∧ Below L w wr) ∧ Hid (paF f F.tw (n - k) k c s2 = some st)) (fun iv _ => n - (intOf iv).toNat)
  case atStart => exact ⟨0, 0, _, Nat.zero_le _, rfl, Nat.le_refl _, ⟨HS.out.1, HB1.out.trans (HS.out.2.mono (by omega))⟩, HP.out⟩
  case round =>
    obtain ⟨k, c, s2, hle, rfl, hck, HM, HW⟩ := hrel
    clear HS kLQ c0B fpQ LQ1 c0W cfW
    by_cases hp4 : k < n
    · have hpk : (k : Int) < (n : Int) := by omega
      have ci := HM.out.1.ci
      have cm := HM.out.1.cm
      have cc := HM.out.1.cc
      have hW := HW.out
      rw [show n - k = (n - (k + 1)) + 1 by omega, paF] at hW
      cases hv : s2[k]? with
      | none => simp only [hv] at hW; cases hW
      | some v =>
        simp only [hv] at hW
        have cv := HM.out.1.ib.cell hv
        have hwc : IntKind.i64.wrap ((c : Int) + 1) = ((c + 1 : Nat) : Int) := by rw [IntKind.wrap_i64]; omega
        by_cases hm1 : v = -1
        · rw [if_pos hm1] at hW
          subst hm1
          cases hq : mkF F.tw (c : Int) f k s2 with
          | none => rw [hq] at hW; cases hW
          | some s3 =>
            rw [hq] at hW
            have hcall := mark_any L Q G fp n (c : Int) F.tw f k s2 s3 wr HM.out.1 hq
            have HW3 : Hid (paF f F.tw (n - (k + 1)) (k + 1) (c + 1) s3 = some st) := hW
            clear hW hq hv
            go_wp2_with fail
            refine hcall.mono ?_
            rintro e5 w5 ⟨rfl, S5, G5⟩
            have cc5 := S5.cc
            have HS5 : Hid (Mk w5 L Q G fp n (c : Int) F.tw s3 ∧ Below L w w5) := ⟨S5, HM.out.2.trans ⟨G5.os, G5.tape, G5.output, G5.size, fun j hj => G5.block j (by have := HM.out.2.size; omega) (by simp; have := HGL.out; omega)⟩⟩
            have z5 := S5.zc
            clear S5 G5 hcall
            go_wp2_with fail
            go_roundw
            case rel => exact ⟨k + 1, c + 1, s3, by omega, by go_num, by omega, ⟨HS5.out.1.count, HS5.out.2.trans ⟨rfl, rfl, rfl, by simp [World.setCell], fun j hj => heap_setCell_other w5 ⟨Q + 1, 0, none⟩ j _ (by simp; omega)⟩⟩, HW3.out⟩
            case measure => simp [intOf]; omega
        · rw [if_neg hm1] at hW
          have HW3 : Hid (paF f F.tw (n - (k + 1)) (k + 1) c s2 = some st) := hW
          have hmb : (v == -1) = false := by rw [beq_eq_false_iff_ne]; exact hm1
          clear hW hv
          go_wp2_with fail
          go_roundw
          case rel => exact ⟨k + 1, c, s2, by omega, by go_num, by omega, HM.out, HW3.out⟩
          case measure => simp [intOf]; omega
    · have hkn : k = n := by omega
      subst hkn
      have hkk : ¬ ((k : Int) < (k : Int)) := by omega
      have ci := HM.out.1.ci
      have hss : s2 = st := by
        have := HW.out
        rw [Nat.sub_self] at this
        exact Option.some.inj this
      subst hss
      clear HW
      go_wp2_with fail
      go_ret
      exact ⟨G, rfl, HM.out.1.ib, HM.out.1.len, HGL.out, HM.out.2⟩

end Go.Proofs.Ytcakfclfggnmbaa

namespace Go.Proofs.Ytcakfclfggnmbaa
open Go.Maps Go.RowKit
set_option linter.unusedVariables false
set_option maxRecDepth 100000

/-- the first node that is in another part than the ground -/
def grF : Nat → List Int → Int × Int
  | _, [] => (0, 0)
  | a, v :: t => if v ≠ 0 then (11, (a : Int) - 1) else grF (a + 1) t
theorem take_nd {F F' : Fr} {f : Nat} {nm : Nm} {a b : Nat} (h : F.take f nm a b = some F') : F'.nd = F.nd := by
  unfold Fr.take at h
  split at h
  · cases h
  · cases h; rfl
  · cases h; rfl
theorem growF_nd {f : Nat} {want : Nat → Bool} {nodes : List Nm} : ∀ {es : List Elm} {F F' : Fr}, growF f want nodes es F = some F' → F'.nd = F.nd := by
  intro es
  induction es with
  | nil => intro F F' hg; cases hg; rfl
  | cons x t ih =>
    intro F F' hg
    rw [growF] at hg
    split at hg
    · cases q : F.take f (bl x.n) (posL nodes (bl x.a)) (posL nodes (bl x.b)) with
      | none => rw [q] at hg; cases hg
      | some F2 => rw [q] at hg; rw [ih hg, take_nd q]
    · exact ih hg
theorem Gn.ndF {w : World} {p f : Nat} {N : Ns} {want : Nat → Bool} {F : Fr} (h : Gn w p f N want F) : F.nd = [48] :: N.nd := growF_nd h.g
/-- the parts of a net's forest -/
theorem parts_gn {w w1 : World} {p f fp : Nat} {N : Ns} {F : Fr} {B : Fb} {st : List Int} (h : Gn w p f N wJ F) (hF : Fo w1 w.heap.size fp F B) (hp : paF f F.tw (N.nd.length + 1) 0 0 (List.replicate (N.nd.length + 1) (-1)) = some st) :
    Calls Try.prog 34 #[.pointer (some ⟨fp, 0, none⟩)] w1 fun e w' => ∃ G, e = .returned (.slice (some ⟨G, 0, none⟩) (N.nd.length + 1) (N.nd.length + 1)) ∧ Ib w' G st ∧ st.length = N.nd.length + 1 ∧ w1.heap.size ≤ G ∧ Below w1.heap.size w1 w' := by
  have h1 := h.n1
  have h2 := h.ne
  exact parts_any w1 w.heap.size fp f (N.nd.length + 1) F B st hF (h.fit.ok (by omega) (by omega)) (by rw [h.ndF]; rfl) (by omega) (by omega) hp
set_option maxHeartbeats 4000000 in
theorem grounded_any {w : World} {p f : Nat} {N : Ns} {F : Fr} {st : List Int} (h : Gn w p f N wJ F) (hp : paF f F.tw (N.nd.length + 1) 0 0 (List.replicate (N.nd.length + 1) (-1)) = some st) : Calls Try.prog 16 #[.pointer (some ⟨p, 0, none⟩)] w fun e w' => e = .returned (.agg #[.int .i64 (grF 0 st).1, .int .i64 (grF 0 st).2]) ∧ Below w.heap.size w w' := by
  obtain ⟨L, hL⟩ : ∃ L, w.heap.size = L := ⟨_, rfl⟩
  obtain ⟨wA, hwA⟩ : ∃ wA, w.alloc (.cells #[.int .i64 0, .int .i64 0] 37) = wA := ⟨_, rfl⟩
  have bA : Below w.heap.size w wA := by rw [← hwA]; exact (Below.refl _ _).alloc (Nat.le_refl _) _
  have kA : wA.heap[L]? = some (.cells #[.int .i64 0, .int .i64 0] 37 (0, 0)) := by rw [← hwA, ← hL]; exact heap_alloc_new _ _
  have hA := h.below bA
  have hg := grow_j hA
  have hn1 := h.n1
  obtain ⟨n, hn⟩ : ∃ n, N.nd.length + 1 = n := ⟨_, rfl⟩
  have HA : Hid (Gn wA p f N wJ F ∧ Below w.heap.size w wA ∧ wA.heap[L]? = some (.cells #[.int .i64 0, .int .i64 0] 37 (0, 0)) ∧ L < wA.heap.size) := ⟨hA, bA, kA, (Array.getElem?_eq_some_iff.1 kA).1⟩
  have HP : Hid _ := hp
  clear hA bA kA h hp
  go_enter Try.func16, Try.ntmps16
  go_wp2_with fail
  refine hg.mono ?_
  rintro e1 w1 ⟨fp, B, rfl, hF, hb⟩
  have hpc := parts_gn HA.out.1 hF HP.out
  rw [hn] at hpc
  have HB1 : Hid (Below wA.heap.size wA w1) := hb
  clear hg hF hb hwA
  go_wp2_with fail
  refine hpc.mono ?_
  rintro e2 w2 ⟨G, rfl, ib, hlen, hGe, hb2⟩
  have k2 : w2.heap[L]? = some (.cells #[.int .i64 0, .int .i64 0] 37 (0, 0)) := by
    rw [hb2.block L (Nat.lt_of_lt_of_le HA.out.2.2.2 HB1.out.size), HB1.out.block L HA.out.2.2.2]; exact HA.out.2.2.1
  have HB2 : Hid (Below L w w2) := by
    rw [← hL]
    exact HA.out.2.1.trans ((HB1.out.mono HA.out.2.1.size).trans (hb2.mono (Nat.le_trans HA.out.2.1.size HB1.out.size)))
  have HIB : Hid (Ib w2 G st ∧ st.length = n) := ⟨ib, hlen⟩
  have HK2 : Hid _ := k2
  clear hpc ib hlen hb2 hGe k2
  go_wp2_with fail
  go_loopw [18] (fun iv wr => ∃ (k : Nat), k ≤ n ∧ iv = .int .i64 k ∧ wr = w2 ∧ Hid (grF k (st.drop k) = grF 0 st)) (fun iv _ => n - (intOf iv).toNat)
  case atStart => exact ⟨0, Nat.zero_le _, rfl, rfl, rfl⟩
  case round =>
    obtain ⟨k, hle, rfl, hwr, HW⟩ := hrel
    subst hwr
    obtain ⟨z0, z1, z2, z3⟩ := tw_c HK2.out
    by_cases hp4 : k < n
    · have hpk : (k : Int) < (n : Int) := by omega
      obtain ⟨v, hv⟩ : ∃ v, st[k]? = some v := ⟨_, List.getElem?_eq_getElem (by have := HIB.out.2; omega)⟩
      have cv := HIB.out.1.cell hv
      have hdr : st.drop k = v :: st.drop (k + 1) := (List.drop_eq_getElem_cons (by have := HIB.out.2; omega)).trans (by rw [(List.getElem?_eq_some_iff.1 hv).2])
      have hW := HW.out
      rw [hdr, grF] at hW
      clear hv hdr
      by_cases hv0 : v = 0
      · rw [if_neg (by simp [hv0])] at hW
        have HW2 : Hid (grF (k + 1) (st.drop (k + 1)) = grF 0 st) := hW
        have hvb : (v != 0) = false := by simp [hv0]
        clear hW
        go_wp2_with fail
        go_roundw
        case rel => exact ⟨k + 1, by omega, by go_num, by first | trivial | rfl, HW2.out⟩
        case measure => simp [intOf]; omega
      · rw [if_pos hv0] at hW
        have hvb : (v != 0) = true := by simp [hv0]
        have hwk : IntKind.i64.wrap ((k : Int) - 1) = (k : Int) - 1 := by rw [IntKind.wrap_i64]; omega
        obtain ⟨y0, y1⟩ := tw_set HK2.out (.int .i64 11) (.int .i64 ((k : Int) - 1))
        have HW2 : Hid (((11 : Int), (k : Int) - 1) = grF 0 st) := hW
        clear hW
        go_wp2_with fail
        (try simp only [Exit.inBlock, Exit.then])
        refine bodyPost_ret (by simp [results, Try.results16, go_sem, y0, y1]; try rfl) rfl ?_
        refine ⟨by rw [← HW2.out], ?_⟩
        first | exact tw_bel HB2.out (Nat.le_refl _) _ _ | (rw [hL]; exact tw_bel HB2.out (Nat.le_refl _) _ _)
    · have hkn : k = n := by omega
      subst hkn
      have hkk : ¬ ((k : Int) < (k : Int)) := by omega
      have HW2 : Hid (((0 : Int), (0 : Int)) = grF 0 st) := by
        have := HW.out
        rw [List.drop_eq_nil_of_le (by have := HIB.out.2; omega)] at this
        exact this
      obtain ⟨y0, y1⟩ := tw_set HK2.out (.int .i64 0) (.int .i64 0)
      clear HW
      go_wp2_with fail
      (try simp only [Exit.inBlock, Exit.then])
      refine bodyPost_ret (by simp [results, Try.results16, go_sem, y0, y1]; try rfl) rfl ?_
      refine ⟨by rw [← HW2.out], ?_⟩
      first | exact tw_bel HB2.out (Nat.le_refl _) _ _ | (rw [hL]; exact tw_bel HB2.out (Nat.le_refl _) _ _)

end Go.Proofs.Ytcakfclfggnmbaa

namespace Go.Proofs.Ytcakfclfggnmbaa
open Go.Maps Go.RowKit
set_option linter.unusedVariables false
set_option maxRecDepth 100000

def agN (xs ys : List Nm) (k : Nat) : Prop := ∀ j, j < k → xs[j]? = ys[j]?
theorem agN_all {xs ys : List Nm} (h : agN xs ys xs.length) (hl : xs.length = ys.length) : xs = ys := by
  apply List.ext_getElem?
  intro i
  by_cases hi : i < xs.length
  · exact h i hi
  · rw [List.getElem?_eq_none (by omega), List.getElem?_eq_none (by omega)]
theorem row_cellS {w : World} {base : Nat} {v : Value} {xs : List Nm} (h : w.ownsRow base 9 1 v xs.length (xs.map sv)) {k : Nat} {x : Nm} (hk : xs[k]? = some x) : ∃ g cap, v = .slice (some ⟨g, 0, none⟩) xs.length cap ∧ w.cell? ⟨g, k, none⟩ = some (.string ⟨x.toArray⟩) := by
  have hlt := (List.getElem?_eq_some_iff.1 hk).1
  obtain ⟨g, cap, hv⟩ : ∃ g cap, v = .slice (some ⟨g, 0, none⟩) xs.length cap := by
    obtain ⟨_, ⟨h1, h2⟩ | ⟨g, cap, cur, h1, _⟩⟩ := h
    · omega
    · exact ⟨_, _, h1⟩
  rw [hv] at h
  exact ⟨g, cap, hv, by rw [h.cellAt k (by omega), List.getElem?_map, hk]; rfl⟩
theorem bel_dN (w : World) (q : Nat) : Below w.heap.size w (w.drewN q) := ⟨rfl, rfl, rfl, Nat.le_refl _, fun _ _ => rfl⟩
set_option maxHeartbeats 4000000 in
theorem sameS_any (w : World) (b1 b2 : Nat) (a b : Value) (xs ys : List Nm) (ha : w.ownsRow b1 9 1 a xs.length (xs.map sv)) (hb : w.ownsRow b2 9 1 b ys.length (ys.map sv)) (hx : xs.length ≤ 1000000) (hy : ys.length ≤ 1000000) :
    Calls Try.prog 13 #[a, b] w fun e w' => e = .returned (.bool (decide (xs = ys))) ∧ Below w.heap.size w w' := by
  have HA : Hid _ := ha
  have HB : Hid _ := hb
  obtain ⟨A, ca, hva⟩ : ∃ A c, a = .slice A xs.length c := by
    obtain ⟨_, ⟨h1, h2⟩ | ⟨g, cap, cur, h1, _⟩⟩ := ha
    · exact ⟨none, 0, by rw [h1, h2]⟩
    · exact ⟨_, _, h1⟩
  obtain ⟨B, cb, hvb⟩ : ∃ A c, b = .slice A ys.length c := by
    obtain ⟨_, ⟨h1, h2⟩ | ⟨g, cap, cur, h1, _⟩⟩ := hb
    · exact ⟨none, 0, by rw [h1, h2]⟩
    · exact ⟨_, _, h1⟩
  clear ha hb
  subst hva
  subst hvb
  by_cases hl : xs.length = ys.length
  · obtain ⟨n, hn⟩ : ∃ n, xs.length = n := ⟨_, rfl⟩
    have hn2 : ys.length = n := by omega
    rw [hn] at HA hx ⊢
    rw [hn2] at HB hy ⊢
    have HN : Hid (xs.length = n ∧ ys.length = n) := ⟨hn, hn2⟩
    have hnn : ((n : Int) != (n : Int)) = false := by simp
    clear hn hn2 hl
    go_enter Try.func13, Try.ntmps13
    go_wp2_with fail
    go_loopw [5] (fun iv wr => ∃ (k : Nat), k ≤ n ∧ iv = .int .i64 k ∧ Hid (∃ q, wr = w.drewN q) ∧ Hid (agN xs ys k)) (fun iv _ => n - (intOf iv).toNat)
    case atStart => exact ⟨0, Nat.zero_le _, rfl, ⟨0, rfl⟩, fun j hj => absurd hj (by omega)⟩
    case round =>
      obtain ⟨k, hle, rfl, HQ, HG⟩ := hrel
      obtain ⟨q, hq⟩ := HQ.out
      subst hq
      by_cases hp4 : k < n
      · have hpk : (k : Int) < (n : Int) := by omega
        obtain ⟨x, hx1⟩ : ∃ x, xs[k]? = some x := ⟨_, List.getElem?_eq_getElem (by have := HN.out.1; omega)⟩
        obtain ⟨y, hy1⟩ : ∃ y, ys[k]? = some y := ⟨_, List.getElem?_eq_getElem (by have := HN.out.2; omega)⟩
        obtain ⟨g, cg, hvg, cx⟩ := row_cellS (by rw [HN.out.1]; exact HA.out) hx1
        obtain ⟨g2, cg2, hvg2, cy⟩ := row_cellS (by rw [HN.out.2]; exact HB.out) hy1
        rw [HN.out.1] at hvg
        rw [HN.out.2] at hvg2
        cases hvg
        cases hvg2
        have HX : Hid (xs[k]? = some x ∧ ys[k]? = some y) := ⟨hx1, hy1⟩
        clear hx1 hy1
        by_cases hxy : x = y
        · subst hxy
          have hxx : (x == x) = true := by simp
          go_wp2_with fail
          go_region_held_law (fun w' => w'.cell? ⟨g, k, none⟩ = some (.string ⟨x.toArray⟩) ∧ w'.cell? ⟨g2, k, none⟩ = some (.string ⟨x.toArray⟩)) (first | exact ⟨cx, cy⟩ | go_keep) (fail)
          go_wp2_with fail
          go_roundw
          case rel => exact ⟨k + 1, by omega, by go_num, ⟨q + 1, rfl⟩, fun j hj => by
            rcases Nat.lt_succ_iff_lt_or_eq.1 hj with q2 | rfl
            · exact HG.out j q2
            · rw [HX.out.1, HX.out.2]⟩
          case measure => simp [intOf]; omega
        · have hxx : (x == y) = false := by simpa using hxy
          go_wp2_with fail
          go_region_held_law (fun w' => w'.cell? ⟨g, k, none⟩ = some (.string ⟨x.toArray⟩) ∧ w'.cell? ⟨g2, k, none⟩ = some (.string ⟨y.toArray⟩)) (first | exact ⟨cx, cy⟩ | go_keep) (fail)
          go_wp2_with fail
          go_ret
          refine ⟨?_, bel_dN w (q + 1)⟩
          have : ¬ xs = ys := fun e => hxy (by
            have h1 := HX.out.1
            rw [e, HX.out.2] at h1
            exact (Option.some.inj h1).symm)
          rw [decide_eq_false this]; rfl
      · have hkn : k = n := by omega
        subst hkn
        have hkk : ¬ ((k : Int) < (k : Int)) := by omega
        have he : xs = ys := agN_all (by rw [HN.out.1]; exact HG.out) (by rw [HN.out.1, HN.out.2])
        have hd : decide (xs = ys) = true := decide_eq_true he
        clear he
        go_wp2_with fail
        go_ret
        exact ⟨rfl, bel_dN w q⟩
  · have hne : ((xs.length : Int) != (ys.length : Int)) = true := by
      rw [bne_iff_ne]; omega
    have hd : decide (xs = ys) = false := decide_eq_false (fun e => hl (by rw [e]))
    go_enter Try.func13, Try.ntmps13
    go_wp2_with fail
    go_ret
    first | exact ⟨rfl, Below.refl _ _⟩ | (rw [hd]; exact ⟨rfl, Below.refl _ _⟩)

theorem ll_cell {w : World} {base : Nat} {v : Value} {vals : List Value} {ls : List (List Nm)} (h : LL w base 29 9 1 nmE v vals ls) {k : Nat} {l : List Nm} (hk : ls[k]? = some l) : ∃ g cap u, v = .slice (some ⟨g, 0, none⟩) ls.length cap ∧ w.cell? ⟨g, k, none⟩ = some u ∧ w.ownsRow base 9 1 u l.length (l.map sv) := by
  have hlt := (List.getElem?_eq_some_iff.1 hk).1
  have hlen := h.len
  obtain ⟨u, hu⟩ : ∃ u, vals[k]? = some u := ⟨_, List.getElem?_eq_getElem (by omega)⟩
  have o := h.out
  obtain ⟨g, cap, hv⟩ : ∃ g cap, v = .slice (some ⟨g, 0, none⟩) vals.length cap := by
    obtain ⟨_, ⟨h1, h2⟩ | ⟨g, cap, cur, h1, _⟩⟩ := o
    · omega
    · exact ⟨_, _, h1⟩
  rw [hv] at o
  have hr := h.inn k u l hu hk
  rw [nmE_map] at hr
  exact ⟨g, cap, u, by rw [hlen]; exact hv, by rw [o.cellAt k (by omega)]; exact hu, hr⟩
def agL (xs ys : List (List Nm)) (k : Nat) : Prop := ∀ j, j < k → xs[j]? = ys[j]?
theorem agL_all {xs ys : List (List Nm)} (h : agL xs ys xs.length) (hl : xs.length = ys.length) : xs = ys := by
  apply List.ext_getElem?
  intro i
  by_cases hi : i < xs.length
  · exact h i hi
  · rw [List.getElem?_eq_none (by omega), List.getElem?_eq_none (by omega)]
set_option maxHeartbeats 4000000 in
theorem sameL_any (w : World) (b1 b2 : Nat) (a b : Value) (va vb : List Value) (xs ys : List (List Nm)) (ha : LL w b1 29 9 1 nmE a va xs) (hb : LL w b2 29 9 1 nmE b vb ys) (hx : xs.length ≤ 1000000) (hy : ys.length ≤ 1000000) (hxl : ∀ l ∈ xs, l.length ≤ 1000000) (hyl : ∀ l ∈ ys, l.length ≤ 1000000) :
    Calls Try.prog 11 #[a, b] w fun e w' => e = .returned (.bool (decide (xs = ys))) ∧ Below w.heap.size w w' := by
  obtain ⟨A, ca, hva⟩ : ∃ A c, a = .slice A xs.length c := by
    rw [ha.len]
    obtain ⟨_, ⟨h1, h2⟩ | ⟨g, cap, cur, h1, _⟩⟩ := ha.out
    · exact ⟨none, 0, by rw [h1, h2]⟩
    · exact ⟨_, _, h1⟩
  obtain ⟨B, cb, hvb⟩ : ∃ A c, b = .slice A ys.length c := by
    rw [hb.len]
    obtain ⟨_, ⟨h1, h2⟩ | ⟨g, cap, cur, h1, _⟩⟩ := hb.out
    · exact ⟨none, 0, by rw [h1, h2]⟩
    · exact ⟨_, _, h1⟩
  subst hva
  subst hvb
  have HA : Hid _ := ha
  have HB : Hid _ := hb
  have HXL : Hid ((∀ l ∈ xs, l.length ≤ 1000000) ∧ ∀ l ∈ ys, l.length ≤ 1000000) := ⟨hxl, hyl⟩
  clear ha hb hxl hyl
  by_cases hl : xs.length = ys.length
  · obtain ⟨n, hn⟩ : ∃ n, xs.length = n := ⟨_, rfl⟩
    have hn2 : ys.length = n := by omega
    rw [hn] at HA hx ⊢
    rw [hn2] at HB hy ⊢
    have HN : Hid (xs.length = n ∧ ys.length = n) := ⟨hn, hn2⟩
    have hnn : ((n : Int) != (n : Int)) = false := by simp
    clear hn hn2 hl
    go_enter Try.func11, Try.ntmps11
    go_wp2_with fail
    go_loopw [5] (fun iv wr => ∃ (k : Nat), k ≤ n ∧ iv = .int .i64 k ∧ Hid (Below w.heap.size w wr) ∧ Hid (agL xs ys k)) (fun iv _ => n - (intOf iv).toNat)
    case atStart => exact ⟨0, Nat.zero_le _, rfl, Below.refl _ _, fun j hj => absurd hj (by omega)⟩
    case round =>
      obtain ⟨k, hle, rfl, HQ, HG⟩ := hrel
      by_cases hp4 : k < n
      · have hpk : (k : Int) < (n : Int) := by omega
        obtain ⟨x, hx1⟩ : ∃ x, xs[k]? = some x := ⟨_, List.getElem?_eq_getElem (by have := HN.out.1; omega)⟩
        obtain ⟨y, hy1⟩ : ∃ y, ys[k]? = some y := ⟨_, List.getElem?_eq_getElem (by have := HN.out.2; omega)⟩
        obtain ⟨g, cg, ux, hvg, cx, rx⟩ := ll_cell (HA.out.below HQ.out) hx1
        obtain ⟨g2, cg2, uy, hvg2, cy, ry⟩ := ll_cell (HB.out.below HQ.out) hy1
        rw [HN.out.1] at hvg
        rw [HN.out.2] at hvg2
        cases hvg
        cases hvg2
        have hcall := sameS_any wr.drew b1 b2 ux uy x y rx ry (HXL.out.1 x (List.mem_of_getElem? hx1)) (HXL.out.2 y (List.mem_of_getElem? hy1))
        have HX : Hid (xs[k]? = some x ∧ ys[k]? = some y) := ⟨hx1, hy1⟩
        have HRC : Hid (∀ W, Below wr.drew.heap.size wr.drew W → W.cell? ⟨g, k, none⟩ = some ux ∧ W.cell? ⟨g2, k, none⟩ = some uy) := fun W hW => ⟨(hW.cell (World.block_lt_of_cell? wr _ cx)).trans cx, (hW.cell (World.block_lt_of_cell? wr _ cy)).trans cy⟩
        clear hx1 hy1 rx ry
        by_cases hxy : x = y
        · rw [decide_eq_true hxy] at hcall
          go_wp2_with fail
          go_region_held_law (fun w' => w'.cell? ⟨g, k, none⟩ = some ux ∧ w'.cell? ⟨g2, k, none⟩ = some uy) (first | exact ⟨cx, cy⟩ | exact HRC.out _ hb5 | go_keep) (first | (go_at_call 13; (with_reducible refine hcall.mono ?_); rintro e5 w5 ⟨rfl, hb5⟩))
          go_wp2_with fail
          go_roundw
          case rel => exact ⟨k + 1, by omega, by go_num, HQ.out.trans ((Below.drew (Below.refl _ wr)).trans hb5 |>.mono HQ.out.size), fun j hj => by
            rcases Nat.lt_succ_iff_lt_or_eq.1 hj with q2 | rfl
            · exact HG.out j q2
            · rw [HX.out.1, HX.out.2, hxy]⟩
          case measure => simp [intOf]; omega
        · rw [decide_eq_false hxy] at hcall
          go_wp2_with fail
          go_region_held_law (fun w' => w'.cell? ⟨g, k, none⟩ = some ux ∧ w'.cell? ⟨g2, k, none⟩ = some uy) (first | exact ⟨cx, cy⟩ | exact HRC.out _ hb5 | go_keep) (first | (go_at_call 13; (with_reducible refine hcall.mono ?_); rintro e5 w5 ⟨rfl, hb5⟩))
          go_wp2_with fail
          go_ret
          have : ¬ xs = ys := fun e => hxy (by
            have h1 := HX.out.1
            rw [e, HX.out.2] at h1
            exact (Option.some.inj h1).symm)
          refine ⟨by rw [decide_eq_false this]; rfl, HQ.out.trans ((Below.drew (Below.refl _ wr)).trans hb5 |>.mono HQ.out.size)⟩
      · have hkn : k = n := by omega
        subst hkn
        have hkk : ¬ ((k : Int) < (k : Int)) := by omega
        have he : xs = ys := agL_all (by rw [HN.out.1]; exact HG.out) (by rw [HN.out.1, HN.out.2])
        have hd : decide (xs = ys) = true := decide_eq_true he
        clear he
        go_wp2_with fail
        go_ret
        first | exact ⟨rfl, HQ.out⟩ | (rw [hd]; exact ⟨rfl, HQ.out⟩)
  · have hne : ((xs.length : Int) != (ys.length : Int)) = true := by
      rw [bne_iff_ne]; omega
    have hd : decide (xs = ys) = false := decide_eq_false (fun e => hl (by rw [e]))
    go_enter Try.func11, Try.ntmps11
    go_wp2_with fail
    go_ret
    first | exact ⟨rfl, Below.refl _ _⟩ | (rw [hd]; exact ⟨rfl, Below.refl _ _⟩)

end Go.Proofs.Ytcakfclfggnmbaa

namespace Go.Proofs.Ytcakfclfggnmbaa
open Go.Maps Go.RowKit
set_option linter.unusedVariables false
set_option maxRecDepth 100000

/-- the lists of nodes, by the numbers of their parts -/
def psF : List Nm → List Int → List (List Nm) → Option (List (List Nm))
  | [], _, ls => some ls
  | _ :: _, [], _ => none
  | x :: xs, v :: vs, ls => if v = (ls.length : Int) then psF xs vs ((ls ++ [[]]).set v.toNat ((ls ++ [[]]).getD v.toNat [] ++ [x]))
    else if 0 ≤ v ∧ v.toNat < ls.length then psF xs vs (ls.set v.toNat (ls.getD v.toNat [] ++ [x])) else none
theorem gd_mem {ls : List (List Nm)} {a : Nat} (h : a < ls.length) : ls.getD a [] ∈ ls := by
  rw [List.getD_eq_getElem?_getD, List.getElem?_eq_getElem h]; exact List.getElem_mem h
theorem ll_at {w : World} {base g nl cap : Nat} {vals : List Value} {ls : List (List Nm)} (h : LL w base 29 9 1 nmE (.slice (some ⟨g, 0, none⟩) nl cap) vals ls) {a : Nat} (ha : a < ls.length) : ∃ u, vals[a]? = some u ∧ w.ownsRow base 9 1 u (ls.getD a []).length ((ls.getD a []).map sv) ∧ w.cell? ⟨g, a, none⟩ = some u ∧ w.frozen? ⟨g, a, none⟩ = false := by
  have hn := h.len
  obtain ⟨u, hu⟩ : ∃ u, vals[a]? = some u := ⟨_, List.getElem?_eq_getElem (by omega)⟩
  have hl : ls[a]? = some (ls.getD a []) := by rw [List.getD_eq_getElem?_getD, List.getElem?_eq_getElem ha]; rfl
  have hnl : vals.length = nl := by
    obtain ⟨_, ⟨q, _⟩ | ⟨g2, c2, cur, q, _⟩⟩ := h.out
    · cases q
    · cases q; rfl
  have o := h.out
  rw [hnl] at o
  have hr := h.inn a u _ hu hl
  rw [nmE_map] at hr
  exact ⟨u, hu, hr, by rw [o.cellAt a (by omega)]; exact hu, o.frozenAt a⟩
theorem pt_end {w2 wz w4 : World} {b0 g nl cap m a g4 cp4 : Nat} {vals : List Value} {ls : List (List Nm)} {x : Nm} {u : Value} {o : Obj} (h : LL wz b0 29 9 1 nmE (.slice (some ⟨g, 0, none⟩) nl cap) vals ls) (hb : Below b0 w2 wz) (hu : vals[a]? = some u) (hm : (ls.getD a []).length = m) (hbz : b0 ≤ wz.heap.size)
    (hown : w4.ownsRow b0 9 1 (.slice (some ⟨g4, 0, none⟩) (m + 1) cp4) (m + 1) ((ls.getD a []).map sv ++ [.string ⟨x.toArray⟩])) (hgrow : (wz.alloc o).drew.grownBy w4 u.ownBlock) (hat : u.ownBlock = some g4 ∨ g4 = wz.heap.size + 1) :
    ∃ vals', LL (w4.setCell ⟨g, a, none⟩ (.slice (some ⟨g4, 0, none⟩) (m + 1) cp4)) b0 29 9 1 nmE (.slice (some ⟨g, 0, none⟩) nl cap) vals' (ls.set a (ls.getD a [] ++ [x])) ∧ Below b0 w2 (w4.setCell ⟨g, a, none⟩ (.slice (some ⟨g4, 0, none⟩) (m + 1) cp4)) := by
  have bA : Below wz.heap.size wz (wz.alloc o).drew := ((Below.refl _ wz).alloc (Nat.le_refl _) o).drew
  have hL := h.below bA
  have hS := hL.store (l' := ls.getD a [] ++ [x]) (u' := .slice (some ⟨g4, 0, none⟩) (m + 1) cp4) hu hgrow (by rw [nmE_map, List.length_append, List.map_append, hm]; exact hown) (fun gg q => by
    have e : g4 = gg := Option.some.inj q
    rcases hat with q2 | q2
    · exact .inl (by rw [q2, e])
    · exact .inr (by show (wz.alloc o).heap.size ≤ gg; simp; omega))
  obtain ⟨l, hl, hru⟩ := hL.inn' hu
  have hgb := row_ge hL.out (g := g) rfl
  refine ⟨_, hS, hb.trans ((bA.mono hbz).trans ⟨hgrow.os, hgrow.tape, hgrow.output, by have := hgrow.size; simpa [World.setCell] using this, fun k hk => ?_⟩)⟩
  rw [heap_setCell_other w4 ⟨g, a, none⟩ k _ (by simp; omega), hgrow.block k (by have := bA.size; omega) (fun e => by have := (row_ge hru e.symm).1; omega)]
theorem ps_fit {ls : List (List Nm)} {a k : Nat} {x : Nm} (ha : a < ls.length) (h1 : ls.length ≤ k) (h2 : ∀ l ∈ ls, l.length ≤ k) : (ls.set a (ls.getD a [] ++ [x])).length ≤ k + 1 ∧ ∀ l ∈ ls.set a (ls.getD a [] ++ [x]), l.length ≤ k + 1 := by
  refine ⟨by simp; omega, fun l hl => ?_⟩
  rcases List.mem_or_eq_of_mem_set hl with q | q
  · have := h2 l q; omega
  · rw [q, List.length_append]
    have := h2 _ (gd_mem ha)
    simp only [List.length_singleton]; omega
set_option maxHeartbeats 4000000 in
theorem gparts_any {w : World} {p f : Nat} {N : Ns} {F : Fr} {st : List Int} {ls0 : List (List Nm)} (h : Gn w p f N wJ F) (hp : paF f F.tw (N.nd.length + 1) 0 0 (List.replicate (N.nd.length + 1) (-1)) = some st) (hps : psF ([48] :: N.nd) st [] = some ls0) : Calls Try.prog 8 #[.pointer (some ⟨p, 0, none⟩)] w fun e w' => ∃ v vals, e = .returned v ∧ LL w' w.heap.size 29 9 1 nmE v vals ls0 ∧ Below w.heap.size w w' := by
  have hg := grow_j h
  have hn1 := h.n1
  obtain ⟨n, hn⟩ : ∃ n, N.nd.length + 1 = n := ⟨_, rfl⟩
  have HH : Hid _ := h
  have HP : Hid _ := hp
  have HPS : Hid _ := hps
  obtain ⟨i0, hi0, hy0, hy1, hy2⟩ := info_parts Try.infoS
  obtain ⟨j0, hj0, hx0, hx1, hx2⟩ := info_parts Try.infoSS
  clear h hp hps
  go_enter Try.func8, Try.ntmps8
  go_wp2_with fail
  refine hg.mono ?_
  rintro e1 w1 ⟨fp, B, rfl, hF, hb⟩
  have hpc := parts_gn HH.out hF HP.out
  rw [hn] at hpc
  have HF1 : Hid (Fo w1 w.heap.size fp F B ∧ Below w.heap.size w w1) := ⟨hF, hb⟩
  clear hg hF hb
  go_wp2_with fail
  refine hpc.mono ?_
  rintro e2 w2 ⟨G, rfl, ib, hlen, hGe, hb2⟩
  have hF2 := HF1.out.1.below hb2
  obtain ⟨b0, hb0⟩ : ∃ b0, w2.heap.size = b0 := ⟨_, rfl⟩
  obtain ⟨nodes, hnodes⟩ : ∃ nodes, [48] :: N.nd = nodes := ⟨_, rfl⟩
  have hndl : nodes.length = n := by rw [← hnodes]; exact hn
  have hfnd : F.nd = nodes := by rw [HH.out.ndF]; exact hnodes
  have rN := hF2.nd
  rw [hfnd, hndl] at rN
  obtain ⟨gn, cn, hvn⟩ := row_some rN (by omega)
  have cN := hF2.c.1
  rw [hvn] at cN
  rw [hvn] at rN
  have HIB : Hid (Ib w2 G st ∧ st.length = n ∧ G < b0) := ⟨ib, hlen, by rw [← hb0]; exact ib.lt⟩
  have HCN : Hid (w2.cell? ⟨fp, 0, none⟩ = some (.slice (some ⟨gn, 0, none⟩) n cn) ∧ fp < b0 ∧ gn < b0 ∧ ∀ k x, nodes[k]? = some x → w2.cell? ⟨gn, k, none⟩ = some (.string ⟨x.toArray⟩)) := ⟨cN, by rw [← hb0]; exact hF2.lt, by rw [← hb0]; exact (row_ge rN (g := gn) rfl).2, fun k x hk => by
    have hlt := (List.getElem?_eq_some_iff.1 hk).1
    rw [rN.cellAt k (by omega), List.getElem?_map, hk]; rfl⟩
  have HB0 : Hid (b0 ≤ w2.heap.size) := by show b0 ≤ _; omega
  have HFPB : Hid (fp < b0) := HCN.out.2.1
  have HW2 : Hid (Below w.heap.size w w2 ∧ w.heap.size ≤ b0) := ⟨HF1.out.2.trans (hb2.mono HF1.out.2.size), by have := HF1.out.2.size; have := hb2.size; omega⟩
  have HNL : Hid (nodes.length = n) := hndl
  rw [hnodes] at HPS
  clear hpc ib hlen hb2 hGe hF2 hfnd rN hvn cN hndl hnodes hb0
  go_wp2_with fail
  go_loopw [18, 5] (fun iv lv wr => ∃ (k : Nat) (vals : List Value) (ls : List (List Nm)), k ≤ n ∧ iv = .int .i64 k ∧ Hid (LL wr b0 29 9 1 nmE lv vals ls ∧ Below b0 w2 wr) ∧ Hid (psF (nodes.drop k) (st.drop k) ls = some ls0) ∧ Hid (ls.length ≤ k ∧ ∀ l ∈ ls, l.length ≤ k)) (fun iv _ _ => n - (intOf iv).toNat)
  case atStart => exact ⟨0, [], [], Nat.zero_le _, rfl, ⟨LL.nil _ _ (by decide) _ _, Below.refl _ _⟩, HPS.out, ⟨Nat.le_refl _, fun l hl => by cases hl⟩⟩
  case round =>
    obtain ⟨k, vals, ls, hle, rfl, HL0, HW, HLB0⟩ := hrel
    obtain ⟨Al, cl, hvl⟩ := row_slice HL0.out.1.out
    rw [← HL0.out.1.len] at hvl
    subst hvl
    by_cases hp4 : k < n
    · have hpk : (k : Int) < (n : Int) := by omega
      obtain ⟨v, hv⟩ : ∃ v, st[k]? = some v := ⟨_, List.getElem?_eq_getElem (by have := HIB.out.2.1; omega)⟩
      obtain ⟨x, hx⟩ : ∃ x, nodes[k]? = some x := ⟨_, List.getElem?_eq_getElem (by have := HNL.out; omega)⟩
      have cv : wr.cell? ⟨G, k, none⟩ = some (.int .i64 v) := (HL0.out.2.cell (p := ⟨G, k, none⟩) HIB.out.2.2).trans (HIB.out.1.cell hv)
      have cxw : wr.cell? ⟨gn, k, none⟩ = some (.string ⟨x.toArray⟩) := (HL0.out.2.cell (p := ⟨gn, k, none⟩) HCN.out.2.2.1).trans (HCN.out.2.2.2 k x hx)
      have hdr : st.drop k = v :: st.drop (k + 1) := (List.drop_eq_getElem_cons (by have := HIB.out.2.1; omega)).trans (by rw [(List.getElem?_eq_some_iff.1 hv).2])
      have hdn : nodes.drop k = x :: nodes.drop (k + 1) := (List.drop_eq_getElem_cons (by have := HNL.out; omega)).trans (by rw [(List.getElem?_eq_some_iff.1 hx).2])
      have hW := HW.out
      rw [hdr, hdn, psF] at hW
      obtain ⟨cln, hcln⟩ : ∃ cln, ls.length = cln := ⟨_, rfl⟩
      have hlsb := HLB0.out.1
      clear hdr hdn hv hx HW
      by_cases hvl : v = (ls.length : Int)
      · rw [if_pos hvl] at hW
        have hve : (v == (ls.length : Int)) = true := by simp [hvl]
        have hpn : ls.length < (ls ++ [[]]).length := by simp
        subst hvl
        rw [Int.toNat_natCast] at hW
        have rO := HL0.out.1.out
        rw [← HL0.out.1.len] at rO
        obtain ⟨pn, hpe⟩ : ∃ pn, ls.length = pn := ⟨_, rfl⟩
        have HPE : Hid (ls.length = pn) := hpe
        rw [hpe] at hW hve rO hpn hlsb cv ⊢
        have cfw : wr.cell? ⟨fp, 0, none⟩ = some (.slice (some ⟨gn, 0, none⟩) n cn) := (HL0.out.2.cell (p := ⟨fp, 0, none⟩) HCN.out.2.1).trans HCN.out.1
        have hwb : b0 ≤ wr.heap.size := by have := HL0.out.2.size; have := HB0.out; omega
        have HKEEP : Hid (∀ (w3 : World) (o : Obj), (wr.alloc o).grownBy w3 (Value.slice Al pn cl).ownBlock → Below b0 wr w3) := fun w3 o hg => ((Below.refl _ wr).alloc hwb o).trans ⟨hg.os, hg.tape, hg.output, hg.size, fun q hq => hg.block q (by simp; omega) (fun e => by have := (row_ge rO e.symm).1; omega)⟩
        have HLNA : Hid (((ls ++ [[]]).set pn ((ls ++ [[]]).getD pn [] ++ [x])).length ≤ k + 1 ∧ ∀ l ∈ (ls ++ [[]]).set pn ((ls ++ [[]]).getD pn [] ++ [x]), l.length ≤ k + 1) := by
          have hg0 : (ls ++ [[]]).getD pn [] = [] := by rw [← HPE.out]; simp
          refine ⟨by simp; have := HLB0.out.1; omega, fun l hl => ?_⟩
          rcases List.mem_or_eq_of_mem_set hl with q | q
          · rcases List.mem_append.1 q with q2 | q2
            · have := HLB0.out.2 l q2; omega
            · simp at q2; rw [q2]; simp
          · rw [q, hg0]; simp
        have HWB : Hid (psF (nodes.drop (k + 1)) (st.drop (k + 1)) ((ls ++ [[]]).set pn ((ls ++ [[]]).getD pn [] ++ [x])) = some ls0) := hW
        have HLB : Hid ((ls ++ [[]]).length ≤ k + 1 ∧ ∀ l ∈ ls ++ [[]], l.length ≤ 100000) := ⟨by simp; have := HLB0.out.1; omega, fun l hl => by
          rcases List.mem_append.1 hl with q | q
          · have := HLB0.out.2 l q; omega
          · simp at q; rw [q]; simp⟩
        have hpb : pn ≤ 1001 := by omega
        clear hW hpe
        go_wp2_with (at_builtin; refine wpList_append_lies _ (by rfl) _ _ 27 (by rfl) b0 29 j0 (.slice none 0 0) 1 24 Try.underlying27 hj0 hx0 hx1 hx2 (by rfl) (by decide) _ _ _ (by rfl) (rO.alloc _) ⟨wr.heap.size, 0, none⟩ 1 1 [.slice none 0 0] (by rfl) (by rfl) (World.news_of_block (fr := (0, 0)) (t := 29) (cs := #[.slice none 0 0]) (heap_alloc_new _ _)) (fun u hu => by simp at hu; subst hu; rfl) (by decide) (by unfold maxLen; omega) (by omega) (by simp; omega) _ rfl ?_; intro g cap w3 hown3 hgrow3 hat3 hlt3)
        have B3 : Below b0 wr w3 := HKEEP.out w3 _ hgrow3
        have hLA := (HL0.out.1.below ((Below.refl _ wr).alloc (Nat.le_refl _) (.cells #[.slice none 0 0] 29))).push (u := .slice none 0 0) (l := []) (v' := .slice (some ⟨g, 0, none⟩) (pn + 1) cap) (World.ownsRow_nil _ _ _ _) (fun x hx gg q1 q2 => by cases q2) (by rw [HPE.out]; exact hgrow3) (by rw [← HL0.out.1.len, HPE.out]; exact hown3)
        obtain ⟨nl, hnl⟩ : ∃ nl, pn + 1 = nl := ⟨_, rfl⟩
        rw [hnl] at hLA ⊢
        have HL : Hid (LL w3 b0 29 9 1 nmE (.slice (some ⟨g, 0, none⟩) nl cap) (vals ++ [.slice none 0 0]) (ls ++ [[]]) ∧ Below b0 w2 w3) := ⟨hLA, HL0.out.2.trans B3⟩
        have hpi : (pn : Int) < (nl : Int) := by omega
        have cfz : w3.cell? ⟨fp, 0, none⟩ = some (.slice (some ⟨gn, 0, none⟩) n cn) := (B3.cell (p := ⟨fp, 0, none⟩) HCN.out.2.1).trans cfw
        have cxw3 : w3.cell? ⟨gn, k, none⟩ = some (.string ⟨x.toArray⟩) := (B3.cell (p := ⟨gn, k, none⟩) HCN.out.2.2.1).trans cxw
        clear hown3 hgrow3 hat3 hlt3 hLA B3 cfw cxw cv rO HKEEP HL0 hnl
        obtain ⟨u, hu, ru, cu, zu⟩ := ll_at HL.out.1 hpn
        obtain ⟨Au, cq, hue⟩ := row_slice ru
        subst hue
        obtain ⟨m, hm⟩ : ∃ m, ((ls ++ [[]]).getD pn []).length = m := ⟨_, rfl⟩
        have hmb : m ≤ 100000 := by rw [← hm]; exact HLB.out.2 _ (gd_mem hpn)
        rw [hm] at ru cu hu
        have HMU : Hid (((ls ++ [[]]).getD pn []).length = m) := hm
        have hgz : g < w3.heap.size := World.block_lt_of_cell? w3 _ cu
        have hfz : fp < w3.heap.size := World.block_lt_of_cell? w3 _ cfz
        have hbz : b0 ≤ w3.heap.size := by have := HL.out.2.size; have := HB0.out; omega
        have hlB : some g ≠ (Value.slice Au m cq).ownBlock := fun e => row_type HL.out.1.out ru (by decide) (g := g) rfl e.symm
        have hlf : some fp ≠ (Value.slice Au m cq).ownBlock := fun e => by have := (row_ge ru e.symm).1; have := HFPB.out; omega
        clear hm
        go_wp2_with fail
        go_region_law
          (first
            | (refine step_append_lies _ (by rfl) _ _ 29 (by rfl) b0 9 i0 (.string ByteArray.empty) 1 16 Try.underlying29 hi0 hy0 hy1 hy2 (by rfl) (by decide) _ _ _ (by rfl) (ru.alloc _) ⟨w3.heap.size, 0, none⟩ 1 1 [.string ⟨x.toArray⟩] (by rfl) (by rfl) (World.news_of_block (fr := (0, 0)) (t := 9) (cs := #[.string ⟨x.toArray⟩]) (heap_alloc_new _ _)) (fun u hu => by simp at hu; subst hu; rfl) (by decide) (by unfold maxLen; omega) (by omega) (by simp; omega) (w3.heap.size + 1) (by simp) ?_; intro g4 cp4 w4 hown4 hgrow4 hat4 hlt4; (have k4 : w4.cell? ⟨g, pn, none⟩ = some (.slice Au m cq) := hgrow4.cell ((World.cell?_alloc_lt w3 _ ⟨g, pn, none⟩ hgz).trans cu) hlB); (have j4 : w4.cell? ⟨fp, 0, none⟩ = some (.slice (some ⟨gn, 0, none⟩) n cn) := hgrow4.cell ((World.cell?_alloc_lt w3 _ ⟨fp, 0, none⟩ hfz).trans cfz) hlf); (have f4 : w4.frozen? ⟨g, pn, none⟩ = false := (hgrow4.frozen_far ⟨g, pn, none⟩ (by simp; omega) hlB).trans ((World.frozen?_alloc_old w3 _ ⟨g, pn, none⟩ (Nat.ne_of_lt hgz)).trans zu)))
            | (trace_state; fail))
        all_goals obtain ⟨vals', hLc, hbc⟩ := pt_end (x := x) HL.out.1 HL.out.2 hu HMU.out hbz hown4 hgrow4 hat4
        all_goals go_wp2_with fail
        all_goals go_roundw
        all_goals first | exact ⟨k + 1, vals', _, by omega, by go_num, ⟨hLc, hbc⟩, HWB.out, HLNA.out⟩ | (simp [intOf]; omega)
      · rw [if_neg hvl] at hW
        have hve : (v == (ls.length : Int)) = false := by simpa using hvl
        by_cases hpv : 0 ≤ v ∧ v.toNat < ls.length
        · rw [if_pos hpv] at hW
          obtain ⟨pn, hpe⟩ : ∃ pn : Nat, v = (pn : Int) := ⟨v.toNat, by omega⟩
          subst hpe
          have hpn : pn < ls.length := by have := hpv.2; simpa using this
          rw [Int.toNat_natCast] at hW
          obtain ⟨g, cap, hge⟩ := row_some HL0.out.1.out (by have := HL0.out.1.len; omega)
          rw [← HL0.out.1.len] at hge
          cases hge
          obtain ⟨nl, hnl⟩ : ∃ nl, ls.length = nl := ⟨_, rfl⟩
          obtain ⟨wz, hwz⟩ : ∃ wz, wr = wz := ⟨_, rfl⟩
          rw [hnl] at HL0 hve hpn ⊢
          subst hwz
          have HL : Hid (LL wr b0 29 9 1 nmE (.slice (some ⟨g, 0, none⟩) nl cl) vals ls ∧ Below b0 w2 wr) := HL0.out
          have hpi : (pn : Int) < (nl : Int) := by omega
          have hpn : pn < ls.length := by omega
          have cfz : wr.cell? ⟨fp, 0, none⟩ = some (.slice (some ⟨gn, 0, none⟩) n cn) := (HL0.out.2.cell (p := ⟨fp, 0, none⟩) HCN.out.2.1).trans HCN.out.1
          have HLB : Hid (ls.length ≤ k ∧ ∀ l ∈ ls, l.length ≤ 100000) := ⟨HLB0.out.1, fun l hl => by have := HLB0.out.2 l hl; omega⟩
          obtain ⟨u, hu, ru, cu, zu⟩ := ll_at HL.out.1 hpn
          obtain ⟨Au, cq, hue⟩ := row_slice ru
          subst hue
          obtain ⟨m, hm⟩ : ∃ m, (ls.getD pn []).length = m := ⟨_, rfl⟩
          have hmb : m ≤ 100000 := by rw [← hm]; exact HLB.out.2 _ (gd_mem hpn)
          rw [hm] at ru cu hu
          have HMU : Hid ((ls.getD pn []).length = m) := hm
          have hgz : g < wr.heap.size := World.block_lt_of_cell? wr _ cu
          have hfz : fp < wr.heap.size := World.block_lt_of_cell? wr _ cfz
          have hbz : b0 ≤ wr.heap.size := by have := HL.out.2.size; have := HB0.out; omega
          have hlB : some g ≠ (Value.slice Au m cq).ownBlock := fun e => row_type HL.out.1.out ru (by decide) (g := g) rfl e.symm
          have hlf : some fp ≠ (Value.slice Au m cq).ownBlock := fun e => by have := (row_ge ru e.symm).1; have := HFPB.out; omega
          clear hm
          have HWB : Hid (psF (nodes.drop (k + 1)) (st.drop (k + 1)) (ls.set pn (ls.getD pn [] ++ [x])) = some ls0) := hW
          have HLN : Hid ((ls.set pn (ls.getD pn [] ++ [x])).length ≤ k + 1 ∧ ∀ l ∈ ls.set pn (ls.getD pn [] ++ [x]), l.length ≤ k + 1) := ps_fit hpn HLB0.out.1 HLB0.out.2
          clear hW HL0 hpv hvl hnl
          go_wp2_with fail
          go_region_law
            (first
              | (refine step_append_lies _ (by rfl) _ _ 29 (by rfl) b0 9 i0 (.string ByteArray.empty) 1 16 Try.underlying29 hi0 hy0 hy1 hy2 (by rfl) (by decide) _ _ _ (by rfl) (ru.alloc _) ⟨wr.heap.size, 0, none⟩ 1 1 [.string ⟨x.toArray⟩] (by rfl) (by rfl) (World.news_of_block (fr := (0, 0)) (t := 9) (cs := #[.string ⟨x.toArray⟩]) (heap_alloc_new _ _)) (fun u hu => by simp at hu; subst hu; rfl) (by decide) (by unfold maxLen; omega) (by omega) (by simp; omega) (wr.heap.size + 1) (by simp) ?_; intro g4 cp4 w4 hown4 hgrow4 hat4 hlt4; (have k4 : w4.cell? ⟨g, pn, none⟩ = some (.slice Au m cq) := hgrow4.cell ((World.cell?_alloc_lt wr _ ⟨g, pn, none⟩ hgz).trans cu) hlB); (have j4 : w4.cell? ⟨fp, 0, none⟩ = some (.slice (some ⟨gn, 0, none⟩) n cn) := hgrow4.cell ((World.cell?_alloc_lt wr _ ⟨fp, 0, none⟩ hfz).trans cfz) hlf); (have f4 : w4.frozen? ⟨g, pn, none⟩ = false := (hgrow4.frozen_far ⟨g, pn, none⟩ (by simp; omega) hlB).trans ((World.frozen?_alloc_old wr _ ⟨g, pn, none⟩ (Nat.ne_of_lt hgz)).trans zu)))
              | (trace_state; fail))
          all_goals obtain ⟨vals', hLc, hbc⟩ := pt_end (x := x) HL.out.1 HL.out.2 hu HMU.out hbz hown4 hgrow4 hat4
          all_goals go_wp2_with fail
          all_goals go_roundw
          all_goals first | exact ⟨k + 1, vals', _, by omega, by go_num, ⟨hLc, hbc⟩, HWB.out, HLN.out⟩ | (simp [intOf]; omega)
        · rw [if_neg hpv] at hW; cases hW
    · have hkn : k = n := by omega
      subst hkn
      have hkk : ¬ ((k : Int) < (k : Int)) := by omega
      have hls : ls = ls0 := by
        have := HW.out
        rw [List.drop_eq_nil_of_le (by have := HNL.out; omega)] at this
        rw [psF] at this
        exact Option.some.inj this
      subst hls
      clear HW
      go_wp2_with fail
      go_ret
      refine ⟨_, rfl, ⟨vals, ?_⟩, HW2.out.1.trans (HL0.out.2.mono HW2.out.2)⟩
      have hLL := HL0.out.1
      exact ⟨hLL.ty, row_le hLL.out HW2.out.2, hLL.len, fun j u l h1 h2 => row_le (hLL.inn j u l h1 h2) HW2.out.2, hLL.apart⟩

end Go.Proofs.Ytcakfclfggnmbaa

namespace Go.Proofs.Ytcakfclfggnmbaa
open Go.Maps Go.RowKit
set_option linter.unusedVariables false
set_option maxRecDepth 100000

def spG (x : Elm) : Bool := (fou x.k || (x.c.data.toList.isEmpty && x.d.data.toList.isEmpty)) && (phs x.k || x.ph == 0)
def chkG (x : Elm) : Int := if ltr x.k = 0 then 2 else if naF x = false then 8 else if (x.a.data.toList == x.b.data.toList) = true ∨ spG x = false then 2 else if 2 < kdB x.v then 5 else if abv x.k = true ∧ posV x.v = false then 2 else 0
theorem chk_G (x : Elm) : chkI x = chkG x := by
  unfold chkI chkG spF spG
  simp only [ByteArray.toList_eq]
def ofG (N : Ns) (i : Nat) : List Elm → (Int × Int) × Ns
  | [] => if 32 < N.nd.length ∨ 64 < N.nd.length + N.br.length then ((3, -1), N) else ((0, 0), N)
  | x :: t => if chkG x ≠ 0 then ((chkG x, i), N) else if bl x.n ∈ N.nm then ((9, i), N) else ofG (N.lay x) (i + 1) t
theorem of_G (l : List Elm) : ∀ (N : Ns) (i : Nat), ofR N i l = ofG N i l := by
  induction l with
  | nil => intro N i; rfl
  | cons x t ih => intro N i; unfold ofR ofG; rw [chk_G, ih]
def exE (k : Nat) (n a b : ByteArray) : Elm := ⟨k, n, a, b, ⟨#[]⟩, ⟨#[]⟩, 4607182418800017408, 0⟩
/-- the elements of the examples -/
def exL : List Elm := [exE 5 ⟨#[86, 49]⟩ ⟨#[97]⟩ ⟨#[48]⟩, exE 1 ⟨#[82, 49]⟩ ⟨#[97]⟩ ⟨#[98]⟩, exE 3 ⟨#[67, 49]⟩ ⟨#[98]⟩ ⟨#[48]⟩, exE 1 ⟨#[82, 50]⟩ ⟨#[98]⟩ ⟨#[48]⟩, exE 4 ⟨#[73, 49]⟩ ⟨#[99]⟩ ⟨#[100]⟩, exE 1 ⟨#[82, 51]⟩ ⟨#[100]⟩ ⟨#[99]⟩, exE 1 ⟨#[82, 52]⟩ ⟨#[99]⟩ ⟨#[100]⟩]
def exV : Elm := exE 5 ⟨#[86, 50]⟩ ⟨#[97]⟩ ⟨#[48]⟩
def exM : List Elm := exL ++ [exV]
def netOf (l : List Elm) : Ns := (ofG Ns.nil 0 l).2
theorem of_ex : ofA exL = ((0, 0), netOf exL) := by
  unfold ofA
  rw [if_neg (by decide), of_G]
  kernel_rfl
theorem of_exM : ofA exM = ((0, 0), netOf exM) := by
  unfold ofA
  rw [if_neg (by decide), of_G]
  kernel_rfl
def exF : Fr := ⟨[[48], [97], [98], [99], [100]], [[([86, 49], 1)], [([86, 49], 0), ([82, 49], 2)], [([82, 49], 1)], [([82, 51], 4)], [([82, 51], 3)]], [[86, 49], [82, 49], [82, 51]], [[[67, 49], [86, 49], [82, 49]], [[82, 50], [86, 49], [82, 49]], [[82, 52], [82, 51]]]⟩
theorem gr_J : growF 100 wJ ([48] :: (netOf exL).nd) (netOf exL).es (Fr.new ([48] :: (netOf exL).nd)) = some exF := by kernel_rfl
def exB : Fr := ⟨[[48], [97], [98], [99], [100]], [[([86, 49], 1)], [([86, 49], 0)], [], [], []], [[86, 49]], []⟩
theorem gr_B : growF 100 wB ([48] :: (netOf exL).nd) (netOf exL).es (Fr.new ([48] :: (netOf exL).nd)) = some exB := by kernel_rfl
def exC : Fr := ⟨[[48], [97], [98], [99], [100]], [[([86, 49], 1)], [([86, 49], 0)], [], [], []], [[86, 49]], [[[86, 50], [86, 49]]]⟩
theorem gr_C : growF 100 wB ([48] :: (netOf exM).nd) (netOf exM).es (Fr.new ([48] :: (netOf exM).nd)) = some exC := by kernel_rfl
theorem pa_ex : paF 100 exF.tw ((netOf exL).nd.length + 1) 0 0 (List.replicate ((netOf exL).nd.length + 1) (-1)) = some [0, 0, 0, 1, 1] := by kernel_rfl
theorem ps_ex : psF ([48] :: (netOf exL).nd) [0, 0, 0, 1, 1] [] = some [[[48], [97], [98]], [[99], [100]]] := by kernel_rfl
theorem nd_ex : (netOf exL).nd = [[97], [98], [99], [100]] := by kernel_rfl
theorem ndM_ex : (netOf exM).nd = [[97], [98], [99], [100]] := by kernel_rfl
theorem nm_ex : (netOf exL).nm = [[86, 49], [82, 49], [67, 49], [82, 50], [73, 49], [82, 51], [82, 52]] := by kernel_rfl
theorem nmM_ex : (netOf exM).nm = [[86, 49], [82, 49], [67, 49], [82, 50], [73, 49], [82, 51], [82, 52], [86, 50]] := by kernel_rfl
theorem es_ex : (netOf exL).es = exL := by kernel_rfl
theorem esM_ex : (netOf exM).es = exM := by kernel_rfl
theorem elN_ex (x : Elm) (h : x ∈ exM) : ElN [[48], [97], [98], [99], [100]] x := by
  simp only [exM, exL, exV, List.mem_append, List.mem_cons, List.not_mem_nil, or_false] at h
  rcases h with (rfl | rfl | rfl | rfl | rfl | rfl | rfl) | rfl <;> exact ⟨by decide, by decide, by decide, by decide, by decide, by decide⟩
theorem ok_ex (x : Elm) (h : x ∈ exM) : x.ok := by
  simp only [exM, exL, exV, List.mem_append, List.mem_cons, List.not_mem_nil, or_false] at h
  rcases h with (rfl | rfl | rfl | rfl | rfl | rfl | rfl) | rfl <;> exact ⟨by decide, by decide, by decide, by decide, by decide, by decide, by decide⟩
theorem memL {x : Elm} (h : x ∈ exL) : x ∈ exM := List.mem_append_left _ h
theorem gn_J {w : World} {b0 p : Nat} {b : Nb} (h : Nt w b0 p (netOf exL) b) : Gn w p 100 (netOf exL) wJ exF :=
  ⟨⟨b0, b, h⟩, by rw [nm_ex]; decide, by rw [nd_ex]; decide, by rw [nd_ex]; decide, by rw [es_ex]; decide, by rw [es_ex, nd_ex]; exact fun x hx => elN_ex x (memL hx), by decide, gr_J, by rw [nd_ex]; decide⟩
theorem gn_B {w : World} {b0 p : Nat} {b : Nb} (h : Nt w b0 p (netOf exL) b) : Gn w p 100 (netOf exL) wB exB :=
  ⟨⟨b0, b, h⟩, by rw [nm_ex]; decide, by rw [nd_ex]; decide, by rw [nd_ex]; decide, by rw [es_ex]; decide, by rw [es_ex, nd_ex]; exact fun x hx => elN_ex x (memL hx), by decide, gr_B, by rw [nd_ex]; decide⟩
theorem gn_C {w : World} {b0 p : Nat} {b : Nb} (h : Nt w b0 p (netOf exM) b) : Gn w p 100 (netOf exM) wB exC :=
  ⟨⟨b0, b, h⟩, by rw [nmM_ex]; decide, by rw [ndM_ex]; decide, by rw [ndM_ex]; decide, by rw [esM_ex]; decide, by rw [esM_ex, ndM_ex]; exact fun x hx => elN_ex x hx, by decide, gr_C, by rw [ndM_ex]; decide⟩
theorem exelem_any (k : Nat) (n a b : ByteArray) (w : World) : Calls Try.prog 30 #[.int .u8 (k : Int), .string n, .string a, .string b] w fun e w' => e = .returned (.agg #[.int .u8 (k : Int), .string n, .string a, .string b, .string ⟨#[]⟩, .string ⟨#[]⟩, .float .f64 4607182418800017408, .int .i64 0]) ∧ Below w.heap.size w w' := by
  go_enter Try.func30, Try.ntmps30
  go_wp2_with fail
  refine bodyPost_ret (by simp [results, Try.results30, go_sem]; try rfl) rfl ?_
  exact ⟨rfl, (Below.refl _ w).alloc (Nat.le_refl _) _⟩
/-- elements that are written out -/
theorem rdE_lit (w : World) (l : List Elm) (hl : l.length ≤ 1000) : RdE (w.alloc (.cells (elCs l).toArray 56)) (.slice (some ⟨w.heap.size, 0, none⟩) l.length l.length) l := by
  refine ⟨by omega, _, _, rfl, .inr ⟨w.heap.size, rfl, fun k x hk => ?_⟩⟩
  have hb := heap_alloc_new w (.cells (elCs l).toArray 56)
  have hc : ∀ c v, c < 8 → (elC x)[c]? = some v → (w.alloc (.cells (elCs l).toArray 56)).cell? ⟨w.heap.size, k * 8 + c, none⟩ = some v := fun c v h1 h2 => by
    rw [cell_of_row _ w.heap.size _ _ _ (0, 0) hb, List.getElem?_toArray, elCs_get hk h1]; exact h2
  exact ⟨hc 0 _ (by omega) rfl, hc 1 _ (by omega) rfl, hc 2 _ (by omega) rfl, hc 3 _ (by omega) rfl, hc 4 _ (by omega) rfl, hc 5 _ (by omega) rfl, hc 6 _ (by omega) rfl, hc 7 _ (by omega) rfl⟩
theorem of_yes {w w' : World} {l : List Elm} {N : Ns} {e : Ending} (h : ofA l = ((0, 0), N)) (hp : OfP w l e w') : Below w.heap.size w w' ∧ ∃ p b0 b, e = .returned (.tuple #[.pointer (some ⟨p, 0, none⟩), .agg #[.int .i64 0, .int .i64 0]]) ∧ Nt w' b0 p N b := by
  obtain ⟨hb, ⟨_, b0, p, b, he, hN, _⟩ | ⟨hne, _⟩⟩ := hp
  · rw [h] at hN
    exact ⟨hb, p, b0, b, he, hN⟩
  · rw [h] at hne; exact absurd rfl hne
set_option maxHeartbeats 4000000 in
theorem example_any (w : World) : Calls Try.prog 46 #[] w fun e w' => ∃ p b0 b, e = .returned (.pointer (some ⟨p, 0, none⟩)) ∧ Nt w' b0 p (netOf exL) b ∧ Below w.heap.size w w' := by
  have he := exelem_any
  have HEn : Hid (∀ (k : Nat) (n a b : ByteArray) (w : World), Calls Try.prog 30 #[.int .u8 (k : Int), .string n, .string a, .string b] w fun e w' => e = .returned (.agg #[.int .u8 (k : Int), .string n, .string a, .string b, .string ⟨#[]⟩, .string ⟨#[]⟩, .float .f64 4607182418800017408, .int .i64 0]) ∧ Below w.heap.size w w') := he
  clear he
  go_enter Try.func46, Try.ntmps46
  go_wp2_with fail
  refine (HEn.out 5 _ _ _ _).mono ?_
  rintro e1 w1 ⟨rfl, b1⟩
  go_wp2_with fail
  refine (HEn.out 1 _ _ _ _).mono ?_
  rintro e2 w2 ⟨rfl, b2⟩
  go_wp2_with fail
  refine (HEn.out 3 _ _ _ _).mono ?_
  rintro e3 w3 ⟨rfl, b3⟩
  go_wp2_with fail
  refine (HEn.out 1 _ _ _ _).mono ?_
  rintro e4 w4 ⟨rfl, b4⟩
  go_wp2_with fail
  refine (HEn.out 4 _ _ _ _).mono ?_
  rintro e5 w5 ⟨rfl, b5⟩
  go_wp2_with fail
  refine (HEn.out 1 _ _ _ _).mono ?_
  rintro e6 w6 ⟨rfl, b6⟩
  go_wp2_with fail
  refine (HEn.out 1 _ _ _ _).mono ?_
  rintro e7 w7 ⟨rfl, b7⟩
  have B7 : Below w.heap.size w w7 := b1.trans ((b2.mono b1.size).trans ((b3.mono (Nat.le_trans b1.size b2.size)).trans ((b4.mono (Nat.le_trans b1.size (Nat.le_trans b2.size b3.size))).trans ((b5.mono (Nat.le_trans b1.size (Nat.le_trans b2.size (Nat.le_trans b3.size b4.size)))).trans ((b6.mono (Nat.le_trans b1.size (Nat.le_trans b2.size (Nat.le_trans b3.size (Nat.le_trans b4.size b5.size))))).trans (b7.mono (Nat.le_trans b1.size (Nat.le_trans b2.size (Nat.le_trans b3.size (Nat.le_trans b4.size (Nat.le_trans b5.size b6.size)))))))))))
  have hof := netOf_any _ _ exL (rdE_lit w7 exL (by decide)) (fun x hx => ok_ex x (memL hx))
  have HB7 : Hid _ := B7
  clear b1 b2 b3 b4 b5 b6 b7 HEn B7
  go_wp2_with fail
  refine hof.mono ?_
  rintro e8 w8 hp8
  obtain ⟨b8, p, b0, b, rfl, hN8⟩ := of_yes of_ex hp8
  have HN8 : Hid (Nt w8 b0 p (netOf exL) b ∧ Below w.heap.size w w8) := ⟨hN8, HB7.out.trans (((Below.refl _ w7).alloc (Nat.le_refl _) _).trans (b8.mono (by simp)) |>.mono HB7.out.size)⟩
  clear hof hp8 b8 hN8
  go_wp2_with fail
  go_ret
  exact ⟨p, b0, b, rfl, HN8.out.1.below ((Below.refl _ w8).alloc (Nat.le_refl _) _), HN8.out.2.alloc HN8.out.2.size _⟩

end Go.Proofs.Ytcakfclfggnmbaa

namespace Go.Proofs.Ytcakfclfggnmbaa
open Go.Maps Go.RowKit
set_option linter.unusedVariables false
set_option maxRecDepth 100000

theorem lit_row {w : World} {base q : Nat} {e : TypeId} {xs : List Value} (hb : w.heap[q]? = some (.cells xs.toArray e (0, 0))) (h : base ≤ q) (hl : xs.length ≤ 1000) : w.ownsRow base e 1 (.slice (some ⟨q, 0, none⟩) xs.length xs.length) xs.length xs :=
  ⟨by omega, .inr ⟨q, xs.length, xs.toArray, rfl, h, hb, Nat.le_refl _, by unfold maxLen; omega, by simp, by simp⟩⟩
/-- two lists of texts, three, as they are written out -/
theorem ll_lit2 (w : World) (l1 l2 : List Nm) (h1 : l1.length ≤ 1000) (h2 : l2.length ≤ 1000) : LL (((w.alloc (.cells (l1.map sv).toArray 9)).alloc (.cells (l2.map sv).toArray 9)).alloc (.cells #[.slice (some ⟨w.heap.size, 0, none⟩) l1.length l1.length, .slice (some ⟨w.heap.size + 1, 0, none⟩) l2.length l2.length] 29)) w.heap.size 29 9 1 nmE (.slice (some ⟨w.heap.size + 2, 0, none⟩) 2 2) [.slice (some ⟨w.heap.size, 0, none⟩) l1.length l1.length, .slice (some ⟨w.heap.size + 1, 0, none⟩) l2.length l2.length] [l1, l2] := by
  obtain ⟨q, hq⟩ : ∃ q, w.heap.size = q := ⟨_, rfl⟩
  rw [hq]
  obtain ⟨w1, e1⟩ : ∃ w1, w1 = w.alloc (.cells (l1.map sv).toArray 9) := ⟨_, rfl⟩
  rw [← e1]
  obtain ⟨w2, e2⟩ : ∃ w2, w2 = w1.alloc (.cells (l2.map sv).toArray 9) := ⟨_, rfl⟩
  rw [← e2]
  obtain ⟨w3, e3⟩ : ∃ w3, w3 = w2.alloc (.cells #[.slice (some ⟨q, 0, none⟩) l1.length l1.length, .slice (some ⟨q + 1, 0, none⟩) l2.length l2.length] 29) := ⟨_, rfl⟩
  rw [← e3]
  have s1 : w1.heap.size = q + 1 := by rw [e1, ← hq]; simp
  have s2 : w2.heap.size = q + 2 := by rw [e2]; simp [s1]
  have k1 : w1.heap[q]? = some (.cells (l1.map sv).toArray 9 (0, 0)) := by rw [e1, ← hq]; exact heap_alloc_new _ _
  have k2 : w2.heap[q + 1]? = some (.cells (l2.map sv).toArray 9 (0, 0)) := by rw [e2, ← s1]; exact heap_alloc_new _ _
  have k3 : w3.heap[q + 2]? = some (.cells #[.slice (some ⟨q, 0, none⟩) l1.length l1.length, .slice (some ⟨q + 1, 0, none⟩) l2.length l2.length] 29 (0, 0)) := by rw [e3, ← s2]; exact heap_alloc_new _ _
  have j1 : w3.heap[q]? = some (.cells (l1.map sv).toArray 9 (0, 0)) := by rw [e3, Below.heap_alloc _ _ _ (by omega), e2, Below.heap_alloc _ _ _ (by omega)]; exact k1
  have j2 : w3.heap[q + 1]? = some (.cells (l2.map sv).toArray 9 (0, 0)) := by rw [e3, Below.heap_alloc _ _ _ (by omega)]; exact k2
  have r1 := lit_row j1 (Nat.le_refl q) (by simpa using h1)
  have r2 := lit_row j2 (Nat.le_succ q) (by simpa using h2)
  have r3 := lit_row (xs := [.slice (some ⟨q, 0, none⟩) l1.length l1.length, .slice (some ⟨q + 1, 0, none⟩) l2.length l2.length]) k3 (show q ≤ q + 2 by omega) (by simp)
  rw [List.length_map] at r1 r2
  refine ⟨by decide, r3, rfl, fun j u l a b => ?_, fun i j u u' a b hij g x y => ?_⟩
  · match j, a, b with
    | 0, a, b => cases a; cases b; rw [nmE_map]; exact r1
    | 1, a, b => cases a; cases b; rw [nmE_map]; exact r2
    | j + 2, a, b => simp at a
  · match i, j, a, b with
    | 0, 0, a, b => exact absurd rfl hij
    | 0, 1, a, b => cases a; cases b; cases x; simp [Value.ownBlock] at y
    | 1, 0, a, b => cases a; cases b; cases x; simp [Value.ownBlock] at y
    | 1, 1, a, b => exact absurd rfl hij
    | i + 2, _, a, b => simp at a
    | 0, j + 2, a, b => simp at b
    | 1, j + 2, a, b => simp at b
theorem ll_lit3 (w : World) (l1 l2 l3 : List Nm) (h1 : l1.length ≤ 1000) (h2 : l2.length ≤ 1000) (h3 : l3.length ≤ 1000) : LL ((((w.alloc (.cells (l1.map sv).toArray 9)).alloc (.cells (l2.map sv).toArray 9)).alloc (.cells (l3.map sv).toArray 9)).alloc (.cells #[.slice (some ⟨w.heap.size, 0, none⟩) l1.length l1.length, .slice (some ⟨w.heap.size + 1, 0, none⟩) l2.length l2.length, .slice (some ⟨w.heap.size + 2, 0, none⟩) l3.length l3.length] 29)) w.heap.size 29 9 1 nmE (.slice (some ⟨w.heap.size + 3, 0, none⟩) 3 3) [.slice (some ⟨w.heap.size, 0, none⟩) l1.length l1.length, .slice (some ⟨w.heap.size + 1, 0, none⟩) l2.length l2.length, .slice (some ⟨w.heap.size + 2, 0, none⟩) l3.length l3.length] [l1, l2, l3] := by
  obtain ⟨q, hq⟩ : ∃ q, w.heap.size = q := ⟨_, rfl⟩
  rw [hq]
  obtain ⟨w1, e1⟩ : ∃ w1, w1 = w.alloc (.cells (l1.map sv).toArray 9) := ⟨_, rfl⟩
  rw [← e1]
  obtain ⟨w2, e2⟩ : ∃ w2, w2 = w1.alloc (.cells (l2.map sv).toArray 9) := ⟨_, rfl⟩
  rw [← e2]
  obtain ⟨w4, e4⟩ : ∃ w4, w4 = w2.alloc (.cells (l3.map sv).toArray 9) := ⟨_, rfl⟩
  rw [← e4]
  obtain ⟨w3, e3⟩ : ∃ w3, w3 = w4.alloc (.cells #[.slice (some ⟨q, 0, none⟩) l1.length l1.length, .slice (some ⟨q + 1, 0, none⟩) l2.length l2.length, .slice (some ⟨q + 2, 0, none⟩) l3.length l3.length] 29) := ⟨_, rfl⟩
  rw [← e3]
  have s1 : w1.heap.size = q + 1 := by rw [e1, ← hq]; simp
  have s2 : w2.heap.size = q + 2 := by rw [e2]; simp [s1]
  have s4 : w4.heap.size = q + 3 := by rw [e4]; simp [s2]
  have k1 : w1.heap[q]? = some (.cells (l1.map sv).toArray 9 (0, 0)) := by rw [e1, ← hq]; exact heap_alloc_new _ _
  have k2 : w2.heap[q + 1]? = some (.cells (l2.map sv).toArray 9 (0, 0)) := by rw [e2, ← s1]; exact heap_alloc_new _ _
  have k4 : w4.heap[q + 2]? = some (.cells (l3.map sv).toArray 9 (0, 0)) := by rw [e4, ← s2]; exact heap_alloc_new _ _
  have k3 : w3.heap[q + 3]? = some (.cells #[.slice (some ⟨q, 0, none⟩) l1.length l1.length, .slice (some ⟨q + 1, 0, none⟩) l2.length l2.length, .slice (some ⟨q + 2, 0, none⟩) l3.length l3.length] 29 (0, 0)) := by rw [e3, ← s4]; exact heap_alloc_new _ _
  have j1 : w3.heap[q]? = some (.cells (l1.map sv).toArray 9 (0, 0)) := by rw [e3, Below.heap_alloc _ _ _ (by omega), e4, Below.heap_alloc _ _ _ (by omega), e2, Below.heap_alloc _ _ _ (by omega)]; exact k1
  have j2 : w3.heap[q + 1]? = some (.cells (l2.map sv).toArray 9 (0, 0)) := by rw [e3, Below.heap_alloc _ _ _ (by omega), e4, Below.heap_alloc _ _ _ (by omega)]; exact k2
  have j3 : w3.heap[q + 2]? = some (.cells (l3.map sv).toArray 9 (0, 0)) := by rw [e3, Below.heap_alloc _ _ _ (by omega)]; exact k4
  have r1 := lit_row j1 (Nat.le_refl q) (by simpa using h1)
  have r2 := lit_row j2 (Nat.le_succ q) (by simpa using h2)
  have r4 := lit_row j3 (show q ≤ q + 2 by omega) (by simpa using h3)
  have r3 := lit_row (xs := [.slice (some ⟨q, 0, none⟩) l1.length l1.length, .slice (some ⟨q + 1, 0, none⟩) l2.length l2.length, .slice (some ⟨q + 2, 0, none⟩) l3.length l3.length]) k3 (show q ≤ q + 3 by omega) (by simp)
  rw [List.length_map] at r1 r2 r4
  refine ⟨by decide, r3, rfl, fun j u l a b => ?_, fun i j u u' a b hij g x y => ?_⟩
  · match j, a, b with
    | 0, a, b => cases a; cases b; rw [nmE_map]; exact r1
    | 1, a, b => cases a; cases b; rw [nmE_map]; exact r2
    | 2, a, b => cases a; cases b; rw [nmE_map]; exact r4
    | j + 3, a, b => simp at a
  · match i, j, a, b with
    | 0, 0, a, b => exact absurd rfl hij
    | 0, 1, a, b => cases a; cases b; cases x; simp [Value.ownBlock] at y
    | 0, 2, a, b => cases a; cases b; cases x; simp [Value.ownBlock] at y
    | 1, 0, a, b => cases a; cases b; cases x; simp [Value.ownBlock] at y
    | 1, 1, a, b => exact absurd rfl hij
    | 1, 2, a, b => cases a; cases b; cases x; simp [Value.ownBlock] at y
    | 2, 0, a, b => cases a; cases b; cases x; simp [Value.ownBlock] at y
    | 2, 1, a, b => cases a; cases b; cases x; simp [Value.ownBlock] at y
    | 2, 2, a, b => exact absurd rfl hij
    | i + 3, _, a, b => simp at a
    | 0, j + 3, a, b => simp at b
    | 1, j + 3, a, b => simp at b
    | 2, j + 3, a, b => simp at b
theorem lit_s (w : World) (l : List Nm) (h : l.length ≤ 1000) : (w.alloc (.cells (l.map sv).toArray 9)).ownsRow w.heap.size 9 1 (.slice (some ⟨w.heap.size, 0, none⟩) l.length l.length) l.length (l.map sv) := by
  have := lit_row (heap_alloc_new w (.cells (l.map sv).toArray 9)) (Nat.le_refl w.heap.size) (by simpa using h)
  rw [List.length_map] at this; exact this
theorem bl3 {w a b : World} (h : Below w.heap.size w a) (h2 : Below a.heap.size a b) : Below w.heap.size w b := h.trans (h2.mono h.size)
set_option maxHeartbeats 4000000 in
theorem awake16 (w : World) : Calls Try.prog 21 #[] w fun e w' => e = .returned (.bool true) ∧ Below w.heap.size w w' := by
  have hex := example_any w
  go_enter Try.func21, Try.ntmps21
  go_wp2_with fail
  refine hex.mono ?_
  rintro e1 w1 ⟨p, b0, b, rfl, hN1, hb1⟩
  have hP := gparts_any (gn_J hN1) pa_ex ps_ex
  have HN1 : Hid (Nt w1 b0 p (netOf exL) b ∧ Below w.heap.size w w1) := ⟨hN1, hb1⟩
  clear hex hN1 hb1
  go_wp2_with fail
  refine hP.mono ?_
  rintro e2 w2 ⟨v2, vals2, rfl, hL2, hb2⟩
  have hS := sameL_any _ w1.heap.size w2.heap.size v2 _ vals2 _ _ _ (hL2.below (((((Below.refl _ w2).alloc (Nat.le_refl _) _).alloc (by simp) _).alloc (by simp; omega) _))) (ll_lit2 w2 [[48], [97], [98]] [[99], [100]] (by decide) (by decide)) (by decide) (by decide) (by decide) (by decide)
  have HN2 : Hid (Nt w2 b0 p (netOf exL) b ∧ Below w.heap.size w w2) := ⟨HN1.out.1.below hb2, bl3 HN1.out.2 hb2⟩
  clear hP hL2 hb2 HN1
  go_wp2_with fail
  refine hS.mono ?_
  rintro e3 w3 ⟨rfl, hb3⟩
  have hN3 : Nt w3 b0 p (netOf exL) b ∧ Below w.heap.size w w3 := by
    have bx : Below w2.heap.size w2 w3 := bl3 (((((Below.refl _ w2).alloc (Nat.le_refl _) _).alloc (by simp) _).alloc (by simp; omega) _)) hb3
    exact ⟨HN2.out.1.below bx, bl3 HN2.out.2 bx⟩
  have hG := grounded_any (gn_J hN3.1) pa_ex
  rw [show grF 0 [0, 0, 0, 1, 1] = (11, 2) by decide] at hG
  have HN3 : Hid _ := hN3
  clear hS hb3 HN2 hN3
  go_wp2_with fail
  refine hG.mono ?_
  rintro e4 w4 ⟨rfl, hb4⟩
  have hN4 : Nt w4 b0 p (netOf exL) b ∧ Below w.heap.size w w4 := ⟨HN3.out.1.below hb4, bl3 HN3.out.2 hb4⟩
  have HN4 : Hid _ := hN4
  clear hG hb4 HN3 hN4
  go_wp2_with fail
  have hT := tree_any (gn_J HN4.out.1)
  refine hT.mono ?_
  rintro e5 w5 ⟨v5, rfl, hr5, hb5⟩
  have hN5 : Nt w5 b0 p (netOf exL) b ∧ Below w.heap.size w w5 := ⟨HN4.out.1.below hb5, bl3 HN4.out.2 hb5⟩
  have hS5 := sameS_any (w5.alloc (.cells (([[86, 49], [82, 49], [82, 51]] : List Nm).map sv).toArray 9)) w4.heap.size w5.heap.size v5 _ exF.tr [[86, 49], [82, 49], [82, 51]] (hr5.alloc _) (lit_s w5 [[86, 49], [82, 49], [82, 51]] (by decide)) (by decide) (by decide)
  rw [show decide (exF.tr = [[86, 49], [82, 49], [82, 51]]) = true by decide] at hS5
  have HN5 : Hid _ := hN5
  clear hT hr5 hb5 HN4 hN5
  go_wp2_with fail
  refine hS5.mono ?_
  rintro e6 w6 ⟨rfl, hb6⟩
  have hN6 : Nt w6 b0 p (netOf exL) b ∧ Below w.heap.size w w6 := by
    have bx : Below w5.heap.size w5 w6 := bl3 ((Below.refl _ w5).alloc (Nat.le_refl _) _) hb6
    exact ⟨HN5.out.1.below bx, bl3 HN5.out.2 bx⟩
  have hLo := loops_any (gn_J hN6.1)
  have HN6 : Hid _ := hN6
  clear hS5 hb6 HN5 hN6
  go_wp2_with fail
  refine hLo.mono ?_
  rintro e7 w7 ⟨v7, vals7, rfl, hL7, hb7⟩
  have hS7 := sameL_any _ w6.heap.size w7.heap.size v7 _ vals7 _ _ _ (hL7.below ((((((Below.refl _ w7).alloc (Nat.le_refl _) _).alloc (by simp) _).alloc (by simp; omega) _).alloc (by simp; omega) _))) (ll_lit3 w7 [[67, 49], [86, 49], [82, 49]] [[82, 50], [86, 49], [82, 49]] [[82, 52], [82, 51]] (by decide) (by decide) (by decide)) (by decide) (by decide) (by decide) (by decide)
  rw [show decide (exF.lp = [[[67, 49], [86, 49], [82, 49]], [[82, 50], [86, 49], [82, 49]], [[82, 52], [82, 51]]]) = true by decide] at hS7
  have HN7 : Hid (Nt w7 b0 p (netOf exL) b ∧ Below w.heap.size w w7) := ⟨HN6.out.1.below hb7, bl3 HN6.out.2 hb7⟩
  clear hLo hL7 hb7 HN6
  go_wp2_with fail
  refine hS7.mono ?_
  rintro e8 w8 ⟨rfl, hb8⟩
  have hN8 : Nt w8 b0 p (netOf exL) b ∧ Below w.heap.size w w8 := by
    have bx : Below w7.heap.size w7 w8 := bl3 ((((((Below.refl _ w7).alloc (Nat.le_refl _) _).alloc (by simp) _).alloc (by simp; omega) _).alloc (by simp; omega) _)) hb8
    exact ⟨HN7.out.1.below bx, bl3 HN7.out.2 bx⟩
  have hV := volt_any (gn_B hN8.1)
  rw [show decide (0 < exB.lp.length) = false by decide] at hV
  have HN8 : Hid _ := hN8
  clear hS7 hb8 HN7 hN8
  go_wp2_with fail
  refine hV.mono ?_
  rintro e9 w9 ⟨rfl, hb9⟩
  have HB9 : Hid (Below w.heap.size w w9) := bl3 HN8.out.2 hb9
  clear hV hb9 HN8
  go_wp2_with fail
  go_ret
  exact ⟨rfl, HB9.out⟩
theorem grow_none {P : Value} {w : World} (K : FuncId) (h : NoNet P w) : Calls Try.prog 32 #[P, .func (.func K) #[] #[]] w fun e w' => e = .returned (.tuple #[.pointer none, .bool false]) ∧ w' = w := by
  have hw := nwithout_none h ⟨#[]⟩
  go_enter Try.func32, Try.ntmps32
  go_wp2_with fail
  refine hw.mono ?_
  rintro e1 w1 ⟨rfl, hw1⟩
  have hw2 := hw1.symm
  clear hw1
  subst hw2
  clear hw
  go_wp2_with fail
  go_ret2
  exact ⟨rfl, rfl⟩
theorem gparts_none {P : Value} {w : World} (h : NoNet P w) : Calls Try.prog 8 #[P] w fun e w' => e = .returned (.slice none 0 0) ∧ w' = w := by
  have hg := grow_none 33 h
  go_enter Try.func8, Try.ntmps8
  go_wp2_with fail
  refine hg.mono ?_
  rintro e1 w1 ⟨rfl, rfl⟩
  go_wp2_with fail
  go_ret
  exact ⟨rfl, rfl⟩
theorem tree_none {P : Value} {w : World} (h : NoNet P w) : Calls Try.prog 9 #[P] w fun e w' => e = .returned (.slice none 0 0) ∧ w' = w := by
  have hg := grow_none 33 h
  go_enter Try.func9, Try.ntmps9
  go_wp2_with fail
  refine hg.mono ?_
  rintro e1 w1 ⟨rfl, rfl⟩
  go_wp2_with fail
  go_ret
  exact ⟨rfl, rfl⟩
theorem loops_none {P : Value} {w : World} (h : NoNet P w) : Calls Try.prog 10 #[P] w fun e w' => e = .returned (.slice none 0 0) ∧ w' = w := by
  have hg := grow_none 33 h
  go_enter Try.func10, Try.ntmps10
  go_wp2_with fail
  refine hg.mono ?_
  rintro e1 w1 ⟨rfl, rfl⟩
  go_wp2_with fail
  go_ret
  exact ⟨rfl, rfl⟩
theorem volt_none {P : Value} {w : World} (h : NoNet P w) : Calls Try.prog 18 #[P] w fun e w' => e = .returned (.bool false) ∧ w' = w := by
  have hg := grow_none 41 h
  go_enter Try.func18, Try.ntmps18
  go_wp2_with fail
  refine hg.mono ?_
  rintro e1 w1 ⟨rfl, rfl⟩
  go_wp2_with fail
  go_ret
  exact ⟨rfl, rfl⟩
theorem grounded_none {P : Value} {w : World} (h : NoNet P w) : Calls Try.prog 16 #[P] w fun e w' => e = .returned (.agg #[.int .i64 1, .int .i64 (-1)]) ∧ Below w.heap.size w w' := by
  have hg := grow_none 33 (h.al (.cells #[.int .i64 0, .int .i64 0] 37))
  go_enter Try.func16, Try.ntmps16
  go_wp2_with fail
  refine hg.mono ?_
  rintro e1 w1 ⟨rfl, hw1⟩
  subst hw1
  go_wp2_with fail
  (try simp only [Exit.inBlock, Exit.then])
  refine bodyPost_ret (by simp [results, Try.results16, go_sem]; try rfl) rfl ?_
  exact ⟨rfl, (Below.refl _ w).alloc (Nat.le_refl _) _⟩
end Go.Proofs.Ytcakfclfggnmbaa

namespace Go.Proofs.Ytcakfclfggnmbaa
open Go.Maps Go.RowKit
set_option linter.unusedVariables false
set_option maxRecDepth 100000

theorem rdE_row {w : World} {base : Nat} {v : Value} {l : List Elm} (h : w.ownsRow base 56 8 v l.length (elCs l)) (hl : l.length ≤ 1000) : RdE w v l := by
  refine ⟨by omega, ?_⟩
  have h0 := h
  obtain ⟨_, ⟨h1, h2⟩ | ⟨g, cap, cur, h1, _⟩⟩ := h
  · exact ⟨none, 0, by rw [h1, h2], .inl (List.length_eq_zero_iff.1 h2)⟩
  · rw [h1] at h0
    exact ⟨_, cap, h1, .inr ⟨g, rfl, fun k x hk => e8_row h0 hk (List.getElem?_eq_some_iff.1 hk).1⟩⟩
end Go.Proofs.Ytcakfclfggnmbaa

namespace Go.Proofs.Ytcakfclfggnmbaa
open Go.ChangeShapes Go.WideShapes Go.ChangeAt Go.RowKit Go.Joins Go.Deep Go.Maps
set_option linter.unusedVariables false
set_option maxRecDepth 100000

/-- the cells of an element as it is handed in -/
def inC (x : Elm) : List Value := [.int .u8 (x.k : Int), .string x.n, .string x.a, .string x.b, .string x.c, .string x.d, .int .u64 (x.v : Int), .int .i64 x.ph]
structure Elm.bd (x : Elm) : Prop where
  k : x.k < 256
  v : x.v < 18446744073709551616
set_option maxHeartbeats 1000000 in
theorem el_cells {H : Type} {enc : TypeId × Value → H} {w : World} {base : Nat} {sp : Nat → Bool} {held : Bool} {m : Nat} {cs : List Value} {y : DataW H × List MemPlace}
    (hf : DataW.trod enc Try.prog w base sp held m 97 cs = some y) : ∃ x : Elm, cs = inC x ∧ y.1 = inD x ∧ x.bd := by
  obtain ⟨fs, hs, hsz8, hone, hty⟩ := fields8
  obtain ⟨xs, n, -, hx, hcl, hlen, hall⟩ := DataW.trod_struct hs hf
  obtain ⟨c0, c1, c2, c3, c4, c5, c6, c7, rfl⟩ := list8 (hcl.trans cells8)
  obtain ⟨y0, y1, y2, y3, y4, y5, y6, y7, rfl⟩ := list8 (hlen.trans hsz8)
  have key : ∀ (i : Nat) (t : TypeId) (c : Value) (y : DataW H × List MemPlace), (fs.toList.map (·.type))[i]? = some t → [c0, c1, c2, c3, c4, c5, c6, c7][i]? = some c → [y0, y1, y2, y3, y4, y5, y6, y7][i]? = some y → DataW.trod enc Try.prog w base sp held n t [c] = some y := by
    intro i t c y ht hc hy
    rw [List.getElem?_map, Option.map_eq_some_iff] at ht
    obtain ⟨f, hf1, rfl⟩ := ht
    have hf2 : fs[i]? = some f := by rw [← Array.getElem?_toList]; exact hf1
    obtain ⟨o, k⟩ := hone_of hone i f hf2
    have h1 := hall i f hf2
    rw [o, k, hy] at h1
    rw [← h1]
    congr 1
    have hd : ([c0, c1, c2, c3, c4, c5, c6, c7].drop i).take 1 = [c] := by
      rw [List.take_one, List.head?_drop, hc]; rfl
    simpa using hd.symm
  rw [hty] at key
  have h0 := key 0 _ _ _ rfl rfl rfl
  have h1 := key 1 _ _ _ rfl rfl rfl
  have h2 := key 2 _ _ _ rfl rfl rfl
  have h3 := key 3 _ _ _ rfl rfl rfl
  have h4 := key 4 _ _ _ rfl rfl rfl
  have h5 := key 5 _ _ _ rfl rfl rfl
  have h6 := key 6 _ _ _ rfl rfl rfl
  have h7 := key 7 _ _ _ rfl rfl rfl
  clear key hall
  obtain ⟨z0, e0, q0, w0⟩ := DataW.trod_int Try.underlying5 h0
  obtain ⟨s1, e1, q1, w1⟩ := DataW.trod_string Try.underlying9 h1
  obtain ⟨s2, e2, q2, w2⟩ := DataW.trod_string Try.underlying9 h2
  obtain ⟨s3, e3, q3, w3⟩ := DataW.trod_string Try.underlying9 h3
  obtain ⟨s4, e4, q4, w4⟩ := DataW.trod_string Try.underlying9 h4
  obtain ⟨s5, e5, q5, w5⟩ := DataW.trod_string Try.underlying9 h5
  obtain ⟨z6, e6, q6, w6⟩ := DataW.trod_int Try.underlying95 h6
  obtain ⟨z7, e7, q7, w7⟩ := DataW.trod_int Try.underlying3 h7
  simp only [List.cons.injEq, and_true] at e0 e1 e2 e3 e4 e5 e6 e7
  subst e0 e1 e2 e3 e4 e5 e6 e7
  obtain ⟨l0, u0⟩ := bounds_u8 w0
  obtain ⟨l6, u6⟩ := bounds_u64 w6
  obtain ⟨k, rfl⟩ := Int.eq_ofNat_of_zero_le l0
  obtain ⟨v, rfl⟩ := Int.eq_ofNat_of_zero_le l6
  refine ⟨⟨k, s1, s2, s3, s4, s5, v, z7⟩, rfl, ?_, ⟨by show k < _; omega, by show v < _; omega⟩⟩
  rw [hx]
  show DataW.agg _ = _
  simp only [List.map_cons, List.map_nil]
  rw [q0, q1, q2, q3, q4, q5, q6, q7]
  rfl
instance : Inhabited Elm := ⟨⟨0, ⟨#[]⟩, ⟨#[]⟩, ⟨#[]⟩, ⟨#[]⟩, ⟨#[]⟩, 0, 0⟩⟩
/-- the list at A reads as the elements xs, as they are handed in -/
def Re (w : World) (A : Option Addr) (xs : List Elm) : Prop := ∀ (k : Nat) (x : Elm), xs[k]? = some x → ∃ b off, A = some ⟨b, off, none⟩ ∧ b < w.heap.size ∧ ∀ (i : Nat) (v : Value), (inC x)[i]? = some v → w.cell? ⟨b, off + k * 8 + i, none⟩ = some v
theorem els_open {H : Type} {enc : TypeId × Value → H} {w : World} {base fuel : Nat} {spare : Nat → Bool} {held : Bool} {cs : List Value} {x : DataW H × List MemPlace} (h : DataW.trod enc Try.prog w base spare held fuel 22 cs = some x) :
    ∃ (A : Option Addr) (n c : Nat) (xs : List Elm), cs = [.slice A n c] ∧ xs.length = n ∧ (∀ x ∈ xs, x.bd) ∧ Re w A xs ∧ (n = 0 ∨ ∃ sp, x.1 = .slice (xs.map inD) sp) := by
  rcases open_slice Try.underlying22 h with ⟨hc, _⟩ | ⟨a, len, cap, m, n, D, Pl, hc, _, hl, hm, hmm, hx, hall⟩
  · exact ⟨none, 0, 0, [], hc, rfl, fun x hx => by simp at hx, fun k x hk => by simp at hk, .inl rfl⟩
  · have hlm : len ≤ m := by rw [hmm]; split <;> omega
    rw [cells8] at hall
    have each : ∀ i, i < len → ∃ x : Elm, w.cells? base (a.add (i * 8)) 8 = some (inC x) ∧ D i = inD x ∧ x.bd := by
      intro i hi
      obtain ⟨cs', h1, h2⟩ := hall i (by omega)
      obtain ⟨x, rfl, hd, hb⟩ := el_cells h2
      exact ⟨x, h1, hd, hb⟩
    obtain ⟨F, hF⟩ := choose_lt each
    have hg : ∀ k x, ((List.range len).map F)[k]? = some x → k < len ∧ x = F k := fun k x hk => by
      rw [List.getElem?_map, Option.map_eq_some_iff] at hk
      obtain ⟨j, hj, rfl⟩ := hk
      have h1 := (List.getElem?_eq_some_iff.1 hj)
      have h2 : k < len := by have := h1.1; simpa using this
      have h3 : k = j := by have := h1.2; simpa using this
      exact ⟨h2, by rw [h3]⟩
    refine ⟨some a, len, cap, (List.range len).map F, hc, by simp, fun x hx => ?_, fun k x hk => ?_, .inr ⟨(List.range (m - len)).map fun j => D (len + j), by rw [hx, List.map_map, List.map_congr_left (fun i hi => (hF i (List.mem_range.1 hi)).2.1)]; rfl⟩⟩
    · obtain ⟨k, hk⟩ := List.mem_iff_getElem?.1 hx
      obtain ⟨h1, rfl⟩ := hg k x hk
      exact (hF k h1).2.2
    · obtain ⟨h1, rfl⟩ := hg k x hk
      have hcs := (hF k h1).1
      obtain ⟨_, _, hcell⟩ := World.cells?_some hcs
      obtain ⟨b, off, spot⟩ := a
      obtain ⟨_, _, hcell0⟩ := World.cells?_some (hF 0 (by omega)).1
      have hc0 := hcell0 0 (by omega)
      have hspot : spot = none := by
        have := World.cell?_spot (hc0.trans rfl)
        simpa [Addr.add] using this
      subst hspot
      have hcl : ∀ (i : Nat) (v : Value), (inC (F k))[i]? = some v → w.cell? ⟨b, off + k * 8 + i, none⟩ = some v := fun i v hi => by
        have hi8 : i < 8 := by have := (List.getElem?_eq_some_iff.1 hi).1; simpa [inC] using this
        have h2 := hcell i hi8
        rw [Go.WideShapes.add_plain, Go.WideShapes.add_plain] at h2
        rw [h2]; exact hi
      exact ⟨b, off, rfl, World.block_lt_of_cell? w _ (hcl 0 _ rfl), hcl⟩

theorem wts_all {H : Type} {P : Program} {e : TypeId} : ∀ {ds : List (DataW H)} {d : DataW H}, d ∈ ds → ∀ n ∈ d.weights P e, n ∈ DataW.weightsAll P e ds
  | d0 :: ds, d, hd, n, hn => by
    simp only [DataW.weightsAll, List.mem_append]
    rcases List.mem_cons.1 hd with rfl | h
    · exact .inl hn
    · exact .inr (wts_all h n hn)
theorem els_str {H : Type} {ts : List TypeId} {ds : List (DataW H)} (h : (DataW.weightsEach Try.prog ts ds).all (· ≤ reachBytes) = true) {j k : Nat} {xs : List Elm} {sp : List (DataW H)} (ht : ts[j]? = some 22) (hd : ds[j]? = some (.slice (xs.map inD) sp)) {x : Elm} (hx : x ∈ xs) {tf : TypeId} {s : ByteArray} {parts : List (DataW H)} (hp : (inD x : DataW H) = .agg parts)
    {fs : Array Field} (hs : Try.prog.underlying 97 = some (.struct fs)) (hf : (fs.toList.map (·.type))[k]? = some tf) (hk : parts[k]? = some (.lit (.string s.data.toList))) : s.size ≤ 140737488351232 := by
  have := List.all_eq_true.1 h _ (DataW.weights_mem_each ht hd s.data.toList.length (by
    simp only [DataW.weights, Try.underlying22]
    refine List.mem_cons_of_mem _ (List.mem_append_left _ (wts_all (List.mem_map.2 ⟨x, hx, rfl⟩) _ ?_))
    rw [hp]
    simp only [DataW.weights, hs]
    exact DataW.weights_mem_each hf hk _ (by simp [DataW.weights])))
  have h2 : s.data.toList.length ≤ reachBytes := by simpa using this
  have h3 : s.data.toList.length = s.size := by simp
  simp only [reachBytes] at h2
  omega
theorem els_sizes {H : Type} {ts : List TypeId} {ds : List (DataW H)} (h : (DataW.weightsEach Try.prog ts ds).all (· ≤ reachBytes) = true) {j : Nat} {xs : List Elm} {sp : List (DataW H)} (ht : ts[j]? = some 22) (hd : ds[j]? = some (.slice (xs.map inD) sp)) (hb : ∀ x ∈ xs, x.bd) : ∀ x ∈ xs, x.ok := by
  intro x hx
  obtain ⟨fs, hs, hsz8, hone, hty⟩ := fields8
  exact ⟨(hb x hx).k, els_str h (k := 1) ht hd hx rfl hs (by rw [hty]; rfl) rfl, els_str h (k := 2) ht hd hx rfl hs (by rw [hty]; rfl) rfl, els_str h (k := 3) ht hd hx rfl hs (by rw [hty]; rfl) rfl, els_str h (k := 4) ht hd hx rfl hs (by rw [hty]; rfl) rfl, els_str h (k := 5) ht hd hx rfl hs (by rw [hty]; rfl) rfl, (hb x hx).v⟩
theorem elm_w (x : Elm) (w : World) : Calls Try.prog 52 #[.agg #[.int .u8 (x.k : Int), .string x.n, .string x.a, .string x.b, .string x.c, .string x.d, .int .u64 (x.v : Int), .int .i64 x.ph]] w fun e w' => e = .returned (.agg #[.int .u8 (x.k : Int), .string x.n, .string x.a, .string x.b, .string x.c, .string x.d, .float .f64 x.v, .int .i64 x.ph]) ∧ Below w.heap.size w w' := element_any x w
set_option maxHeartbeats 4000000 in
theorem elementsOf_any (w : World) (A : Option Addr) (c n : Nat) (xs : List Elm) (hl : xs.length = n) (hsz : n * 104 ≤ 140737488351232) (hR : Re w A xs) : Calls Try.prog 23 #[.slice A n c] w fun e w' => ∃ v, e = .returned v ∧ w'.ownsRow w.heap.size 56 8 v n (elCs xs) ∧ Below w.heap.size w w' := by
  obtain ⟨L, hL⟩ : ∃ L, w.heap.size = L := ⟨_, rfl⟩
  obtain ⟨i0, hi0, hz0, hz1, hz2⟩ := info_parts Try.infoE
  have HR : Hid (Re w A xs) := hR
  have HL : Hid (xs.length = n) := hl
  clear hR hl
  go_enter Try.func23, Try.ntmps23
  go_wp2_with fail
  go_loopw [4, 3] (fun iv ov wr => ∃ (k : Nat), k ≤ n ∧ iv = .int .i64 k ∧ Hid (wr.ownsRow L 56 8 ov k (elCs (xs.take k)) ∧ Below L w wr)) (fun iv _ _ => n - (intOf iv).toNat)
  case atStart => exact ⟨0, Nat.zero_le _, rfl, World.ownsRow_nil _ _ _ _, Below.refl _ _⟩
  case round =>
    obtain ⟨k, hle, rfl, HI⟩ := hrel
    obtain ⟨Ao, co, hov⟩ := row_slice HI.out.1
    subst hov
    by_cases hp4 : k < n
    · have hpk : (k : Int) < (n : Int) := by omega
      obtain ⟨x, hx⟩ : ∃ x, xs[k]? = some x := ⟨_, List.getElem?_eq_getElem (by have := HL.out; omega)⟩
      obtain ⟨b, off, hA, hb, hc⟩ := HR.out k x hx
      subst hA
      have hcw : ∀ (i : Nat) (v : Value), (inC x)[i]? = some v → wr.cell? ⟨b, off + k * 8 + i, none⟩ = some v := fun i v hi => (HI.out.2.cell (p := ⟨b, off + k * 8 + i, none⟩) (by simp only; omega)).trans (hc i v hi)
      have c0 := hcw 0 _ rfl
      have c1 := hcw 1 _ rfl
      have c2 := hcw 2 _ rfl
      have c3 := hcw 3 _ rfl
      have c4 := hcw 4 _ rfl
      have c5 := hcw 5 _ rfl
      have c6 := hcw 6 _ rfl
      have c7 := hcw 7 _ rfl
      rw [Nat.add_zero] at c0
      have hcall := elm_w x wr
      have HT : Hid (elCs (xs.take (k + 1)) = elCs (xs.take k) ++ elC x) := by
        show elCs (xs.take (k + 1)) = _
        rw [List.take_add_one, hx]
        exact elCs_snoc _ _
      clear hc hcw hx
      go_wp2_with fail
      refine hcall.mono ?_
      rintro e1 w1 ⟨rfl, b1⟩
      have r1 : w1.ownsRow L 56 8 (.slice Ao k co) k (elCs (xs.take k)) := row_block HI.out.1 fun g hg => b1.block g (row_ge HI.out.1 hg).2
      have hLw : L ≤ wr.heap.size := by have := HI.out.2.size; omega
      have hL1 : L ≤ w1.heap.size := Nat.le_trans hLw b1.size
      have HB1 : Hid (Below L w w1) := HI.out.2.trans (b1.mono hLw)
      clear hcall b1 HI c0 c1 c2 c3 c4 c5 c6 c7
      go_wp2_with (at_builtin; refine wpList_append_lies _ (by rfl) _ _ 47 (by rfl) L 56 i0 _ 8 104 Try.underlying47 hi0 hz0 hz1 hz2 (by rfl) (by decide) _ _ _ (by rfl) (r1.alloc _) ⟨w1.heap.size, 0, none⟩ 1 1 (elC x) (by rfl) (by rfl) (World.news_of_block (fr := (0, 0)) (t := 56) (cs := (elC x).toArray) (heap_alloc_new _ _)) (fun u hu => by simp [elC] at hu; rcases hu with rfl | rfl | rfl | rfl | rfl | rfl | rfl | rfl <;> rfl) (by decide) (by unfold maxLen; omega) (by omega) (by simp; omega) _ rfl ?_; intro g4 cp4 w4 hown4 hgrow4 hat4 hlt4)
      go_roundw
      case rel => exact ⟨k + 1, by omega, by go_num, by rw [HT.out]; exact hown4, (HB1.out.alloc hL1 _).trans ⟨hgrow4.os, hgrow4.tape, hgrow4.output, hgrow4.size, fun j hj => hgrow4.block j (by simp; omega) (fun e => by have := (row_ge r1 e.symm).1; omega)⟩⟩
      case measure => simp [intOf]; omega
    · have hkn : k = n := by omega
      subst hkn
      have hkk : ¬ ((k : Int) < (k : Int)) := by omega
      go_wp2_with fail
      go_ret
      refine ⟨_, rfl, ?_, ?_⟩
      · have := HI.out.1
        rw [← HL.out, List.take_length] at this
        rw [← HL.out]
        exact this
      · exact HI.out.2

end Go.Proofs.Ytcakfclfggnmbaa

namespace Go.Proofs.Ytcakfclfggnmbaa
set_option linter.unusedVariables false

/-- how many nodes bear the mark c -/
def cnt (lab : Nat → Nat) (n c : Nat) : Nat := (List.range n).countP (fun y => decide (lab y = c))
/-- distances from the root r, in its part (in other parts from some root) -/
structure Rtd (tw : List (List Tw)) (lab : Nat → Nat) (n r : Nat) (d : Nat → Nat) : Prop where
  r0 : d r = 0
  ed : ∀ x m y, (m, y) ∈ tw.getD x [] → d y = d x + 1 ∨ d x = d y + 1
  un : ∀ x m y k z, (m, y) ∈ tw.getD x [] → (k, z) ∈ tw.getD x [] → d y < d x → d z < d x → y = z
  up : ∀ x, x < n → x ≠ r → lab x = lab r → ∃ m y, (m, y) ∈ tw.getD x [] ∧ d y < d x
  bd : ∀ x, x < n → d x < cnt lab n (lab x)
/-- twigs that make a forest; lab: a mark of each part -/
structure Fst (tw : List (List Tw)) (lab : Nat → Nat) (n : Nat) : Prop where
  len : tw.length = n
  sym : ∀ x m y, (m, y) ∈ tw.getD x [] → (m, x) ∈ tw.getD y []
  lt : ∀ x m y, (m, y) ∈ tw.getD x [] → y < n
  lb : ∀ x m y, (m, y) ∈ tw.getD x [] → lab y = lab x
  rt : ∀ r, r < n → ∃ d, Rtd tw lab n r d
theorem getD_lt {tw : List (List Tw)} {x : Nat} {t : Tw} (h : t ∈ tw.getD x []) : x < tw.length := by
  rcases Nat.lt_or_ge x tw.length with q | q
  · exact q
  · rw [List.getD_eq_getElem?_getD, List.getElem?_eq_none q] at h; cases h
theorem cnt_pos {lab : Nat → Nat} {n x : Nat} (h : x < n) : 0 < cnt lab n (lab x) := List.countP_pos_iff.2 ⟨x, List.mem_range.2 h, by simp⟩
theorem rep_nil {n x : Nat} {t : Tw} (h : t ∈ (List.replicate n ([] : List Tw)).getD x []) : False := by
  rw [List.getD_eq_getElem?_getD, List.getElem?_replicate] at h
  split at h <;> simp at h
theorem Fst.new (n : Nat) : Fst (List.replicate n []) id n := by
  refine ⟨by simp, fun x m y h => (rep_nil h).elim, fun x m y h => (rep_nil h).elim, fun x m y h => (rep_nil h).elim, fun r hr => ⟨fun _ => 0, rfl, fun x m y h => (rep_nil h).elim, fun x m y k z h => (rep_nil h).elim, fun x hx hne he => absurd he hne, fun x hx => cnt_pos hx⟩⟩
theorem mem_push {tw : List (List Tw)} {a b : Nat} {nm : Nm} (ha : a < tw.length) (hb : b < tw.length) (hab : a ≠ b) (x : Nat) (t : Tw) : t ∈ (pushT (pushT tw a (nm, b)) b (nm, a)).getD x [] ↔ t ∈ tw.getD x [] ∨ (x = a ∧ t = (nm, b)) ∨ (x = b ∧ t = (nm, a)) := by
  unfold pushT
  simp only [List.getD_eq_getElem?_getD, List.getElem?_set]
  by_cases h1 : b = x
  · subst h1
    have h2 : ¬ a = b := hab
    simp [hb, h2, Ne.symm h2]
  · by_cases h2 : a = x
    · subst h2
      simp [h1, ha, Ne.symm h1]
    · simp [h1, h2, Ne.symm h1, Ne.symm h2]
/-- p's part and q's are joined: distances from r, which is not in q's part -/
theorem step_rt {tw tw' : List (List Tw)} {lab lab' : Nat → Nat} {n p q r : Nat} {nm : Nm} (h : Fst tw lab n) (hp : p < n) (hq : q < n) (hpq : lab p ≠ lab q)
    (hm : ∀ x t, t ∈ tw'.getD x [] ↔ t ∈ tw.getD x [] ∨ (x = p ∧ t = (nm, q)) ∨ (x = q ∧ t = (nm, p)))
    (hl : ∀ x y, lab' x = lab' y ↔ lab x = lab y ∨ (lab x = lab p ∨ lab x = lab q) ∧ (lab y = lab p ∨ lab y = lab q))
    (hc1 : ∀ x, x < n → lab x = lab p ∨ lab x = lab q → cnt lab n (lab p) + cnt lab n (lab q) ≤ cnt lab' n (lab' x)) (hc2 : ∀ x, x < n → cnt lab n (lab x) ≤ cnt lab' n (lab' x))
    (hr : r < n) (hrq : lab r ≠ lab q) : ∃ d, Rtd tw' lab' n r d := by
  obtain ⟨d, hd⟩ := h.rt r hr
  obtain ⟨e, he⟩ := h.rt q hq
  refine ⟨fun x => if lab x = lab q then d p + 1 + e x else d x, ?_, ?_, ?_, ?_, ?_⟩
  · simp only [if_neg hrq]; exact hd.r0
  · intro x m y hx
    rcases (hm x _).1 hx with hx | ⟨rfl, ht⟩ | ⟨rfl, ht⟩
    · have hlb := h.lb x m y hx
      simp only [hlb]
      by_cases hxq : lab x = lab q
      · simp only [if_pos hxq]
        have := he.ed x m y hx
        omega
      · simp only [if_neg hxq]
        exact hd.ed x m y hx
    · cases ht
      simp only [if_neg hpq, if_pos, he.r0]
      exact .inl trivial
    · cases ht
      simp only [if_neg hpq, if_pos, he.r0]
      exact .inr trivial
  · intro x m y k z hy hz
    have key : ∀ m y, (m, y) ∈ tw'.getD x [] → (if lab y = lab q then d p + 1 + e y else d y) < (if lab x = lab q then d p + 1 + e x else d x) → (x = q ∧ y = p) ∨ (x ≠ q ∧ (m, y) ∈ tw.getD x []) := by
      intro m y hy hlt
      rcases (hm x _).1 hy with hy | ⟨rfl, ht⟩ | ⟨rfl, ht⟩
      · by_cases hxq : x = q
        · subst hxq
          have hlb := h.lb x m y hy
          simp only [hlb, if_pos] at hlt
          have := he.ed x m y hy
          have h0 := he.r0
          omega
        · exact .inr ⟨hxq, hy⟩
      · cases ht
        simp only [if_neg hpq, if_pos, he.r0] at hlt
        omega
      · cases ht
        exact .inl ⟨rfl, rfl⟩
    intro h1 h2
    rcases key m y hy h1 with ⟨a1, a2⟩ | ⟨a1, a2⟩
    · rcases key k z hz h2 with ⟨b1, b2⟩ | ⟨b1, b2⟩
      · rw [a2, b2]
      · exact absurd a1 b1
    · rcases key k z hz h2 with ⟨b1, b2⟩ | ⟨b1, b2⟩
      · exact absurd b1 a1
      · have l1 := h.lb x m y a2
        have l2 := h.lb x k z b2
        simp only [l1] at h1
        simp only [l2] at h2
        by_cases hxq : lab x = lab q
        · simp only [if_pos hxq] at h1 h2
          exact he.un x m y k z a2 b2 (by omega) (by omega)
        · simp only [if_neg hxq] at h1 h2
          exact hd.un x m y k z a2 b2 h1 h2
  · intro x hx hxr hlx
    by_cases hxq : lab x = lab q
    · by_cases hxe : x = q
      · subst hxe
        exact ⟨nm, p, (hm x _).2 (.inr (.inr ⟨rfl, rfl⟩)), by simp only [if_neg hpq, if_pos, he.r0]; omega⟩
      · obtain ⟨m, y, h1, h2⟩ := he.up x hx hxe hxq
        have l1 := h.lb x m y h1
        exact ⟨m, y, (hm x _).2 (.inl h1), by simp only [l1, if_pos hxq]; omega⟩
    · have hxr2 : lab x = lab r ∨ (lab x = lab p ∧ lab r = lab p) := by
        rcases (hl x r).1 hlx with q1 | ⟨q1, q2⟩
        · exact .inl q1
        · rcases q1 with q1 | q1
          · rcases q2 with q2 | q2
            · exact .inl (q1.trans q2.symm)
            · exact absurd q2 hrq
          · exact absurd q1 hxq
      have hlr : lab x = lab r := hxr2.elim id (fun q => q.1.trans q.2.symm)
      obtain ⟨m, y, h1, h2⟩ := hd.up x hx hxr hlr
      have l1 := h.lb x m y h1
      exact ⟨m, y, (hm x _).2 (.inl h1), by simp only [l1, if_neg hxq]; exact h2⟩
  · intro x hx
    by_cases hxq : lab x = lab q
    · simp only [if_pos hxq]
      have h1 := hd.bd p hp
      have h2 := he.bd x hx
      have h3 := hc1 x hx (.inr hxq)
      rw [hxq] at h2
      omega
    · simp only [if_neg hxq]
      exact Nat.lt_of_lt_of_le (hd.bd x hx) (hc2 x hx)
/-- the marks behind a twig between a and b -/
def labJ (lab : Nat → Nat) (a b : Nat) (x : Nat) : Nat := if lab x = lab a then lab b else lab x
theorem labJ_iff {lab : Nat → Nat} {a b : Nat} (x y : Nat) : labJ lab a b x = labJ lab a b y ↔ lab x = lab y ∨ (lab x = lab a ∨ lab x = lab b) ∧ (lab y = lab a ∨ lab y = lab b) := by
  unfold labJ
  by_cases h1 : lab x = lab a
  · by_cases h2 : lab y = lab a
    · simp [h1, h2]
    · simp only [if_neg h2, h1]
      constructor
      · intro q; exact .inr ⟨.inl trivial, .inr q.symm⟩
      · rintro (q | ⟨_, q | q⟩)
        · exact absurd q.symm h2
        · exact absurd q h2
        · exact q.symm
  · by_cases h2 : lab y = lab a
    · simp only [if_neg h1, h2]
      constructor
      · intro q; exact .inr ⟨.inr q, .inl trivial⟩
      · rintro (q | ⟨q | q, _⟩)
        · exact absurd q h1
        · exact absurd q h1
        · exact q
    · simp only [if_neg h1, if_neg h2]
      constructor
      · intro q; exact .inl q
      · rintro (q | ⟨q | q, q2 | q2⟩)
        · exact q
        · exact absurd q h1
        · exact absurd q h1
        · exact absurd q2 h2
        · exact q.trans q2.symm
theorem cnt_mono {lab lab' : Nat → Nat} {n c c' : Nat} (h : ∀ y, y < n → lab y = c → lab' y = c') : cnt lab n c ≤ cnt lab' n c' := by
  unfold cnt
  refine List.countP_mono_left fun y hy hq => ?_
  simp at hq ⊢
  exact h y (List.mem_range.1 hy) hq
theorem cnt_two {lab : Nat → Nat} {n a b : Nat} (hab : a ≠ b) : cnt lab n a + cnt lab n b = (List.range n).countP (fun y => decide (lab y = a ∨ lab y = b)) := by
  unfold cnt
  induction (List.range n) with
  | nil => rfl
  | cons x t ih =>
    simp only [List.countP_cons]
    rw [← ih]
    by_cases h1 : lab x = a
    · have h2 : ¬ lab x = b := fun q => hab (h1.symm.trans q)
      simp [h1, hab]; omega
    · by_cases h2 : lab x = b
      · simp [h2, Ne.symm hab]; omega
      · simp [h1, h2]
theorem Fst.step {tw : List (List Tw)} {lab : Nat → Nat} {n a b : Nat} {nm : Nm} (h : Fst tw lab n) (ha : a < n) (hb : b < n) (hab : lab a ≠ lab b) : Fst (pushT (pushT tw a (nm, b)) b (nm, a)) (labJ lab a b) n := by
  have hne : a ≠ b := fun q => hab (by rw [q])
  have hm := mem_push (nm := nm) (by rw [h.len]; exact ha) (by rw [h.len]; exact hb) hne
  have hl := @labJ_iff lab a b
  have hJ : ∀ x, lab x = lab a ∨ lab x = lab b → labJ lab a b x = lab b := fun x q => by
    unfold labJ
    rcases q with q | q
    · rw [if_pos q]
    · split
      · rfl
      · exact q
  have hc1 : ∀ x, x < n → lab x = lab a ∨ lab x = lab b → cnt lab n (lab a) + cnt lab n (lab b) ≤ cnt (labJ lab a b) n (labJ lab a b x) := by
    intro x hx hq
    rw [cnt_two hab, hJ x hq]
    unfold cnt
    refine List.countP_mono_left fun y hy hq => ?_
    simp at hq ⊢
    exact hJ y hq
  have hc2 : ∀ x, x < n → cnt lab n (lab x) ≤ cnt (labJ lab a b) n (labJ lab a b x) := by
    intro x hx
    exact cnt_mono fun y hy hq => (hl y x).2 (.inl hq)
  refine ⟨by unfold pushT; simp [h.len], fun x m y hx => ?_, fun x m y hx => ?_, fun x m y hx => ?_, fun r hr => ?_⟩
  · rcases (hm x _).1 hx with hx | ⟨rfl, ht⟩ | ⟨rfl, ht⟩
    · exact (hm y _).2 (.inl (h.sym x m y hx))
    · cases ht; exact (hm _ _).2 (.inr (.inr ⟨rfl, rfl⟩))
    · cases ht; exact (hm _ _).2 (.inr (.inl ⟨rfl, rfl⟩))
  · rcases (hm x _).1 hx with hx | ⟨rfl, ht⟩ | ⟨rfl, ht⟩
    · exact h.lt x m y hx
    · cases ht; exact hb
    · cases ht; exact ha
  · rcases (hm x _).1 hx with hx | ⟨rfl, ht⟩ | ⟨rfl, ht⟩
    · exact (hl y x).2 (.inl (h.lb x m y hx))
    · cases ht; exact (hl _ _).2 (.inr ⟨.inr rfl, .inl rfl⟩)
    · cases ht; exact (hl _ _).2 (.inr ⟨.inl rfl, .inr rfl⟩)
  · by_cases hrb : lab r = lab b
    · refine step_rt h hb ha (Ne.symm hab) (fun x t => ?_) (fun x y => ?_) (fun x hx hq => ?_) hc2 hr (by rw [hrb]; exact Ne.symm hab) (nm := nm)
      · rw [hm x t]
        constructor
        · rintro (q | q | q)
          · exact .inl q
          · exact .inr (.inr q)
          · exact .inr (.inl q)
        · rintro (q | q | q)
          · exact .inl q
          · exact .inr (.inr q)
          · exact .inr (.inl q)
      · rw [hl x y, Or.comm (a := lab x = lab a), Or.comm (a := lab y = lab a)]
      · rw [Nat.add_comm]; exact hc1 x hx hq.symm
    · exact step_rt h ha hb hab hm hl hc1 hc2 hr hrb
end Go.Proofs.Ytcakfclfggnmbaa

namespace Go.Proofs.Ytcakfclfggnmbaa
set_option linter.unusedVariables false

theorem cnt_le (lab : Nat → Nat) (n c : Nat) : cnt lab n c ≤ n := by
  unfold cnt
  have := List.countP_le_length (p := fun y => decide (lab y = c)) (l := List.range n)
  simpa using this
/-- bef is where one came from: nothing at the root a, else the node one nearer to it -/
def Pb (tw : List (List Tw)) (d : Nat → Nat) (a x : Nat) (bef : Int) : Prop := (x = a ∧ bef = -1) ∨ ∃ m y, (m, y) ∈ tw.getD x [] ∧ d y < d x ∧ bef = (y : Int)
theorem Pb.far {tw : List (List Tw)} {lab : Nat → Nat} {n a : Nat} {d : Nat → Nat} (h : Fst tw lab n) (hd : Rtd tw lab n a d) {x : Nat} {bef : Int} (hp : Pb tw d a x bef) {m : Nm} {y : Nat} (hy : (m, y) ∈ tw.getD x []) (hne : ¬ (y : Int) = bef) : d y = d x + 1 ∧ Pb tw d a y (x : Int) := by
  have h1 : d y = d x + 1 := by
    rcases hd.ed x m y hy with q | q
    · exact q
    · rcases hp with ⟨rfl, _⟩ | ⟨k, z, h2, h3, h4⟩
      · have := hd.r0; omega
      · have := hd.un x m y k z hy h2 (by omega) h3
        exact absurd (by rw [this, h4]) hne
  exact ⟨h1, .inr ⟨m, x, h.sym x m y hy, by omega, rfl⟩⟩
theorem skL_total {go : Nat → Int → Option (Option (List Nm))} {a : Nat} {bef : Int} {ts : List Tw} (h : ∀ m y, (m, y) ∈ ts → ¬ (y : Int) = bef → ∃ r, go y (a : Int) = some r) : ∃ r, skL go a bef ts = some r := by
  induction ts with
  | nil => exact ⟨_, rfl⟩
  | cons t r ih =>
    have ih2 := ih fun m y hy => h m y (List.mem_cons_of_mem _ hy)
    unfold skL
    by_cases hb : (t.2 : Int) = bef
    · rw [if_pos hb]; exact ih2
    · rw [if_neg hb]
      obtain ⟨o, ho⟩ := h t.1 t.2 List.mem_cons_self hb
      rw [ho]
      cases o with
      | none => exact ih2
      | some l => exact ⟨_, rfl⟩
theorem skL_found {go : Nat → Int → Option (Option (List Nm))} {a : Nat} {bef : Int} {ts : List Tw} (h : ∀ m y, (m, y) ∈ ts → ¬ (y : Int) = bef → ∃ r, go y (a : Int) = some r) (hf : ∃ m y l, (m, y) ∈ ts ∧ ¬ (y : Int) = bef ∧ go y (a : Int) = some (some l)) : ∃ l, skL go a bef ts = some (some l) := by
  induction ts with
  | nil => obtain ⟨_, _, _, h1, _⟩ := hf; cases h1
  | cons t r ih =>
    unfold skL
    by_cases hb : (t.2 : Int) = bef
    · rw [if_pos hb]
      refine ih (fun m y hy => h m y (List.mem_cons_of_mem _ hy)) ?_
      obtain ⟨m, y, l, h1, h2, h3⟩ := hf
      rcases List.mem_cons.1 h1 with q | q
      · exact absurd (by rw [← q] at hb; exact hb) h2
      · exact ⟨m, y, l, q, h2, h3⟩
    · rw [if_neg hb]
      obtain ⟨o, ho⟩ := h t.1 t.2 List.mem_cons_self hb
      rw [ho]
      cases o with
      | some l => exact ⟨_, rfl⟩
      | none =>
        refine ih (fun m y hy => h m y (List.mem_cons_of_mem _ hy)) ?_
        obtain ⟨m, y, l, h1, h2, h3⟩ := hf
        rcases List.mem_cons.1 h1 with q | q
        · rw [← q] at ho
          rw [ho] at h3; cases h3
        · exact ⟨m, y, l, q, h2, h3⟩
theorem skL_some {go : Nat → Int → Option (Option (List Nm))} {a : Nat} {bef : Int} {ts : List Tw} {l : List Nm} (h : skL go a bef ts = some (some l)) : ∃ m y l2, (m, y) ∈ ts ∧ go y (a : Int) = some (some l2) := by
  induction ts with
  | nil => cases h
  | cons t r ih =>
    unfold skL at h
    split at h
    · obtain ⟨m, y, l2, h1, h2⟩ := ih h
      exact ⟨m, y, l2, List.mem_cons_of_mem _ h1, h2⟩
    · cases q : go t.2 a with
      | none => rw [q] at h; cases h
      | some o =>
        rw [q] at h
        cases o with
        | none =>
          obtain ⟨m, y, l2, h1, h2⟩ := ih h
          exact ⟨m, y, l2, List.mem_cons_of_mem _ h1, h2⟩
        | some l2 => exact ⟨t.1, t.2, l2, List.mem_cons_self, q⟩
theorem tw_at {tw : List (List Tw)} {x : Nat} (h : x < tw.length) : tw[x]? = some (tw.getD x []) := by
  rw [List.getD_eq_getElem?_getD, List.getElem?_eq_getElem h]; rfl
theorem sk_total {tw : List (List Tw)} {lab : Nat → Nat} {n a : Nat} {d : Nat → Nat} (h : Fst tw lab n) (hd : Rtd tw lab n a d) (b : Nat) : ∀ (f x : Nat) (bef : Int), x < n → Pb tw d a x bef → n + 1 ≤ f + d x → ∃ r, skF tw b f x bef = some r := by
  intro f
  induction f with
  | zero =>
    intro x bef hx hp hf
    have h1 := hd.bd x hx
    have h2 := cnt_le lab n (lab x)
    omega
  | succ f ih =>
    intro x bef hx hp hf
    unfold skF
    by_cases hxb : x = b
    · rw [if_pos hxb]; exact ⟨_, rfl⟩
    · rw [if_neg hxb, tw_at (by rw [h.len]; exact hx)]
      refine skL_total fun m y hy hne => ?_
      obtain ⟨h1, h2⟩ := hp.far h hd hy hne
      exact ih y (x : Int) (h.lt x m y hy) h2 (by omega)
theorem sk_lab {tw : List (List Tw)} {lab : Nat → Nat} {n : Nat} (h : Fst tw lab n) (b : Nat) : ∀ (f x : Nat) (bef : Int) (l : List Nm), skF tw b f x bef = some (some l) → lab b = lab x := by
  intro f
  induction f with
  | zero => intro x bef l hs; cases hs
  | succ f ih =>
    intro x bef l hs
    unfold skF at hs
    by_cases hxb : x = b
    · rw [hxb]
    · rw [if_neg hxb] at hs
      cases q : tw[x]? with
      | none => rw [q] at hs; cases hs
      | some ts =>
        rw [q] at hs
        obtain ⟨m, y, l2, h1, h2⟩ := skL_some hs
        have hy : (m, y) ∈ tw.getD x [] := by rw [List.getD_eq_getElem?_getD, q]; exact h1
        rw [ih y _ l2 h2]; exact h.lb x m y hy
/-- x lies on b's way to the root -/
inductive Anc (tw : List (List Tw)) (d : Nat → Nat) (b : Nat) : Nat → Prop
  | here : Anc tw d b b
  | up {x y : Nat} {m : Nm} : Anc tw d b x → (m, y) ∈ tw.getD x [] → d y < d x → Anc tw d b y
theorem sk_found {tw : List (List Tw)} {lab : Nat → Nat} {n a b : Nat} {d : Nat → Nat} (h : Fst tw lab n) (hd : Rtd tw lab n a d) (hb : b < n) {x : Nat} (hA : Anc tw d b x) : ∀ (f : Nat) (bef : Int), Pb tw d a x bef → n + 1 ≤ f + d x → ∃ l, skF tw b f x bef = some (some l) := by
  induction hA with
  | here =>
    intro f bef hp hf
    have h1 := hd.bd b hb
    have h2 := cnt_le lab n (lab b)
    cases f with
    | zero => omega
    | succ f => unfold skF; rw [if_pos rfl]; exact ⟨_, rfl⟩
  | @up x y m hA hy hlt ih =>
    intro f bef hp hf
    have hyn : y < n := h.lt x m y hy
    have h1 := hd.bd y hyn
    have h2 := cnt_le lab n (lab y)
    cases f with
    | zero => omega
    | succ f =>
      unfold skF
      by_cases hyb : y = b
      · rw [if_pos hyb]; exact ⟨_, rfl⟩
      · rw [if_neg hyb, tw_at (by rw [h.len]; exact hyn)]
        have hx : (m, x) ∈ tw.getD y [] := h.sym x m y hy
        have hne : ¬ (x : Int) = bef := by
          rcases hp with ⟨rfl, hbf⟩ | ⟨k, z, h3, h4, h5⟩
          · rw [hbf]; omega
          · intro q
            have : x = z := by omega
            rw [this] at hlt; omega
        have hxd := hp.far h hd hx hne
        obtain ⟨l, hl⟩ := ih f (y : Int) hxd.2 (by omega)
        refine skL_found (fun m2 z hz hnz => ?_) ⟨m, x, l, hx, hne, hl⟩
        obtain ⟨h3, h4⟩ := hp.far h hd hz hnz
        exact sk_total h hd b f z (y : Int) (h.lt y m2 z hz) h4 (by omega)
theorem anc_root {tw : List (List Tw)} {lab : Nat → Nat} {n a b : Nat} {d : Nat → Nat} (h : Fst tw lab n) (hd : Rtd tw lab n a d) : ∀ (k z : Nat), d z ≤ k → z < n → lab z = lab a → Anc tw d b z → Anc tw d b a := by
  intro k
  induction k with
  | zero =>
    intro z hz hn hl hA
    by_cases hza : z = a
    · rw [← hza]; exact hA
    · obtain ⟨m, y, h1, h2⟩ := hd.up z hn hza hl
      omega
  | succ k ih =>
    intro z hz hn hl hA
    by_cases hza : z = a
    · rw [← hza]; exact hA
    · obtain ⟨m, y, h1, h2⟩ := hd.up z hn hza hl
      exact ih y (by omega) (h.lt z m y h1) ((h.lb z m y h1).trans hl) (.up hA h1 h2)
/-- seek comes to an end, and finds a way just where both are in one part -/
theorem sk_iff {tw : List (List Tw)} {lab : Nat → Nat} {n a b f : Nat} (h : Fst tw lab n) (ha : a < n) (hb : b < n) (hf : n + 1 ≤ f) : ∃ r, skF tw b f a (-1) = some r ∧ (r.isSome = true ↔ lab a = lab b) := by
  obtain ⟨d, hd⟩ := h.rt a ha
  obtain ⟨r, hr⟩ := sk_total h hd b f a (-1) ha (.inl ⟨rfl, rfl⟩) (by omega)
  refine ⟨r, hr, fun q => ?_, fun q => ?_⟩
  · cases r with
    | none => cases q
    | some l => exact (sk_lab h b f a (-1) l hr).symm
  · have hA := anc_root h hd (d b) b (Nat.le_refl _) hb q.symm (Anc.here (tw := tw) (d := d) (b := b))
    obtain ⟨l, hl⟩ := sk_found h hd hb hA f (-1) (.inl ⟨rfl, rfl⟩) (by omega)
    rw [hl] at hr
    cases hr; rfl
/-- the marks behind an element that joins a and b -/
def labT (lab : Nat → Nat) (a b : Nat) : Nat → Nat := if lab a = lab b then lab else labJ lab a b
theorem take_all {F : Fr} {lab : Nat → Nat} {n a b f : Nat} {nm : Nm} (h : Fst F.tw lab n) (ha : a < n) (hb : b < n) (hf : n + 1 ≤ f) : ∃ F', F.take f nm a b = some F' ∧ Fst F'.tw (labT lab a b) n ∧ F'.lp.length = F.lp.length + (if lab a = lab b then 1 else 0) ∧ F'.tr.length = F.tr.length + (if lab a = lab b then 0 else 1) := by
  obtain ⟨r, hr, hi⟩ := sk_iff h ha hb hf
  unfold Fr.take labT
  rw [hr]
  cases r with
  | none =>
    have hne : ¬ lab a = lab b := fun q => by have := hi.2 q; cases this
    exact ⟨_, rfl, by rw [if_neg hne]; exact h.step ha hb hne, by rw [if_neg hne]; rfl, by rw [if_neg hne]; simp⟩
  | some way =>
    have he : lab a = lab b := hi.1 rfl
    exact ⟨_, rfl, by rw [if_pos he]; exact h, by rw [if_pos he]; simp, by rw [if_pos he]; rfl⟩
/-- the marks behind all elements that are wanted; how many of them close a loop -/
def labG (want : Nat → Bool) (nodes : List Nm) : List Elm → (Nat → Nat) → Nat → (Nat → Nat) × Nat
  | [], lab, c => (lab, c)
  | x :: t, lab, c => if want x.k = true then labG want nodes t (labT lab (posL nodes (bl x.a)) (posL nodes (bl x.b))) (c + if lab (posL nodes (bl x.a)) = lab (posL nodes (bl x.b)) then 1 else 0) else labG want nodes t lab c
theorem grow_all {want : Nat → Bool} {nodes : List Nm} {f n : Nat} (hf : n + 1 ≤ f) : ∀ (es : List Elm) (F : Fr) (lab : Nat → Nat), Fst F.tw lab n → (∀ x ∈ es, posL nodes (bl x.a) < n ∧ posL nodes (bl x.b) < n) → ∃ F', growF f want nodes es F = some F' ∧ Fst F'.tw (labG want nodes es lab F.lp.length).1 n ∧ F'.lp.length = (labG want nodes es lab F.lp.length).2 := by
  intro es
  induction es with
  | nil => intro F lab h _; exact ⟨F, rfl, h, rfl⟩
  | cons x t ih =>
    intro F lab h hx
    obtain ⟨h1, h2⟩ := hx x List.mem_cons_self
    have ht := fun y hy => hx y (List.mem_cons_of_mem _ hy)
    rw [growF, labG]
    by_cases hw : want x.k = true
    · rw [if_pos hw, if_pos hw]
      obtain ⟨F2, e1, e2, e3, e4⟩ := take_all (nm := bl x.n) h h1 h2 hf
      rw [e1]
      obtain ⟨F', q1, q2, q3⟩ := ih F2 _ e2 ht
      rw [e3] at q2 q3
      exact ⟨F', q1, q2, q3⟩
    · rw [if_neg hw, if_neg hw]
      exact ih F lab h ht
end Go.Proofs.Ytcakfclfggnmbaa

namespace Go.Proofs.Ytcakfclfggnmbaa
set_option linter.unusedVariables false

theorem addU_self (xs : List Nm) (s : Nm) : s ∈ addU xs s := by unfold addU; split; assumption; simp
theorem addU_sub {xs : List Nm} {s x : Nm} (h : x ∈ xs) : x ∈ addU xs s := by unfold addU; split; exact h; exact List.mem_append_left _ h
theorem addU_mem {xs : List Nm} {s x : Nm} (h : x ∈ addU xs s) : x ∈ xs ∨ x = s := by
  unfold addU at h
  split at h
  · exact .inl h
  · rcases List.mem_append.1 h with q | q
    · exact .inl q
    · exact .inr (by simpa using q)
theorem addU_nodup {xs : List Nm} {s : Nm} (h : xs.Nodup) : (addU xs s).Nodup := by
  unfold addU
  split
  · exact h
  · rename_i hs
    rw [List.nodup_append]
    refine ⟨h, by simp, fun a ha b hb e => ?_⟩
    simp at hb
    rw [e, hb] at ha
    exact hs ha
/-- what is known of the nodes of a net -/
structure Nw (xs : List Nm) : Prop where
  u : xs.Nodup
  g : [48] ∉ xs
  s : ∀ s ∈ xs, s.length ≤ 100000
theorem Nw.nil : Nw [] := ⟨List.nodup_nil, by simp, by simp⟩
theorem ndO_sub {xs : List Nm} {s : ByteArray} {x : Nm} (h : x ∈ xs) : x ∈ ndO xs s := by unfold ndO; split; exact addU_sub h; exact h
theorem isN_iff {s : ByteArray} : isN s = true ↔ bl s ≠ [] ∧ bl s ≠ [48] := by
  unfold isN
  rw [Bool.and_eq_true, Bool.not_eq_true', Bool.not_eq_true', beq_eq_false_iff_ne, beq_eq_false_iff_ne]
theorem ndO_in {xs : List Nm} {s : ByteArray} (h : bl s ≠ []) : bl s ∈ [48] :: ndO xs s := by
  by_cases h2 : bl s = [48]
  · rw [h2]; exact List.mem_cons_self
  · refine List.mem_cons_of_mem _ ?_
    unfold ndO
    rw [if_pos (isN_iff.2 ⟨h, h2⟩)]
    exact addU_self _ _
theorem Nw.ndO {xs : List Nm} {s : ByteArray} (h : Nw xs) (hs : s.size ≤ 100000) : Nw (ndO xs s) := by
  unfold Go.Proofs.Ytcakfclfggnmbaa.ndO
  split
  · rename_i hn
    have hn2 := isN_iff.1 hn
    refine ⟨addU_nodup h.u, fun q => ?_, fun t ht => ?_⟩
    · rcases addU_mem q with q | q
      · exact h.g q
      · exact hn2.2 q.symm
    · rcases addU_mem ht with q | q
      · exact h.s t q
      · rw [q]; exact hs
  · exact h
theorem cons_sub {xs ys : List Nm} (h : ∀ x, x ∈ xs → x ∈ ys) {s : Nm} (hs : s ∈ [48] :: xs) : s ∈ [48] :: ys := by
  rcases List.mem_cons.1 hs with q | q
  · rw [q]; exact List.mem_cons_self
  · exact List.mem_cons_of_mem _ (h s q)
theorem ndE_sub {xs : List Nm} {x : Elm} {s : Nm} (h : s ∈ xs) : s ∈ ndE xs x := ndO_sub (ndO_sub (ndO_sub (ndO_sub h)))
/-- what Check says of an element that may be -/
structure Cks (x : Elm) : Prop where
  sh : x.n.size ≤ 16 ∧ 2 ≤ x.n.size ∧ x.a.size ≤ 16 ∧ x.b.size ≤ 16 ∧ x.c.size ≤ 16 ∧ x.d.size ≤ 16
  na : naF x = true
  ab : bl x.a ≠ bl x.b
  lt : ltr x.k ≠ 0
  a : bl x.a ≠ []
  b : bl x.b ≠ []
theorem ne_bl {s : ByteArray} (h : 0 < s.size) : bl s ≠ [] := fun q => by
  have : (bl s).length = 0 := by rw [q]; rfl
  rw [bl_len] at this; omega
theorem nd_pos {s : ByteArray} (h : ndF s = true) : 0 < s.size := by
  unfold ndF at h
  simp at h
  exact h.1.1
theorem chk_all {x : Elm} (h0 : chkI x = 0) : Cks x := by
  have hsh := chk_short h0
  have h := h0
  unfold chkI at h
  by_cases h1 : ltr x.k = 0
  · rw [if_pos h1] at h; cases h
  rw [if_neg h1] at h
  by_cases h2 : naF x = false
  · rw [if_pos h2] at h; cases h
  rw [if_neg h2] at h
  by_cases h3 : (x.a.toList == x.b.toList) = true ∨ spF x = false
  · rw [if_pos h3] at h; cases h
  have h2' : naF x = true := by simpa using h2
  have h4 := h2'
  unfold naF at h4
  simp only [Bool.and_eq_true] at h4
  refine ⟨hsh, h2', fun q => h3 (.inl ?_), h1, ne_bl (nd_pos h4.1.1.2), ne_bl (nd_pos h4.1.2)⟩
  rw [ByteArray.toList_eq, ByteArray.toList_eq]
  exact beq_iff_eq.2 q
/-- what is known of a net that is being made -/
structure Nv (N : Ns) : Prop where
  nw : Nw N.nd
  el : ∀ x ∈ N.es, bl x.a ∈ [48] :: N.nd ∧ bl x.b ∈ [48] :: N.nd ∧ Cks x
  nm : N.nm = N.es.map fun x => bl x.n
  nu : N.nm.Nodup
theorem Nv.nil : Nv Ns.nil := ⟨Nw.nil, (fun x hx => by cases hx), rfl, List.nodup_nil⟩
theorem Nv.lay {N : Ns} {x : Elm} (h : Nv N) (hc : chkI x = 0) (hn : bl x.n ∉ N.nm) : Nv (N.lay x) := by
  have ck := chk_all hc
  obtain ⟨s1, s2, s3, s4, s5, s6⟩ := ck.sh
  have hA : bl x.a ∈ [48] :: ndE N.nd x := cons_sub (fun y hy => ndO_sub (ndO_sub (ndO_sub hy))) (ndO_in ck.a)
  have hB : bl x.b ∈ [48] :: ndE N.nd x := cons_sub (fun y hy => ndO_sub (ndO_sub hy)) (ndO_in ck.b)
  have hnm : addU N.nm (bl x.n) = N.nm ++ [bl x.n] := if_neg hn
  refine ⟨((((h.nw.ndO (s := x.a) (by omega)).ndO (s := x.b) (by omega)).ndO (s := x.c) (by omega)).ndO (s := x.d) (by omega)), fun y hy => ?_, ?_, addU_nodup h.nu⟩
  · rcases List.mem_append.1 hy with q | q
    · obtain ⟨h1, h2, h3⟩ := h.el y q
      exact ⟨cons_sub (fun z hz => ndE_sub hz) h1, cons_sub (fun z hz => ndE_sub hz) h2, h3⟩
    · simp at q; rw [q]; exact ⟨hA, hB, ck⟩
  · show addU N.nm (bl x.n) = (N.es ++ [x]).map _
    rw [hnm, h.nm]; simp
theorem ofR_facts : ∀ (l : List Elm) (N N' : Ns) (i : Nat), Nv N → ofR N i l = ((0, 0), N') → Nv N' ∧ N'.es = N.es ++ l ∧ N'.nd.length ≤ 32 := by
  intro l
  induction l with
  | nil =>
    intro N N' i h ho
    unfold ofR at ho
    split at ho
    · simp at ho
    · rename_i hb
      have : N = N' := by simpa using ho
      subst this
      exact ⟨h, by simp, by omega⟩
  | cons x t ih =>
    intro N N' i h ho
    by_cases hc : chkI x = 0
    · by_cases hn : bl x.n ∈ N.nm
      · rw [ofR_there hc hn] at ho
        simp at ho
      · rw [ofR_go hc hn] at ho
        obtain ⟨h1, h2, h3⟩ := ih (N.lay x) N' (i + 1) (h.lay hc hn) ho
        exact ⟨h1, by rw [h2]; show (N.es ++ [x]) ++ t = _; simp, h3⟩
    · rw [ofR_bad hc] at ho
      simp at ho
      exact absurd ho.1.1 hc
theorem ofA_facts {l : List Elm} {N : Ns} (h : ofA l = ((0, 0), N)) : Nv N ∧ N.es = l ∧ N.nd.length ≤ 32 ∧ l.length ≤ 256 := by
  unfold ofA at h
  split at h
  · simp at h
  · rename_i hl
    obtain ⟨h1, h2, h3⟩ := ofR_facts l Ns.nil N 0 Nv.nil h
    exact ⟨h1, by rw [h2]; rfl, h3, by omega⟩
/-- the other way: what is known of a list makes a net of it -/
theorem Nv.nm_ne {N : Ns} (h : Nv N) : [] ∉ N.nm := by
  rw [h.nm]
  intro q
  obtain ⟨x, hx, he⟩ := List.mem_map.1 q
  have := (h.el x hx).2.2.sh.2.1
  have h2 : (bl x.n).length = 0 := by rw [he]; rfl
  rw [bl_len] at h2; omega
theorem Nv.elN {N : Ns} (h : Nv N) {x : Elm} (hx : x ∈ N.es) : ElN ([48] :: N.nd) x := by
  obtain ⟨h1, h2, h3⟩ := h.el x hx
  obtain ⟨s1, s2, s3, s4, s5, s6⟩ := h3.sh
  exact ⟨h1, h2, h3.ab, by omega, by omega, by omega⟩
/-- a net that Of made: all that graph asks -/
theorem gn_of {w : World} {b0 p : Nat} {b : Nb} {l : List Elm} {N : Ns} (want : Nat → Bool) (h : Nt w b0 p N b) (ho : ofA l = ((0, 0), N)) : ∃ F, Gn w p 40 N want F ∧ F.lp.length = (labG want ([48] :: N.nd) N.es id 0).2 := by
  obtain ⟨h1, h2, h3, h4⟩ := ofA_facts ho
  have hlt : ∀ x ∈ N.es, posL ([48] :: N.nd) (bl x.a) < N.nd.length + 1 ∧ posL ([48] :: N.nd) (bl x.b) < N.nd.length + 1 := fun x hx => ⟨pos_lt (h1.elN hx).a, pos_lt (h1.elN hx).b⟩
  obtain ⟨F, hF, hS, hL⟩ := grow_all (want := want) (nodes := [48] :: N.nd) (f := 40) (n := N.nd.length + 1) (by omega) N.es (Fr.new ([48] :: N.nd)) id (Fst.new _) hlt
  exact ⟨F, ⟨⟨b0, b, h⟩, h1.nm_ne, List.nodup_cons.2 ⟨h1.nw.g, h1.nw.u⟩, by omega, by rw [h2]; omega, fun x hx => h1.elN hx, by omega, hF, h1.nw.s⟩, hL⟩
end Go.Proofs.Ytcakfclfggnmbaa

namespace Go.Proofs.Ytcakfclfggnmbaa
set_option linter.unusedVariables false

/-- a text with another first byte -/
def volN (c : UInt8) (s : ByteArray) : ByteArray := ⟨#[c]⟩ ++ s.extract 1 s.size
theorem volN_bl (c : UInt8) (s : ByteArray) : bl (volN c s) = c :: (bl s).drop 1 := by
  unfold volN
  show ((⟨#[c]⟩ : ByteArray) ++ s.extract 1 s.size).data.toList = _
  rw [ByteArray.data_append, ByteArray.data_extract, Array.toList_append, Array.toList_extract]
  show [c] ++ _ = _
  rw [List.extract_eq_take_drop]
  simp only [List.cons_append, List.nil_append, List.cons.injEq, true_and]
  rw [List.take_of_length_le]
  rw [List.length_drop]
  show (s.data.toList).length - 1 ≤ s.size - 1
  rw [Array.length_toList]
  exact Nat.le_refl _
def volE (x : Elm) : Elm := exE (if x.k = 7 then 2 else 1) (volN (if x.k = 7 then 76 else 82) x.n) x.a x.b
/-- marks that tell the same of the names that both lists have -/
def Rl (n1 n2 : List Nm) (l1 l2 : Nat → Nat) : Prop := ∀ s t, s ∈ n2 → t ∈ n2 → (l1 (posL n1 s) = l1 (posL n1 t) ↔ l2 (posL n2 s) = l2 (posL n2 t))
theorem pos_inj {xs : List Nm} {s t : Nm} (h : s ∈ xs) (h2 : t ∈ xs) : posL xs s = posL xs t ↔ s = t := by
  constructor
  · intro q
    by_cases e : s = t
    · exact e
    · exact absurd q (pos_ne h h2 e)
  · intro q; rw [q]
theorem Rl.id {n1 n2 : List Nm} (h : ∀ s, s ∈ n2 → s ∈ n1) : Rl n1 n2 id id := fun s t hs ht => by
  show posL n1 s = posL n1 t ↔ posL n2 s = posL n2 t
  rw [pos_inj (h s hs) (h t ht), pos_inj hs ht]
theorem Rl.step {n1 n2 : List Nm} {l1 l2 : Nat → Nat} {a b : Nm} (h : Rl n1 n2 l1 l2) (ha : a ∈ n2) (hb : b ∈ n2) : Rl n1 n2 (labT l1 (posL n1 a) (posL n1 b)) (labT l2 (posL n2 a) (posL n2 b)) := by
  have hab := h a b ha hb
  intro s t hs ht
  unfold labT
  by_cases q : l1 (posL n1 a) = l1 (posL n1 b)
  · rw [if_pos q, if_pos (hab.1 q)]
    exact h s t hs ht
  · rw [if_neg q, if_neg (fun q2 => q (hab.2 q2)), labJ_iff, labJ_iff, h s t hs ht, h s a hs ha, h s b hs hb, h t a ht ha, h t b ht hb]
theorem labG_same {n1 n2 : List Nm} : ∀ (es : List Elm) (l1 l2 : Nat → Nat) (c : Nat), Rl n1 n2 l1 l2 → (∀ x ∈ es, isB x = true → bl x.a ∈ n2 ∧ bl x.b ∈ n2) → (labG wB n1 es l1 c).2 = (labG wJ n2 ((es.filter isB).map volE) l2 c).2 := by
  intro es
  induction es with
  | nil => intro l1 l2 c _ _; rfl
  | cons x t ih =>
    intro l1 l2 c h hx
    have ht := fun y hy => hx y (List.mem_cons_of_mem _ hy)
    by_cases hB : isB x = true
    · have hw : wB x.k = true := hB
      obtain ⟨h1, h2⟩ := hx x List.mem_cons_self hB
      rw [labG, if_pos hw, List.filter_cons_of_pos hB, List.map_cons, labG]
      have hj : wJ (volE x).k = true := by
        unfold volE exE
        by_cases h7 : x.k = 7
        · simp only [if_pos h7]; rfl
        · simp only [if_neg h7]; rfl
      rw [if_pos hj]
      show (labG wB n1 t (labT l1 (posL n1 (bl x.a)) (posL n1 (bl x.b))) _).2 = (labG wJ n2 _ (labT l2 (posL n2 (bl x.a)) (posL n2 (bl x.b))) _).2
      have hc := h (bl x.a) (bl x.b) h1 h2
      have he : (if l1 (posL n1 (bl x.a)) = l1 (posL n1 (bl x.b)) then 1 else 0) = (if l2 (posL n2 (bl x.a)) = l2 (posL n2 (bl x.b)) then 1 else 0) := by
        by_cases q : l1 (posL n1 (bl x.a)) = l1 (posL n1 (bl x.b))
        · rw [if_pos q, if_pos (hc.1 q)]
        · rw [if_neg q, if_neg (fun q2 => q (hc.2 q2))]
      show (labG wB n1 t _ (c + if l1 (posL n1 (bl x.a)) = l1 (posL n1 (bl x.b)) then 1 else 0)).2 = (labG wJ n2 _ _ (c + if l2 (posL n2 (bl x.a)) = l2 (posL n2 (bl x.b)) then 1 else 0)).2
      rw [he]
      exact ih _ _ _ (h.step h1 h2) ht
    · have hw : ¬ wB x.k = true := hB
      rw [labG, if_neg hw, List.filter_cons_of_neg hB]
      exact ih l1 l2 c h ht
theorem len_sub {xs ys : List Nm} (h : xs.Nodup) (hs : ∀ x, x ∈ xs → x ∈ ys) : xs.length ≤ ys.length := by
  induction xs generalizing ys with
  | nil => exact Nat.zero_le _
  | cons x t ih =>
    obtain ⟨h1, h2⟩ := List.nodup_cons.1 h
    have hx := hs x List.mem_cons_self
    have := ih (ys := ys.erase x) h2 fun y hy => (List.mem_erase_of_ne (fun e => h1 (by rw [← e]; exact hy))).2 (hs y (List.mem_cons_of_mem _ hy))
    rw [List.length_erase_of_mem hx] at this
    have := List.length_pos_of_mem hx
    simp only [List.length_cons]
    omega
end Go.Proofs.Ytcakfclfggnmbaa

namespace Go.Proofs.Ytcakfclfggnmbaa
open Fl RowKit
set_option linter.unusedVariables false
set_option maxRecDepth 100000

theorem byt_bl (s : ByteArray) (i : Nat) : byt s i = ((bl s).getD i 0).toNat := by
  unfold byt bl
  rw [Array.getD_eq_getD_getElem?, List.getD_eq_getElem?_getD, Array.getElem?_toList]
theorem volN_size {c : UInt8} {s : ByteArray} (h : 1 ≤ s.size) : (volN c s).size = s.size := by
  rw [← bl_len, volN_bl, List.length_cons, List.length_drop, bl_len]; omega
theorem volN_0 (c : UInt8) (s : ByteArray) : byt (volN c s) 0 = c.toNat := by rw [byt_bl, volN_bl]; rfl
theorem volN_1 (c : UInt8) (s : ByteArray) (i : Nat) : byt (volN c s) (i + 1) = byt s (i + 1) := by
  rw [byt_bl, byt_bl, volN_bl, List.getD_cons_succ, List.getD_eq_getElem?_getD, List.getElem?_drop, List.getD_eq_getElem?_getD, Nat.add_comm]
theorem volN_pl {c : UInt8} {s : ByteArray} (h : 1 ≤ s.size) (hp : plF s 1 = true) : plF (volN c s) 1 = true := by
  refine plF_yes fun i hi h1 => ?_
  unfold plF at hp
  rw [decide_eq_true_iff] at hp
  rw [volN_size h] at hi
  obtain ⟨j, rfl⟩ : ∃ j, i = j + 1 := ⟨i - 1, by omega⟩
  rw [volN_1]
  exact hp _ hi h1
theorem nmK_parts {s : ByteArray} (h : nmK s ≠ 0) : 2 ≤ s.size ∧ s.size ≤ 16 ∧ plF s 1 = true ∧ nmK s = ofK (byt s 0) := by
  unfold nmK at h ⊢
  split at h
  · rename_i q
    exact ⟨q.1.1, q.1.2, q.2, by rw [if_pos q]⟩
  · exact absurd rfl h
theorem na_parts {x : Elm} (h : naF x = true) : nmK x.n ≠ 0 ∧ nmK x.n = x.k ∧ ndF x.a = true ∧ ndF x.b = true := by
  unfold naF at h
  simp only [Bool.and_eq_true] at h
  exact ⟨by simpa using h.1.1.1.1, by simpa using h.1.1.1.2, h.1.1.2, h.1.2⟩
theorem volE_name {x : Elm} (h : naF x = true) (h7 : x.k = 5 ∨ x.k = 7) : bl x.n = (if x.k = 7 then 69 else 86) :: (bl x.n).drop 1 := by
  obtain ⟨h1, h2, _, _⟩ := na_parts h
  obtain ⟨s2, s16, hp, he⟩ := nmK_parts h1
  have hb : ofK (byt x.n 0) = x.k := he.symm.trans h2
  rw [byt_bl] at hb
  have hl : 2 ≤ (bl x.n).length := by rw [bl_len]; exact s2
  match hbl : bl x.n, hl with
  | c :: t, _ =>
    rw [hbl] at hb
    have hb' : ofK c.toNat = x.k := hb
    have hc : c = if x.k = 7 then 69 else 86 := by
      unfold ofK at hb'
      rcases h7 with h7 | h7
      · rw [h7] at hb' ⊢
        have : c.toNat = 86 := by
          repeat' (split at hb')
          all_goals first | omega | assumption
        exact UInt8.toNat_inj.1 this
      · rw [h7] at hb' ⊢
        have : c.toNat = 69 := by
          repeat' (split at hb')
          all_goals first | omega | assumption
        exact UInt8.toNat_inj.1 this
    rw [hc]; rfl
theorem isB_k {x : Elm} (h : isB x = true) : x.k = 5 ∨ x.k = 7 := by
  unfold isB at h
  simpa using h
theorem volE_inj {x y : Elm} (hx : naF x = true) (hy : naF y = true) (bx : isB x = true) (by' : isB y = true) (h : bl (volE x).n = bl (volE y).n) : bl x.n = bl y.n := by
  have h1 : bl (volN (if x.k = 7 then 76 else 82) x.n) = bl (volN (if y.k = 7 then 76 else 82) y.n) := h
  rw [volN_bl, volN_bl, List.cons.injEq] at h1
  have ek : (x.k = 7) ↔ (y.k = 7) := by
    have h2 := h1.1
    by_cases a : x.k = 7 <;> by_cases b : y.k = 7
    · exact ⟨fun _ => b, fun _ => a⟩
    · rw [if_pos a, if_neg b] at h2; exact absurd h2 (by decide)
    · rw [if_neg a, if_pos b] at h2; exact absurd h2 (by decide)
    · exact ⟨fun q => absurd q a, fun q => absurd q b⟩
  rw [volE_name hx (isB_k bx), volE_name hy (isB_k by'), h1.2]
  by_cases a : x.k = 7
  · rw [if_pos a, if_pos (ek.1 a)]
  · rw [if_neg a, if_neg (fun q => a (ek.2 q))]
theorem kdv_1 : kdB 4607182418800017408 = 2 := by kernel_rfl
theorem psv_1 : posV 4607182418800017408 = true := by kernel_rfl
theorem volE_chk {x : Elm} (h : Cks x) : chkI (volE x) = 0 := by
  obtain ⟨h1, h2, ha, hb⟩ := na_parts h.na
  obtain ⟨s2, s16, hp, he⟩ := nmK_parts h1
  have hkk : ∀ (c : UInt8), nmK (volN c x.n) = ofK c.toNat := fun c => by
    rw [nm_in (by rw [volN_size (by omega)]; exact s2) (by rw [volN_size (by omega)]; exact s16) (volN_pl (by omega) hp), volN_0]
  have hab : ¬ (x.a.toList == x.b.toList) = true := fun q => h.ab (by
    rw [ByteArray.toList_eq, ByteArray.toList_eq] at q
    exact beq_iff_eq.1 q)
  have key : ∀ (k : Nat) (c : UInt8), ltr k ≠ 0 → ofK c.toNat = k → k ≠ 0 → fou k = false → chkI (exE k (volN c x.n) x.a x.b) = 0 := fun k c hl hk h0 hf => by
    have hna : naF (exE k (volN c x.n) x.a x.b) = true := by
      unfold naF
      show ((nmK (volN c x.n) != 0) && (nmK (volN c x.n) == k) && ndF x.a && ndF x.b && (!fou k || _)) = true
      rw [hkk, hk, ha, hb, hf]
      simp [h0]
    have hsp : spF (exE k (volN c x.n) x.a x.b) = true := by
      unfold spF
      show ((fou k || (_ && _)) && (phs k || (0 : Int) == 0)) = true
      rw [hf]
      simp [exE, ByteArray.toList_eq]
    unfold chkI
    rw [if_neg (show ¬ ltr (exE k (volN c x.n) x.a x.b).k = 0 from hl), if_neg (by rw [hna]; decide), if_neg (by
      rintro (q | q)
      · exact hab q
      · rw [hsp] at q; cases q), if_neg (by show ¬ 2 < kdB 4607182418800017408; rw [kdv_1]; decide), if_neg (by
      rintro ⟨_, q⟩
      have q2 : posV 4607182418800017408 = false := q
      rw [psv_1] at q2; cases q2)]
  unfold volE
  by_cases h7 : x.k = 7
  · rw [if_pos h7, if_pos h7]; exact key 2 76 (by decide) (by decide) (by decide) (by decide)
  · rw [if_neg h7, if_neg h7]; exact key 1 82 (by decide) (by decide) (by decide) (by decide)
theorem volE_ok {x : Elm} (h : Cks x) : (volE x).ok := by
  obtain ⟨s1, s2, s3, s4, s5, s6⟩ := h.sh
  unfold volE exE
  refine ⟨?_, ?_, ?_, ?_, ?_, ?_, ?_⟩
  · show (if x.k = 7 then 2 else 1) < 256; split <;> omega
  · show (volN _ x.n).size ≤ _; rw [volN_size (by omega)]; omega
  · show x.a.size ≤ _; omega
  · show x.b.size ≤ _; omega
  · show (0 : Nat) ≤ _; omega
  · show (0 : Nat) ≤ _; omega
  · show 4607182418800017408 < 18446744073709551616; omega
theorem ndO_mem {xs : List Nm} {s : ByteArray} {x : Nm} (h : x ∈ ndO xs s) : x ∈ xs ∨ x = bl s ∧ bl s ≠ [48] := by
  unfold ndO at h
  split at h
  · rename_i hn
    exact (addU_mem h).imp id fun q => ⟨q, (isN_iff.1 hn).2⟩
  · exact .inl h
theorem ndO_nil (xs : List Nm) : ndO xs ⟨#[]⟩ = xs := by
  unfold ndO
  rw [if_neg (by rw [isN_iff]; exact fun q => q.1 rfl)]
theorem of_rest : ∀ (es : List Elm) (M : Ns) (N : Ns) (i : Nat), Nv N → N.br = [] → (∀ x, x ∈ N.nd → x ∈ M.nd) → M.nd.length ≤ 32 → (∀ x ∈ es, Cks x ∧ isB x = true ∧ bl x.a ∈ [48] :: M.nd ∧ bl x.b ∈ [48] :: M.nd) → (es.Pairwise fun x y => bl x.n ≠ bl y.n) → (∀ x ∈ es, bl (volE x).n ∉ N.nm) → ∃ N', ofR N i (es.map volE) = ((0, 0), N') ∧ ∀ x, x ∈ N'.nd → x ∈ M.nd := by
  intro es
  induction es with
  | nil =>
    intro M N i hv hbr hs hM _ _ _
    refine ⟨N, ?_, hs⟩
    have := len_sub hv.nw.u hs
    rw [List.map_nil, ofR, if_neg (by rw [hbr]; simp; omega)]
  | cons x t ih =>
    intro M N i hv hbr hs hM hx hp hn
    obtain ⟨ck, hB, ha, hb⟩ := hx x List.mem_cons_self
    have hc := volE_chk ck
    have hnx := hn x List.mem_cons_self
    rw [List.map_cons, ofR_go hc hnx]
    refine ih M (N.lay (volE x)) (i + 1) (hv.lay hc hnx) ?_ ?_ hM (fun y hy => hx y (List.mem_cons_of_mem _ hy)) (List.pairwise_cons.1 hp).2 fun y hy => ?_
    · show brE N.br (volE x) = []
      unfold brE
      rw [if_neg, hbr]
      unfold isB volE exE
      by_cases h7 : x.k = 7
      · simp only [if_pos h7]; decide
      · simp only [if_neg h7]; decide
    · intro s hs2
      have h2 : s ∈ ndO (ndO (ndO (ndO N.nd x.a) x.b) ⟨#[]⟩) ⟨#[]⟩ := hs2
      rw [ndO_nil, ndO_nil] at h2
      rcases ndO_mem h2 with q | ⟨q, r⟩
      · rcases ndO_mem q with q | ⟨q, r⟩
        · exact hs s q
        · rw [q]; exact (List.mem_cons.1 ha).resolve_left r
      · rw [q]; exact (List.mem_cons.1 hb).resolve_left r
    · intro q
      rcases addU_mem q with q | q
      · exact hn y (List.mem_cons_of_mem _ hy) q
      · obtain ⟨cy, hBy, _, _⟩ := hx y (List.mem_cons_of_mem _ hy)
        exact (List.pairwise_cons.1 hp).1 y hy (volE_inj cy.na ck.na hBy hB q).symm
/-- the branches alone -/
def volL (es : List Elm) : List Elm := (es.filter isB).map volE
theorem vol_of {l : List Elm} {N : Ns} (ho : ofA l = ((0, 0), N)) : ∃ N2, ofA (volL N.es) = ((0, 0), N2) ∧ (labG wB ([48] :: N.nd) N.es id 0).2 = (labG wJ ([48] :: N2.nd) N2.es id 0).2 := by
  obtain ⟨h1, h2, h3, h4⟩ := ofA_facts ho
  have hpw : N.es.Pairwise fun x y => bl x.n ≠ bl y.n := by
    have := h1.nu
    rw [h1.nm] at this
    exact List.pairwise_map.1 this
  have hfl : (N.es.filter isB).length ≤ 256 := Nat.le_trans (List.length_filter_le _ _) (by rw [h2]; exact h4)
  obtain ⟨N2, hN2, hs2⟩ := of_rest (N.es.filter isB) N Ns.nil 0 Nv.nil rfl (fun x hx => by cases hx) h3 (fun x hx => by
    obtain ⟨m1, m2⟩ := List.mem_filter.1 hx
    obtain ⟨e1, e2, e3⟩ := h1.el x m1
    exact ⟨e3, m2, e1, e2⟩) (hpw.filter _) (fun x hx q => by cases q)
  have hof : ofA (volL N.es) = ((0, 0), N2) := by
    unfold ofA volL
    rw [if_neg (by rw [List.length_map]; omega)]
    exact hN2
  obtain ⟨k1, k2, k3, k4⟩ := ofA_facts hof
  refine ⟨N2, hof, ?_⟩
  rw [k2]
  refine labG_same N.es id id 0 (Rl.id fun s hs => cons_sub hs2 hs) fun x hx hB => ?_
  have hm : volE x ∈ N2.es := by rw [k2]; exact List.mem_map.2 ⟨x, List.mem_filter.2 ⟨hx, hB⟩, rfl⟩
  obtain ⟨e1, e2, _⟩ := k1.el _ hm
  exact ⟨e1, e2⟩
theorem vol_ok {l : List Elm} {N : Ns} (ho : ofA l = ((0, 0), N)) : ∀ x ∈ volL N.es, x.ok := by
  obtain ⟨h1, h2, h3, h4⟩ := ofA_facts ho
  intro x hx
  obtain ⟨y, hy, rfl⟩ := List.mem_map.1 hx
  exact volE_ok (h1.el y (List.mem_filter.1 hy).1).2.2
theorem vol_none {es : List Elm} {n1 : List Nm} (h : volL es = []) : (labG wB n1 es id 0).2 = 0 := by
  have := labG_same (n1 := n1) (n2 := []) es id id 0 (fun s t hs _ => by cases hs) (fun x hx hB => by
    have : volE x ∈ volL es := List.mem_map.2 ⟨x, List.mem_filter.2 ⟨hx, hB⟩, rfl⟩
    rw [h] at this; cases this)
  rw [this]
  show (labG wJ [] (volL es) id 0).2 = 0
  rw [h]; rfl
end Go.Proofs.Ytcakfclfggnmbaa
