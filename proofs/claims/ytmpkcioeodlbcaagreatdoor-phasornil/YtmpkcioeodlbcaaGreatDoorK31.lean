/-
  Several texts in one: Goj Gok Gol Gom.
-/
import Derived.Test.YtmpkcioeodlbcaaGreatDoorK30
import Derived.Laws.CopyOwn
namespace Go.Proofs.YtmpkcioeodlbcaaGreatDoor
open Go.Maps Go.RowKit
set_option linter.unusedVariables false
set_option maxRecDepth 100000
theorem maskG (a : Nat) (ha : a < 18446744073709551616) : bits .and .u64 (a : Int) 4294967295 = ((a % 4294967296 : Nat) : Int) := by
  have h := bits_and_u64_nat a 4294967295 ha (by omega)
  have e : a &&& 4294967295 = a % 4294967296 := Nat.and_two_pow_sub_one_eq_mod a 32
  rw [e] at h
  exact h
theorem mul64_one (n : Nat) (hn : n ≤ 100000) (W : World) : Calls Tryz.prog 230 #[.int .u64 1, .int .u64 (n : Int)] W fun e w' => e = .returned (.tuple #[.int .u64 0, .int .u64 (n : Int)]) ∧ w' = W := by
  have h1 : bits BinOp.and IntKind.u64 1 4294967295 = 1 := by decide +kernel
  have h0 : bits BinOp.and IntKind.u64 0 4294967295 = 0 := by decide +kernel
  have h2 : bits BinOp.and IntKind.u64 (n : Int) 4294967295 = (n : Int) := by rw [maskG n (by omega), Nat.mod_eq_of_lt (by omega)]
  have h3 : (n : Int) / 4294967296 = 0 := by omega
  have w0 : IntKind.u64.wrap 0 = 0 := by decide +kernel
  have w1 : IntKind.u64.wrap (n : Int) = (n : Int) := by rw [IntKind.wrap_u64]; omega
  go_enter Tryz.func230, Tryz.ntmps230
  go_wp2_with fail
  go_ret2
  exact ⟨rfl, rfl⟩
theorem mul_oneN (n : Nat) (hn : n ≤ 100000) (W : World) : Calls Tryz.prog 206 #[.int .u64 1, .int .u64 (n : Int)] W fun e w' => e = .returned (.tuple #[.int .u64 0, .int .u64 (n : Int)]) ∧ w' = W := by
  have hm := mul64_one n hn
  go_enter Tryz.func206, Tryz.ntmps206
  go_wp2_with (go_at_call 230; (with_reducible refine (hm _).mono ?_); rintro e1 w1 ⟨rfl, rfl⟩)
  go_ret2
  exact ⟨rfl, rfl⟩
/-- a block of whole numbers -/
def Ib (w : World) (G : Nat) (st : List Int) : Prop := w.heap[G]? = some (.cells (st.map (Value.int .i64)).toArray 3 (0, 0))
theorem Tryz.infoIg : (Tryz.prog.info? 3).map (fun i => (i.zero, i.size, i.bytes)) = some (some (.int .i64 0), 1, 8) := by kernel_rfl
theorem Tryz.infoIh : (Tryz.prog.info? 3).map (·.size) = some 1 := by kernel_rfl
/-- m times -1, then noughts -/
def rpM (n m : Nat) : List Value := (List.replicate m (-1) ++ List.replicate (n - m) 0).map (Value.int .i64)
theorem rpM_len {n m : Nat} (h : m ≤ n) : (rpM n m).length = n := by simp [rpM]; omega
theorem rpM_get {n m : Nat} (h : m ≤ n) (i : Nat) : (rpM n m)[i]? = if i < n then some (.int .i64 (if i < m then -1 else 0)) else none := by
  unfold rpM
  rw [List.getElem?_map]
  by_cases h1 : i < m
  · rw [List.getElem?_append_left (by simp; omega), List.getElem?_replicate, if_pos h1, if_pos (by omega), if_pos h1]; rfl
  · rw [List.getElem?_append_right (by simp; omega), List.getElem?_replicate, List.length_replicate]
    by_cases h2 : i < n
    · rw [if_pos (by omega), if_pos h2, if_neg h1]; rfl
    · rw [if_neg (by omega), if_neg h2]; rfl
theorem rpM_splice {n m c : Nat} (h : m + c ≤ n) : splice (rpM n m) m (List.replicate c (.int .i64 (-1))) = rpM n (m + c) := by
  apply List.ext_getElem?
  intro i
  rw [rpM_get h]
  unfold splice
  rw [List.length_replicate]
  have hl := rpM_len (show m ≤ n by omega)
  by_cases h1 : i < m
  · rw [List.getElem?_append_left (by rw [List.length_take, hl]; omega), List.getElem?_take, if_pos h1, rpM_get (by omega), if_pos (by omega), if_pos h1, if_pos (by omega), if_pos (by omega)]
  · rw [List.getElem?_append_right (by rw [List.length_take, hl]; omega), List.length_take, hl, Nat.min_eq_left (by omega)]
    by_cases h2 : i < m + c
    · rw [List.getElem?_append_left (by rw [List.length_replicate]; omega), List.getElem?_replicate, if_pos (by omega), if_pos (by omega), if_pos h2]
    · rw [List.getElem?_append_right (by rw [List.length_replicate]; omega), List.getElem?_drop, List.length_replicate, show m + c + (i - m - c) = i by omega, rpM_get (by omega)]
      by_cases h3 : i < n
      · rw [if_pos h3, if_neg h1, if_pos h3, if_neg h2]
      · rw [if_neg h3, if_neg h3]
theorem made_blk {w : World} {base g n : Nat} {e : TypeId} {xs : List Value} (h : w.ownsRow base e 1 (.slice (some ⟨g, 0, none⟩) n n) n xs) : w.heap[g]? = some (.cells xs.toArray e (0, 0)) := by
  obtain ⟨h0, ⟨q, _⟩ | ⟨g2, cap, cur, q, _, h3, _, _, h5, h6⟩⟩ := h
  · cases q
  · cases q
    have e1 : cur.toList = xs := by
      rw [← h6]
      exact (List.take_of_length_le (by rw [Array.length_toList, h5]; omega)).symm
    rw [h3, ← e1]
theorem one_rep (c : Nat) : ∀ v ∈ List.replicate c (Value.int .i64 (-1)), v.oneCell' = true := fun v hv => by rw [List.eq_of_mem_replicate hv]; rfl
theorem mdz (n : Nat) : (madeCells (Value.int .i64 0).cells (n * 1)).toList = rpM n 0 := by
  rw [Nat.mul_one]
  show (madeCells #[Value.int .i64 0] n).toList = _
  rw [made_rep_Goh]; simp [rpM]
theorem one_src {w : World} {b : Nat} {x : Value} (h : w.cell? ⟨b, 0, none⟩ = some x) {j : Nat} {v : Value} (hj : (List.replicate 1 x)[j]? = some v) : w.cell? ((⟨b, 0, none⟩ : Addr).add j) = some v := by
  match j, hj with
  | 0, hj => cases hj; exact h
  | j + 1, hj => simp at hj
set_option maxHeartbeats 4000000 in
theorem repeat_any (w : World) (b n : Nat) (hn0 : 0 < n) (hn : n ≤ 100000) (hx : w.cell? ⟨b, 0, none⟩ = some (.int .i64 (-1))) :
    Calls Tryz.prog 172 #[.slice (some ⟨b, 0, none⟩) 1 1, .int .i64 (n : Int)] w fun e w' => ∃ G, e = .returned (.slice (some ⟨G, 0, none⟩) n n) ∧ Ib w' G (List.replicate n (-1)) ∧ w.heap.size ≤ G ∧ Below w.heap.size w w' := by
  have hm := mul_oneN n hn
  have hni : ¬ (n : Int) < 0 := by omega
  have hc1 : IntKind.u64.wrap 1 = 1 := by decide +kernel
  have hc2 : IntKind.u64.wrap (n : Int) = (n : Int) := by rw [IntKind.wrap_u64]; omega
  have hc3 : IntKind.i64.wrap (n : Int) = (n : Int) := by rw [IntKind.wrap_i64]; omega
  have hbig : ¬ (9223372036854775807 : Int) < (n : Int) := by omega
  obtain ⟨i0, hi, hz0, hz1, hz2⟩ := info_parts Tryz.infoIg
  have HX : Hid (∀ W, Below w.heap.size w W → W.cell? ⟨b, 0, none⟩ = some (.int .i64 (-1))) := fun W hW => (hW.cell (World.block_lt_of_cell? w _ hx)).trans hx
  go_enter Tryz.func172, Tryz.ntmps172
  go_wp2_with (first
    | (go_at_call 206; (with_reducible refine (hm _).mono ?_); rintro e1 w1 ⟨rfl, hw1⟩; (have hw2 := hw1.symm); clear hw1; subst hw2)
    | (at_make; (refine wpList_make_full _ rfl _ _ 160 rfl w.heap.size 3 i0 (.int .i64 0) 1 Tryz.underlying160 hi hz0 hz1 _ _ _ _ n rfl rfl rfl rfl (by rw [hz2]; omega) (by unfold maxLen; omega) (Nat.le_refl _) ?_); intro w2 hown hgrow; (rw [show (madeCells (Value.int .i64 0).cells (n * 1)).toList = rpM n 0 from mdz n] at hown); (have hcur := made_blk hown); (have HB2 : Below w.heap.size w w2 := ⟨hgrow.os, hgrow.tape, hgrow.output, hgrow.size, fun k hk => hgrow.block k hk (by simp)⟩); clear hown hgrow)
    | (refine wpList_copy_splice rfl _ _ _ _ rfl 3 Tryz.underlying160 Tryz.infoIh _ _ _ _ _ _ rfl rfl w.heap.size 0 (rpM n 0) _ hcur (List.replicate 1 (.int .i64 (-1))) (by rw [List.length_replicate]; exact (Nat.min_eq_left (by omega)).symm) (fun _ => ⟨rfl, _, rfl, fun j v hj => one_src (HX.out w2 HB2) hj⟩) (by rw [rpM_len (Nat.zero_le _)]; simp; omega) (one_rep 1) w.heap.size w HB2 (Nat.le_refl _) ?_; intro w3 hb3 B3; clear hcur HB2))
  obtain ⟨G, hG⟩ : ∃ G, w.heap.size = G := ⟨_, rfl⟩
  rw [rpM_splice (show 0 + 1 ≤ n by omega), hG] at hb3
  rw [hG] at B3 ⊢
  have HG : Hid (w.heap.size = G) := hG
  clear hG hm hi hz0 hz1 hz2 hc1 hc2 hc3 hbig hni
  go_loopw [8] (fun iv wr => ∃ (m : Nat), 1 ≤ m ∧ m ≤ n ∧ iv = .int .i64 m ∧ Hid (wr.heap[G]? = some (.cells (rpM n m).toArray 3 (0, 0)) ∧ Below G w wr)) (fun iv _ => n - (intOf iv).toNat)
  case atStart => exact ⟨1, by omega, by omega, rfl, hb3.out, B3⟩
  case round =>
    obtain ⟨m, hm1, hmn, rfl, HR⟩ := hrel
    clear hb3 B3
    by_cases hlt : m < n
    · have hli : (m : Int) < (n : Int) := by omega
      obtain ⟨c, hc⟩ : ∃ c, Nat.min m (n - m) = c := ⟨_, rfl⟩
      have hc2 : c ≤ m ∧ c ≤ n - m ∧ 1 ≤ c := by
        have h1 : c = min m (n - m) := hc.symm
        omega
      have hmi : (m : Int) ≤ (n : Int) := by omega
      have hcur := HR.out.1
      have HB : Hid (Below G w wr) := HR.out.2
      have HB2 : Hid (Below G w wr.drew) := HB.out.drew
      have hcurD : wr.drew.heap[G]? = some (.cells (rpM n m).toArray 3 (0, 0)) := hcur
      have HCD : Hid (wr.drew.heap[G]? = some (.cells (rpM n m).toArray 3 (0, 0))) := hcurD
      have HS : Hid (∀ j v, (List.replicate c (Value.int .i64 (-1)))[j]? = some v → wr.drew.cell? ((⟨G, 0, none⟩ : Addr).add j) = some v) := fun j v hj => by
        have hjc : j < c := by have := (List.getElem?_eq_some_iff.1 hj).1; simpa using this
        rw [List.getElem?_replicate, if_pos hjc] at hj
        cases hj
        rw [Addr.add_lit]
        have h5 : wr.cell? ⟨G, 0 + j, none⟩ = some (.int .i64 (-1)) := by
          rw [cell_of_row wr G _ _ _ (0, 0) hcur, Nat.zero_add, List.getElem?_toArray, rpM_get hmn, if_pos (by omega), if_pos (by omega)]
        exact h5
      have HC : Hid (Nat.min m (n - m) = c) := hc
      have hsub : ((n : Int) - (m : Int)) = ((n - m : Nat) : Int) := by omega
      have hnm : ¬ n = m := by omega
      obtain ⟨d, hd⟩ : ∃ d, n - m = d := ⟨_, rfl⟩
      have HD : Hid (n - m = d) := hd
      have hwr : IntKind.i64.wrap ((m : Int) + (c : Int)) = ((m + c : Nat) : Int) := by rw [IntKind.wrap_i64]; omega
      clear hc HR hcur hcurD
      go_wp2_with fail
      go_region_law
        (first | (refine step_copy_splice rfl _ _ 160 160 rfl 3 Tryz.underlying160 Tryz.infoIh (some ⟨G, m, none⟩) (some ⟨G, 0, none⟩) d d m n (by go_simp) (by go_simp) G m (rpM n m) 3 HCD.out (List.replicate c (.int .i64 (-1))) (by rw [List.length_replicate, ← HD.out]; exact HC.out.symm) (fun _ => ⟨rfl, _, rfl, HS.out⟩) (by rw [rpM_len hmn, List.length_replicate]; omega) (one_rep c) G w HB2.out (Nat.le_refl _) ?_; intro w4 hb4 B4))
      all_goals (rw [rpM_splice (show m + c ≤ n by omega)] at hb4)
      all_goals go_simp
      all_goals go_wp2_with fail
      all_goals go_roundw
      case rel => exact ⟨m + c, by omega, by omega, by go_num, hb4.out, B4⟩
      case measure => simp [intOf]; omega
    · have hmn2 : m = n := by omega
      subst hmn2
      have hnn : ¬ (m : Int) < (m : Int) := by omega
      go_wp2_with fail
      go_ret
      refine ⟨G, rfl, ?_, by rw [HG.out]; exact Nat.le_refl _, by rw [HG.out]; exact HR.out.2⟩
      have := HR.out.1
      unfold rpM at this
      rw [Nat.sub_self, List.replicate_zero, List.append_nil] at this
      exact this

end Go.Proofs.YtmpkcioeodlbcaaGreatDoor
namespace Go.Proofs.YtmpkcioeodlbcaaGreatDoor
open Go.Maps Go.RowKit
set_option linter.unusedVariables false
set_option maxRecDepth 100000
/-- what mark lays, node by node; none: it did not come to an end -/
def mkL (go : Nat → List Int → Option (List Int)) : List Tw → List Int → Option (List Int)
  | [], st => some st
  | t :: r, st => match st[t.2]? with
    | none => none
    | some v => if v = -1 then match go t.2 st with
      | none => none
      | some st' => mkL go r st'
      else mkL go r st
def mkF (tw : List (List Tw)) (c : Int) : Nat → Nat → List Int → Option (List Int)
  | 0, _, _ => none
  | f + 1, a, st => if a < st.length then match tw[a]? with
    | none => none
    | some ts => mkL (mkF tw c f) ts (st.set a c)
    else none
/-- while mark goes on -/
structure Mk (w : World) (L Q G fp n : Nat) (c : Int) (tw : List (List Tw)) (st : List Int) : Prop where
  cf : w.cell? ⟨L, 0, none⟩ = some (.pointer (some ⟨fp, 0, none⟩))
  ci : w.cell? ⟨Q, 0, none⟩ = some (.slice (some ⟨G, 0, none⟩) n n)
  cc : w.cell? ⟨Q + 1, 0, none⟩ = some (.int .i64 c)
  cm : w.cell? ⟨Q + 2, 0, none⟩ = some (.func (.func 173) #[] #[.pointer (some ⟨Q + 1, 0, none⟩), .pointer (some ⟨Q, 0, none⟩), .pointer (some ⟨L, 0, none⟩), .pointer (some ⟨Q + 2, 0, none⟩)])
  ib : Ib w G st
  len : st.length = n
  tw : TwR w fp L tw
  lG : L < G
  GQ : G < Q
  zc : w.frozen? ⟨Q + 1, 0, none⟩ = false
theorem Ib.lt {w : World} {G : Nat} {st : List Int} (h : Ib w G st) : G < w.heap.size := (Array.getElem?_eq_some_iff.1 h).1
/-- only the block G has turned -/
theorem Mk.turn {w w' : World} {L Q G fp n : Nat} {c : Int} {tw : List (List Tw)} {st st' : List Int} (h : Mk w L Q G fp n c tw st) (hg : w.grownBy w' (some G)) (hi : Ib w' G st') (hl : st'.length = n) : Mk w' L Q G fp n c tw st' := by
  have h1 := h.lG
  have h2 := h.GQ
  have hc : ∀ (a : Addr) (v : Value), a.block ≠ G → w.cell? a = some v → w'.cell? a = some v := fun a v q1 q2 => (World.cell?_of_block (hg.block a.block (World.block_lt_of_cell? w a q2) (by simpa using q1))).trans q2
  exact ⟨hc _ _ (by simp only; omega) h.cf, hc _ _ (by simp only; omega) h.ci, hc _ _ (by simp only; omega) h.cc, hc _ _ (by simp only; omega) h.cm, hi, hl, h.tw.kept ⟨hg.os, hg.tape, hg.output, hg.size, fun k hk => hg.block k (by have := World.block_lt_of_cell? w _ h.cf; simp at this; omega) (by simp; omega)⟩, h1, h2, (World.frozen?_of_block (a := ⟨Q + 1, 0, none⟩) (hg.block (Q + 1) (World.block_lt_of_cell? w _ h.cc) (by simp; omega))).trans h.zc⟩
theorem Ib.cell {w : World} {G : Nat} {st : List Int} (h : Ib w G st) {i : Nat} {v : Int} (hi : st[i]? = some v) : w.cell? ⟨G, i, none⟩ = some (.int .i64 v) := by
  rw [cell_of_row w G _ _ _ (0, 0) h, List.getElem?_toArray, List.getElem?_map, hi]; rfl
theorem Ib.set {w : World} {G : Nat} {st : List Int} (h : Ib w G st) (i : Nat) (v : Int) : Ib (w.setCell ⟨G, i, none⟩ (.int .i64 v)) G (st.set i v) := by
  have := heap_setCell_same w G i _ _ (.int .i64 v) h
  unfold Ib
  rw [this]
  simp
theorem gb_set {w : World} {G i : Nat} {u : Value} : w.grownBy (w.setCell ⟨G, i, none⟩ u) (some G) := grown_setN
theorem gb_trans {w w1 w2 : World} {G : Nat} (h : w.grownBy w1 (some G)) (h2 : w1.grownBy w2 (some G)) : w.grownBy w2 (some G) :=
  ⟨h2.os.trans h.os, h2.tape.trans h.tape, h2.output.trans h.output, Nat.le_trans h.size h2.size, fun k hk hne => (h2.block k (Nat.lt_of_lt_of_le hk h.size) hne).trans (h.block k hk hne)⟩
theorem gb_bel {w w1 : World} {G : Nat} (h : Below w.heap.size w w1) : w.grownBy w1 (some G) := ⟨h.os, h.tape, h.output, h.size, fun k hk _ => h.block k hk⟩
theorem gb_refl (w : World) (G : Nat) : w.grownBy w (some G) := ⟨rfl, rfl, rfl, Nat.le_refl _, fun _ _ _ => rfl⟩
set_option maxHeartbeats 4000000 in
theorem mark_any_Gok (L Q G fp n : Nat) (c : Int) (tw : List (List Tw)) (f : Nat) : ∀ (a : Nat) (st st' : List Int) (w : World), Mk w L Q G fp n c tw st → mkF tw c f a st = some st' →
    Calls Tryz.prog 173 #[.int .i64 (a : Int), .pointer (some ⟨Q + 1, 0, none⟩), .pointer (some ⟨Q, 0, none⟩), .pointer (some ⟨L, 0, none⟩), .pointer (some ⟨Q + 2, 0, none⟩)] w fun e w' => e = .returned (.tuple #[]) ∧ Mk w' L Q G fp n c tw st' ∧ w.grownBy w' (some G) := by
  induction f with
  | zero => intro a st st' w _ h; cases h
  | succ f ih =>
    intro a st st' w hS hr
    have HI : Hid (∀ (a : Nat) (st st' : List Int) (w : World), Mk w L Q G fp n c tw st → mkF tw c f a st = some st' →
      Calls Tryz.prog 173 #[.int .i64 (a : Int), .pointer (some ⟨Q + 1, 0, none⟩), .pointer (some ⟨Q, 0, none⟩), .pointer (some ⟨L, 0, none⟩), .pointer (some ⟨Q + 2, 0, none⟩)] w fun e w' => e = .returned (.tuple #[]) ∧ Mk w' L Q G fp n c tw st' ∧ w.grownBy w' (some G)) := ih
    clear ih
    unfold mkF at hr
    split at hr
    · rename_i hal
      cases hq : tw[a]? with
      | none => rw [hq] at hr; cases hr
      | some ts =>
        rw [hq] at hr
        have han : a < n := by have := hS.len; omega
        have hai : (a : Int) < (n : Int) := by omega
        have cc := hS.cc
        have ci := hS.ci
        have hzG : w.frozen? ⟨G, a, none⟩ = false := frozen_of_row w G a _ _ hS.ib
        obtain ⟨v0, hv0⟩ : ∃ v, st[a]? = some v := ⟨_, List.getElem?_eq_getElem hal⟩
        have cG := hS.ib.cell hv0
        have S1 := hS.turn (w' := w.setCell ⟨G, a, none⟩ (.int .i64 c)) gb_set (hS.ib.set a c) (by simp [hS.len])
        obtain ⟨w1, hw1⟩ : ∃ w1, w.setCell ⟨G, a, none⟩ (.int .i64 c) = w1 := ⟨_, rfl⟩
        rw [hw1] at S1
        have G1 : w.grownBy w1 (some G) := by rw [← hw1]; exact gb_set
        obtain ⟨BL, cap, c1, hBL, hts⟩ := S1.tw.r
        obtain ⟨u, cu, A, cA, rfl, hA⟩ := hts a ts hq
        have cf := S1.cf
        have hlt : a < tw.length := (List.getElem?_eq_some_iff.1 hq).1
        have hni := S1.tw.n
        have hti := S1.tw.t ts (List.mem_of_getElem? hq)
        obtain ⟨m, hm⟩ : ∃ m, ts.length = m := ⟨_, rfl⟩
        obtain ⟨nt, hnt⟩ : ∃ nt, tw.length = nt := ⟨_, rfl⟩
        rw [hnt] at c1 hlt hni
        rw [hm] at cu hti
        have hati : (a : Int) < (nt : Int) := by omega
        have HM : Hid (ts.length = m) := hm
        have HA : Hid _ := hA
        have HS1 : Hid (Mk w1 L Q G fp n c tw (st.set a c) ∧ w.grownBy w1 (some G)) := ⟨S1, G1⟩
        have HR : Hid (mkL (mkF tw c f) ts (st.set a c) = some st') := hr
        have HLG : Hid (L < G) := S1.lG
        clear hm hnt hA hts hr hS hq S1 G1
        go_enter Tryz.func173, Tryz.ntmps173
        go_wp2_with fail
        clear hw1 cG hzG hv0 cf
        go_loopw [20] (fun iv wr => ∃ (k : Nat) (s2 : List Int), k ≤ m ∧ iv = .int .i64 k ∧ Hid (Mk wr L Q G fp n c tw s2 ∧ w.grownBy wr (some G) ∧ w1.grownBy wr (some G)) ∧ Hid (mkL (mkF tw c f) (ts.drop k) s2 = some st')) (fun iv _ => m - (intOf iv).toNat)
        case atStart => exact ⟨0, _, Nat.zero_le _, rfl, ⟨HS1.out.1, HS1.out.2, gb_refl _ _⟩, HR.out⟩
        case round =>
          obtain ⟨k, s2, hle, rfl, HS2, HR2⟩ := hrel
          clear HR cc ci c1 cu
          by_cases hp4 : k < m
          · have hpk : (k : Int) < (m : Int) := by omega
            obtain ⟨⟨nm, far⟩, hx⟩ : ∃ t, ts[k]? = some t := ⟨_, List.getElem?_eq_getElem (by have := HM.out; omega)⟩
            obtain ⟨g, rfl, hg, hcs⟩ := HA.out.resolve_left (by intro e; rw [e] at hx; cases hx)
            obtain ⟨d0, d1⟩ := hcs k _ hx
            have hgG : g ≠ G := by have := HLG.out; omega
            have e0 := (HS2.out.2.2.cell_far ⟨g, k * 2, none⟩ (World.block_lt_of_cell? w1 _ d0) (by simpa using hgG)).trans d0
            have e1 := (HS2.out.2.2.cell_far ⟨g, k * 2 + 1, none⟩ (World.block_lt_of_cell? w1 _ d1) (by simpa using hgG)).trans d1
            have hdr : ts.drop k = (nm, far) :: ts.drop (k + 1) := (List.drop_eq_getElem_cons (by have := HM.out; omega)).trans (by rw [(List.getElem?_eq_some_iff.1 hx).2])
            have hr2 := HR2.out
            rw [hdr] at hr2
            unfold mkL at hr2
            cases hfv : s2[far]? with
            | none => simp only [hfv] at hr2; cases hr2
            | some vf =>
              simp only [hfv] at hr2
              have hfl : far < n := by have := (List.getElem?_eq_some_iff.1 hfv).1; have := HS2.out.1.len; omega
              have hfli : (far : Int) < (n : Int) := by omega
              obtain ⟨wa, hwa⟩ : ∃ wa, wr.alloc (.cells #[.string ⟨nm.toArray⟩, .int .i64 (far : Int)] 247) = wa := ⟨_, rfl⟩
              obtain ⟨q, hq⟩ : ∃ q, wr.heap.size = q := ⟨_, rfl⟩
              have BA : Below wr.heap.size wr wa := by rw [← hwa]; exact (Below.refl _ _).alloc (Nat.le_refl _) _
              have SA := HS2.out.1.turn (gb_bel BA) (by unfold Ib; rw [BA.block G HS2.out.1.ib.lt]; exact HS2.out.1.ib) HS2.out.1.len
              have ciA := SA.ci
              have cmA := SA.cm
              have cGf := SA.ib.cell hfv
              have t1 : wa.cell? ⟨q, 1, none⟩ = some (.int .i64 (far : Int)) := by rw [← hwa, ← hq]; exact World.cell?_alloc_new _ _ _ _
              have HSA : Hid (Mk wa L Q G fp n c tw s2 ∧ w.grownBy wa (some G) ∧ w1.grownBy wa (some G)) := ⟨SA, gb_trans HS2.out.2.1 (gb_bel BA), gb_trans HS2.out.2.2 (gb_bel BA)⟩
              clear SA BA HS2 d0 d1 hcs hdr hx hfv
              simp only [sv] at e0 e1
              by_cases hm1 : vf = -1
              · rw [if_pos hm1] at hr2
                subst hm1
                cases hq2 : mkF tw c f far s2 with
                | none => rw [hq2] at hr2; cases hr2
                | some s3 =>
                  rw [hq2] at hr2
                  have hcall := HI.out far s2 s3 wa HSA.out.1 hq2
                  have HR3 : Hid (mkL (mkF tw c f) (ts.drop (k + 1)) s3 = some st') := hr2
                  clear hr2 hq2
                  go_wp2_with fail
                  refine hcall.mono ?_
                  rintro e5 w5 ⟨rfl, S5, G5⟩
                  have HS5 : Hid (Mk w5 L Q G fp n c tw s3 ∧ w.grownBy w5 (some G) ∧ w1.grownBy w5 (some G)) := ⟨S5, gb_trans HSA.out.2.1 G5, gb_trans HSA.out.2.2 G5⟩
                  clear S5 G5 hcall
                  go_wp2_with fail
                  go_roundw
                  case rel => exact ⟨k + 1, s3, by omega, by go_num, HS5.out, HR3.out⟩
                  case measure => simp [intOf]; omega
              · rw [if_neg hm1] at hr2
                have HR3 : Hid (mkL (mkF tw c f) (ts.drop (k + 1)) s2 = some st') := hr2
                have hmb : (vf == -1) = false := by rw [beq_eq_false_iff_ne]; exact hm1
                clear hr2
                go_wp2_with fail
                go_roundw
                case rel => exact ⟨k + 1, s2, by omega, by go_num, HSA.out, HR3.out⟩
                case measure => simp [intOf]; omega
          · have hkm : k = m := by omega
            subst hkm
            have hss : s2 = st' := by
              have := HR2.out
              rw [List.drop_eq_nil_of_le (by have := HM.out; omega)] at this
              exact Option.some.inj this
            subst hss
            have hkk : ¬ ((k : Int) < (k : Int)) := by omega
            clear HR2
            go_wp2_with fail
            go_end0
            exact ⟨rfl, HS2.out.1, HS2.out.2.1⟩
    · cases hr

end Go.Proofs.YtmpkcioeodlbcaaGreatDoor
namespace Go.Proofs.YtmpkcioeodlbcaaGreatDoor
open Go.Maps Go.RowKit
set_option linter.unusedVariables false
set_option maxRecDepth 100000
/-- what parts lays, from node a on; r nodes are left, c parts are counted -/
def paF (f : Nat) (tw : List (List Tw)) : Nat → Nat → Nat → List Int → Option (List Int)
  | 0, _, _, st => some st
  | r + 1, a, c, st => match st[a]? with
    | none => none
    | some v => if v = -1 then match mkF tw (c : Int) f a st with
      | none => none
      | some st' => paF f tw r (a + 1) (c + 1) st'
      else paF f tw r (a + 1) c st
theorem Mk.count {w : World} {L Q G fp n : Nat} {c c' : Int} {tw : List (List Tw)} {st : List Int} (h : Mk w L Q G fp n c tw st) : Mk (w.setCell ⟨Q + 1, 0, none⟩ (.int .i64 c')) L Q G fp n c' tw st := by
  have h1 := h.lG
  have h2 := h.GQ
  have hc : ∀ (a : Addr) (v : Value), a.block ≠ Q + 1 → w.cell? a = some v → (w.setCell ⟨Q + 1, 0, none⟩ (.int .i64 c')).cell? a = some v := fun a v q1 q2 => (World.cell?_of_block (heap_setCell_other w ⟨Q + 1, 0, none⟩ a.block _ (by simpa using q1))).trans q2
  refine ⟨hc _ _ (by simp only; omega) h.cf, hc _ _ (by simp only; omega) h.ci, World.cell?_setCell_same w _ _ h.cc, hc _ _ (by simp only; omega) h.cm, ?_, h.len, h.tw.kept ⟨rfl, rfl, rfl, by simp [World.setCell], fun k hk => heap_setCell_other w ⟨Q + 1, 0, none⟩ k _ (by simp; omega)⟩, h1, h2, by rw [show (w.setCell ⟨Q + 1, 0, none⟩ (.int .i64 c')).frozen? ⟨Q + 1, 0, none⟩ = w.frozen? ⟨Q + 1, 0, none⟩ by simp]; exact h.zc⟩
  unfold Ib
  rw [heap_setCell_other w ⟨Q + 1, 0, none⟩ G _ (by simp; omega)]; exact h.ib
theorem mk_start (w1 : World) (L Q G fp n : Nat) (tw : List (List Tw)) (hQ : w1.heap.size = Q) (hLG : L < G) (hGQ : G < Q) (kL : w1.cell? ⟨L, 0, none⟩ = some (.pointer (some ⟨fp, 0, none⟩))) (ib : Ib w1 G (List.replicate n (-1))) (ht : TwR w1 fp L tw) :
    Mk (((w1.alloc (.cells #[.slice (some ⟨G, 0, none⟩) n n] 160)).alloc (.cells #[.int .i64 0] 3)).alloc (.cells #[.func (.func 173) #[] #[.pointer (some ⟨Q + 1, 0, none⟩), .pointer (some ⟨Q, 0, none⟩), .pointer (some ⟨L, 0, none⟩), .pointer (some ⟨Q + 2, 0, none⟩)]] 244)) L Q G fp n 0 tw (List.replicate n (-1)) ∧ Below Q w1 (((w1.alloc (.cells #[.slice (some ⟨G, 0, none⟩) n n] 160)).alloc (.cells #[.int .i64 0] 3)).alloc (.cells #[.func (.func 173) #[] #[.pointer (some ⟨Q + 1, 0, none⟩), .pointer (some ⟨Q, 0, none⟩), .pointer (some ⟨L, 0, none⟩), .pointer (some ⟨Q + 2, 0, none⟩)]] 244)) := by
  obtain ⟨w2, h2⟩ : ∃ w2, w2 = w1.alloc (.cells #[.slice (some ⟨G, 0, none⟩) n n] 160) := ⟨_, rfl⟩
  rw [← h2]
  obtain ⟨w3, h3⟩ : ∃ w3, w3 = w2.alloc (.cells #[.int .i64 0] 3) := ⟨_, rfl⟩
  rw [← h3]
  obtain ⟨w4, h4⟩ : ∃ w4, w4 = w3.alloc (.cells #[.func (.func 173) #[] #[.pointer (some ⟨Q + 1, 0, none⟩), .pointer (some ⟨Q, 0, none⟩), .pointer (some ⟨L, 0, none⟩), .pointer (some ⟨Q + 2, 0, none⟩)]] 244) := ⟨_, rfl⟩
  rw [← h4]
  have s2 : w2.heap.size = Q + 1 := by rw [h2, ← hQ]; simp
  have s3 : w3.heap.size = Q + 2 := by rw [h3]; simp [s2]
  have s4 : w4.heap.size = Q + 3 := by rw [h4]; simp [s3]
  have b2 : Below Q w1 w2 := by rw [h2]; exact (Below.refl _ _).alloc (by omega) _
  have b3 : Below (Q + 1) w2 w3 := by rw [h3]; exact (Below.refl _ _).alloc (by omega) _
  have b4 : Below (Q + 2) w3 w4 := by rw [h4]; exact (Below.refl _ _).alloc (by omega) _
  have k2 : w2.heap[Q]? = some (.cells #[.slice (some ⟨G, 0, none⟩) n n] 160 (0, 0)) := by rw [h2, ← hQ]; exact heap_alloc_new _ _
  have k3 : w3.heap[Q + 1]? = some (.cells #[.int .i64 0] 3 (0, 0)) := by rw [h3, ← s2]; exact heap_alloc_new _ _
  have k4 : w4.heap[Q + 2]? = some (.cells #[.func (.func 173) #[] #[.pointer (some ⟨Q + 1, 0, none⟩), .pointer (some ⟨Q, 0, none⟩), .pointer (some ⟨L, 0, none⟩), .pointer (some ⟨Q + 2, 0, none⟩)]] 244 (0, 0)) := by rw [h4]; have := heap_alloc_new w3 (.cells #[.func (.func 173) #[] #[.pointer (some ⟨Q + 1, 0, none⟩), .pointer (some ⟨Q, 0, none⟩), .pointer (some ⟨L, 0, none⟩), .pointer (some ⟨Q + 2, 0, none⟩)]] 244); rw [s3] at this; exact this
  have q2 : w4.heap[Q]? = some (.cells #[.slice (some ⟨G, 0, none⟩) n n] 160 (0, 0)) := by rw [b4.block _ (by omega), b3.block _ (by omega)]; exact k2
  have q3 : w4.heap[Q + 1]? = some (.cells #[.int .i64 0] 3 (0, 0)) := by rw [b4.block _ (by omega)]; exact k3
  have hB : Below Q w1 w4 := b2.trans ((b3.mono (by omega)).trans (b4.mono (by omega)))
  refine ⟨⟨(hB.cell (p := ⟨L, 0, none⟩) (by simp only; omega)).trans kL, by rw [cell_of_row w4 Q 0 _ _ (0, 0) q2]; rfl, by rw [cell_of_row w4 (Q + 1) 0 _ _ (0, 0) q3]; rfl, by rw [cell_of_row w4 (Q + 2) 0 _ _ (0, 0) k4]; rfl, ?_, by simp, ht.kept (hB.mono (by omega)), hLG, hGQ, frozen_of_row w4 (Q + 1) 0 _ _ q3⟩, hB⟩
  unfold Ib
  rw [hB.block G hGQ]; exact ib
set_option maxHeartbeats 4000000 in
theorem parts_any (w : World) (base fp f n : Nat) (F : Fr_God) (B : Fb) (st : List Int) (h : Fo w base fp F B) (hok : F.ok) (hnd : F.nd.length = n) (hn0 : 0 < n) (hn : n ≤ 10000) (hp : paF f F.tw n 0 0 (List.replicate n (-1)) = some st) :
    Calls Tryz.prog 133 #[.pointer (some ⟨fp, 0, none⟩)] w fun e w' => ∃ G, e = .returned (.slice (some ⟨G, 0, none⟩) n n) ∧ Ib w' G st ∧ st.length = n ∧ w.heap.size ≤ G ∧ Below w.heap.size w w' := by
  obtain ⟨L, hL⟩ : ∃ L, w.heap.size = L := ⟨_, rfl⟩
  obtain ⟨c0, c1, c2, c3⟩ := h.c
  obtain ⟨An, cn, hvn⟩ := row_slice h.nd
  rw [hvn, hnd] at c0
  have HT : Hid (TwR w fp L F.tw) := by rw [← hL]; exact h.twR hok
  have hfp : fp < w.heap.size := h.lt
  have HP : Hid _ := hp
  have HF : Hid _ := h
  clear h hp hok c1 c2 c3 hvn
  obtain ⟨wA, hwA⟩ : ∃ wA, (w.alloc (.cells #[.pointer (some ⟨fp, 0, none⟩)] 194)).alloc (.cells #[.int .i64 (-1)] 3) = wA := ⟨_, rfl⟩
  have hsA : wA.heap.size = L + 2 := by rw [← hwA, ← hL]; simp
  have bA : Below L w wA := by rw [← hwA]; exact ((Below.refl _ w).alloc (by omega) _).alloc (by simp; omega) _
  have kL : wA.cell? ⟨L, 0, none⟩ = some (.pointer (some ⟨fp, 0, none⟩)) := by
    rw [← hwA, World.cell?_alloc_lt _ _ _ (by simp; omega), ← hL]; exact World.cell?_alloc_new _ _ _ _
  have kL1 : wA.cell? ⟨L + 1, 0, none⟩ = some (.int .i64 (-1)) := by
    rw [← hwA]
    have := World.cell?_alloc_new (w.alloc (.cells #[.pointer (some ⟨fp, 0, none⟩)] 194)) #[.int .i64 (-1)] 3 0
    simpa [hL] using this
  have c0A : wA.cell? ⟨fp, 0, none⟩ = some (.slice An n cn) := (bA.cell (p := ⟨fp, 0, none⟩) (by simp only; omega)).trans c0
  have hrep := repeat_any wA (L + 1) n hn0 (by omega) kL1
  have HA : Hid (wA.heap.size = L + 2 ∧ Below L w wA) := ⟨hsA, bA⟩
  clear hsA bA kL1 c0
  go_enter Tryz.func133, Tryz.ntmps133
  go_wp2_with fail
  refine hrep.mono ?_
  rintro e1 w1 ⟨G, rfl, ib1, hG1, b1⟩
  obtain ⟨Q, hQ⟩ : ∃ Q, w1.heap.size = Q := ⟨_, rfl⟩
  have hA2 := HA.out.1
  have hst := mk_start w1 L Q G fp n F.tw hQ (by omega) (by have := ib1.lt; omega) ((b1.cell (World.block_lt_of_cell? wA _ kL)).trans kL) ib1 ((HT.out.kept HA.out.2).kept (b1.mono (by omega)))
  have B1 : Below L w w1 := HA.out.2.trans (b1.mono (by omega))
  have c0B : w1.cell? ⟨fp, 0, none⟩ = some (.slice An n cn) := (b1.cell (World.block_lt_of_cell? wA _ c0A)).trans c0A
  obtain ⟨W, hW⟩ : ∃ W, (((w1.alloc (.cells #[.slice (some ⟨G, 0, none⟩) n n] 160)).alloc (.cells #[.int .i64 0] 3)).alloc (.cells #[.func (.func 173) #[] #[.pointer (some ⟨Q + 1, 0, none⟩), .pointer (some ⟨Q, 0, none⟩), .pointer (some ⟨L, 0, none⟩), .pointer (some ⟨Q + 1 + 1, 0, none⟩)]] 244)) = W := ⟨_, rfl⟩
  have hSW : Mk W L Q G fp n 0 F.tw (List.replicate n (-1)) ∧ Below Q w1 W := by rw [← hW]; exact hst
  have cfW := hSW.1.cf
  have HS : Hid (Mk W L Q G fp n 0 F.tw (List.replicate n (-1)) ∧ Below Q w1 W) := hSW
  have hLQ : L + 2 ≤ Q := by have := b1.size; omega
  have HC0 : Hid (∀ W, Below L w W → W.cell? ⟨fp, 0, none⟩ = some (.slice An n cn) ∧ W.cell? ⟨fp, 0, none⟩ = w.cell? ⟨fp, 0, none⟩) := fun W hW => by
    have h1 := hW.cell (p := ⟨fp, 0, none⟩) (by simp only; omega)
    have h2 := B1.cell (p := ⟨fp, 0, none⟩) (by simp only; omega)
    exact ⟨by rw [h1, ← h2]; exact c0B, h1⟩
  have HB1 : Hid (Below L w w1) := B1
  have HGL : Hid (L ≤ G) := by show L ≤ G; omega
  have fpQ : fp < w1.heap.size := World.block_lt_of_cell? w1 _ c0B
  have kLQ : w1.cell? ⟨L, 0, none⟩ = some (.pointer (some ⟨fp, 0, none⟩)) := (b1.cell (World.block_lt_of_cell? wA _ kL)).trans kL
  have LQ1 : L < w1.heap.size := by omega
  have c0W : W.cell? ⟨fp, 0, none⟩ = some (.slice An n cn) := (hSW.2.cell (p := ⟨fp, 0, none⟩) (by simp only; omega)).trans c0B
  clear hrep hst b1 B1 hG1 ib1 hwA kL c0A hSW
  go_wp2_with fail
  clear hW
  go_loopw [20] (fun iv wr => ∃ (k c : Nat) (s2 : List Int), k ≤ n ∧ iv = .int .i64 k ∧ c ≤ k ∧ Hid (Mk wr L Q G fp n (c : Int) F.tw s2 ∧ Below L w wr) ∧ Hid (paF f F.tw (n - k) k c s2 = some st)) (fun iv _ => n - (intOf iv).toNat)
  case atStart => exact ⟨0, 0, _, Nat.zero_le _, rfl, Nat.le_refl _, ⟨HS.out.1, HB1.out.trans (HS.out.2.mono (by omega))⟩, HP.out⟩
  case round =>
    obtain ⟨k, c, s2, hle, rfl, hck, HM, HW⟩ := hrel
    clear HS kLQ c0B fpQ LQ1 c0W cfW
    by_cases hp4 : k < n
    · have hpk : (k : Int) < (n : Int) := by omega
      have ci := HM.out.1.ci
      have cm := HM.out.1.cm
      have cc := HM.out.1.cc
      have hW := HW.out
      rw [show n - k = (n - (k + 1)) + 1 by omega, paF] at hW
      cases hv : s2[k]? with
      | none => simp only [hv] at hW; cases hW
      | some v =>
        simp only [hv] at hW
        have cv := HM.out.1.ib.cell hv
        have hwc : IntKind.i64.wrap ((c : Int) + 1) = ((c + 1 : Nat) : Int) := by rw [IntKind.wrap_i64]; omega
        by_cases hm1 : v = -1
        · rw [if_pos hm1] at hW
          subst hm1
          cases hq : mkF F.tw (c : Int) f k s2 with
          | none => rw [hq] at hW; cases hW
          | some s3 =>
            rw [hq] at hW
            have hcall := mark_any_Gok L Q G fp n (c : Int) F.tw f k s2 s3 wr HM.out.1 hq
            have HW3 : Hid (paF f F.tw (n - (k + 1)) (k + 1) (c + 1) s3 = some st) := hW
            clear hW hq hv
            go_wp2_with fail
            refine hcall.mono ?_
            rintro e5 w5 ⟨rfl, S5, G5⟩
            have cc5 := S5.cc
            have HS5 : Hid (Mk w5 L Q G fp n (c : Int) F.tw s3 ∧ Below L w w5) := ⟨S5, HM.out.2.trans ⟨G5.os, G5.tape, G5.output, G5.size, fun j hj => G5.block j (by have := HM.out.2.size; omega) (by simp; have := HGL.out; omega)⟩⟩
            have z5 := S5.zc
            clear S5 G5 hcall
            go_wp2_with fail
            go_roundw
            case rel => exact ⟨k + 1, c + 1, s3, by omega, by go_num, by omega, ⟨HS5.out.1.count, HS5.out.2.trans ⟨rfl, rfl, rfl, by simp [World.setCell], fun j hj => heap_setCell_other w5 ⟨Q + 1, 0, none⟩ j _ (by simp; omega)⟩⟩, HW3.out⟩
            case measure => simp [intOf]; omega
        · rw [if_neg hm1] at hW
          have HW3 : Hid (paF f F.tw (n - (k + 1)) (k + 1) c s2 = some st) := hW
          have hmb : (v == -1) = false := by rw [beq_eq_false_iff_ne]; exact hm1
          clear hW hv
          go_wp2_with fail
          go_roundw
          case rel => exact ⟨k + 1, c, s2, by omega, by go_num, by omega, HM.out, HW3.out⟩
          case measure => simp [intOf]; omega
    · have hkn : k = n := by omega
      subst hkn
      have hkk : ¬ ((k : Int) < (k : Int)) := by omega
      have ci := HM.out.1.ci
      have hss : s2 = st := by
        have := HW.out
        rw [Nat.sub_self] at this
        exact Option.some.inj this
      subst hss
      clear HW
      go_wp2_with fail
      go_ret
      exact ⟨G, rfl, HM.out.1.ib, HM.out.1.len, HGL.out, HM.out.2⟩

end Go.Proofs.YtmpkcioeodlbcaaGreatDoor
namespace Go.Proofs.YtmpkcioeodlbcaaGreatDoor
open Go.Maps Go.RowKit
set_option linter.unusedVariables false
set_option maxRecDepth 100000
/-- the first node that is in another part than the ground -/
def grF : Nat → List Int → Int × Int
  | _, [] => (0, 0)
  | a, v :: t => if v ≠ 0 then (11, (a : Int) - 1) else grF (a + 1) t
theorem take_nd {F F' : Fr_God} {f : Nat} {nm : Nm} {a b : Nat} (h : F.take f nm a b = some F') : F'.nd = F.nd := by
  unfold Fr_God.take at h
  split at h
  · cases h
  · cases h; rfl
  · cases h; rfl
theorem growF_nd {f : Nat} {want : Nat → Bool} {nodes : List Nm} : ∀ {es : List Elm} {F F' : Fr_God}, growF f want nodes es F = some F' → F'.nd = F.nd := by
  intro es
  induction es with
  | nil => intro F F' hg; cases hg; rfl
  | cons x t ih =>
    intro F F' hg
    rw [growF] at hg
    split at hg
    · cases q : F.take f (bl x.n) (posL nodes (bl x.a)) (posL nodes (bl x.b)) with
      | none => rw [q] at hg; cases hg
      | some F2 => rw [q] at hg; rw [ih hg, take_nd q]
    · exact ih hg
theorem Gn.ndF {w : World} {p f : Nat} {N : Ns} {want : Nat → Bool} {F : Fr_God} (h : Gn w p f N want F) : F.nd = [48] :: N.nd := growF_nd h.g
/-- the parts of a net's forest -/
theorem parts_gn {w w1 : World} {p f fp : Nat} {N : Ns} {F : Fr_God} {B : Fb} {st : List Int} (h : Gn w p f N wJ F) (hF : Fo w1 w.heap.size fp F B) (hp : paF f F.tw (N.nd.length + 1) 0 0 (List.replicate (N.nd.length + 1) (-1)) = some st) :
    Calls Tryz.prog 133 #[.pointer (some ⟨fp, 0, none⟩)] w1 fun e w' => ∃ G, e = .returned (.slice (some ⟨G, 0, none⟩) (N.nd.length + 1) (N.nd.length + 1)) ∧ Ib w' G st ∧ st.length = N.nd.length + 1 ∧ w1.heap.size ≤ G ∧ Below w1.heap.size w1 w' := by
  have h1 := h.n1
  have h2 := h.ne
  exact parts_any w1 w.heap.size fp f (N.nd.length + 1) F B st hF (h.fit.ok (by omega) (by omega)) (by rw [h.ndF]; rfl) (by omega) (by omega) hp
set_option maxHeartbeats 4000000 in
theorem grounded_any {w : World} {p f : Nat} {N : Ns} {F : Fr_God} {st : List Int} (h : Gn w p f N wJ F) (hp : paF f F.tw (N.nd.length + 1) 0 0 (List.replicate (N.nd.length + 1) (-1)) = some st) : Calls Tryz.prog 100 #[.pointer (some ⟨p, 0, none⟩)] w fun e w' => e = .returned (.agg #[.int .i64 (grF 0 st).1, .int .i64 (grF 0 st).2]) ∧ Below w.heap.size w w' := by
  obtain ⟨L, hL⟩ : ∃ L, w.heap.size = L := ⟨_, rfl⟩
  obtain ⟨wA, hwA⟩ : ∃ wA, w.alloc (.cells #[.int .i64 0, .int .i64 0] 69) = wA := ⟨_, rfl⟩
  have bA : Below w.heap.size w wA := by rw [← hwA]; exact (Below.refl _ _).alloc (Nat.le_refl _) _
  have kA : wA.heap[L]? = some (.cells #[.int .i64 0, .int .i64 0] 69 (0, 0)) := by rw [← hwA, ← hL]; exact heap_alloc_new _ _
  have hA := h.below bA
  have hg := grow_j hA
  have hn1 := h.n1
  obtain ⟨n, hn⟩ : ∃ n, N.nd.length + 1 = n := ⟨_, rfl⟩
  have HA : Hid (Gn wA p f N wJ F ∧ Below w.heap.size w wA ∧ wA.heap[L]? = some (.cells #[.int .i64 0, .int .i64 0] 69 (0, 0)) ∧ L < wA.heap.size) := ⟨hA, bA, kA, (Array.getElem?_eq_some_iff.1 kA).1⟩
  have HP : Hid _ := hp
  clear hA bA kA h hp
  go_enter Tryz.func100, Tryz.ntmps100
  go_wp2_with fail
  refine hg.mono ?_
  rintro e1 w1 ⟨fp, B, rfl, hF, hb⟩
  have hpc := parts_gn HA.out.1 hF HP.out
  rw [hn] at hpc
  have HB1 : Hid (Below wA.heap.size wA w1) := hb
  clear hg hF hb hwA
  go_wp2_with fail
  refine hpc.mono ?_
  rintro e2 w2 ⟨G, rfl, ib, hlen, hGe, hb2⟩
  have k2 : w2.heap[L]? = some (.cells #[.int .i64 0, .int .i64 0] 69 (0, 0)) := by
    rw [hb2.block L (Nat.lt_of_lt_of_le HA.out.2.2.2 HB1.out.size), HB1.out.block L HA.out.2.2.2]; exact HA.out.2.2.1
  have HB2 : Hid (Below L w w2) := by
    rw [← hL]
    exact HA.out.2.1.trans ((HB1.out.mono HA.out.2.1.size).trans (hb2.mono (Nat.le_trans HA.out.2.1.size HB1.out.size)))
  have HIB : Hid (Ib w2 G st ∧ st.length = n) := ⟨ib, hlen⟩
  have HK2 : Hid _ := k2
  clear hpc ib hlen hb2 hGe k2
  go_wp2_with fail
  go_loopw [18] (fun iv wr => ∃ (k : Nat), k ≤ n ∧ iv = .int .i64 k ∧ wr = w2 ∧ Hid (grF k (st.drop k) = grF 0 st)) (fun iv _ => n - (intOf iv).toNat)
  case atStart => exact ⟨0, Nat.zero_le _, rfl, rfl, rfl⟩
  case round =>
    obtain ⟨k, hle, rfl, hwr, HW⟩ := hrel
    subst hwr
    obtain ⟨z0, z1, z2, z3⟩ := tw_c HK2.out
    by_cases hp4 : k < n
    · have hpk : (k : Int) < (n : Int) := by omega
      obtain ⟨v, hv⟩ : ∃ v, st[k]? = some v := ⟨_, List.getElem?_eq_getElem (by have := HIB.out.2; omega)⟩
      have cv := HIB.out.1.cell hv
      have hdr : st.drop k = v :: st.drop (k + 1) := (List.drop_eq_getElem_cons (by have := HIB.out.2; omega)).trans (by rw [(List.getElem?_eq_some_iff.1 hv).2])
      have hW := HW.out
      rw [hdr, grF] at hW
      clear hv hdr
      by_cases hv0 : v = 0
      · rw [if_neg (by simp [hv0])] at hW
        have HW2 : Hid (grF (k + 1) (st.drop (k + 1)) = grF 0 st) := hW
        have hvb : (v != 0) = false := by simp [hv0]
        clear hW
        go_wp2_with fail
        go_roundw
        case rel => exact ⟨k + 1, by omega, by go_num, by first | trivial | rfl, HW2.out⟩
        case measure => simp [intOf]; omega
      · rw [if_pos hv0] at hW
        have hvb : (v != 0) = true := by simp [hv0]
        have hwk : IntKind.i64.wrap ((k : Int) - 1) = (k : Int) - 1 := by rw [IntKind.wrap_i64]; omega
        obtain ⟨y0, y1⟩ := tw_set HK2.out (.int .i64 11) (.int .i64 ((k : Int) - 1))
        have HW2 : Hid (((11 : Int), (k : Int) - 1) = grF 0 st) := hW
        clear hW
        go_wp2_with fail
        (try simp only [Exit.inBlock, Exit.then])
        refine bodyPost_ret (by simp [results, Tryz.results100, go_sem, y0, y1]; try rfl) rfl ?_
        refine ⟨by rw [← HW2.out], ?_⟩
        first | exact tw_bel HB2.out (Nat.le_refl _) _ _ | (rw [hL]; exact tw_bel HB2.out (Nat.le_refl _) _ _)
    · have hkn : k = n := by omega
      subst hkn
      have hkk : ¬ ((k : Int) < (k : Int)) := by omega
      have HW2 : Hid (((0 : Int), (0 : Int)) = grF 0 st) := by
        have := HW.out
        rw [List.drop_eq_nil_of_le (by have := HIB.out.2; omega)] at this
        exact this
      obtain ⟨y0, y1⟩ := tw_set HK2.out (.int .i64 0) (.int .i64 0)
      clear HW
      go_wp2_with fail
      (try simp only [Exit.inBlock, Exit.then])
      refine bodyPost_ret (by simp [results, Tryz.results100, go_sem, y0, y1]; try rfl) rfl ?_
      refine ⟨by rw [← HW2.out], ?_⟩
      first | exact tw_bel HB2.out (Nat.le_refl _) _ _ | (rw [hL]; exact tw_bel HB2.out (Nat.le_refl _) _ _)

end Go.Proofs.YtmpkcioeodlbcaaGreatDoor
