/-
  Several texts in one: Goi Goj Gok.
-/
import Derived.Test.YtmpkcioeodlbcaaGreatDoorK28
import Derived.Laws.CopyOwn
namespace Go.Proofs.YtmpkcioeodlbcaaGreatDoor
open Go.Maps Go.RowKit
set_option linter.unusedVariables false
set_option maxRecDepth 100000
def wJ (k : Nat) : Bool := k == 1 || k == 2 || k == 3 || k == 5 || k == 7 || k == 8
theorem retB {a b : Bool} (h : a = b) : Ending.returned (.bool a) = .returned (.bool b) := by rw [h]
theorem joins_any (k : Nat) (W : World) : Calls Tryz.prog 132 #[.int .u8 (k : Int)] W fun e w' => e = .returned (.bool (wJ k)) ∧ w' = W := by
  go_enter Tryz.func132, Tryz.ntmps132
  go_wp2_with fail
  all_goals go_ret
  all_goals refine ⟨retB ?_, rfl⟩
  all_goals (unfold wJ; simp_all; try omega)
theorem ent_joins : EntG 132 := fun _ _ => by go_simp
/-- what is asked of a net that graph looks at; F: the forest of the elements that are wanted -/
structure Gn (w : World) (p f : Nat) (N : Ns) (want : Nat → Bool) (F : Fr_God) : Prop where
  nt : ∃ b0 b, Nt w b0 p N b
  nm : [] ∉ N.nm
  nd : ([48] :: N.nd).Nodup
  n1 : N.nd.length ≤ 1000
  ne : N.es.length ≤ 1000
  el : ∀ x ∈ N.es, ElN ([48] :: N.nd) x
  fu : f ≤ 10000
  g : growF f want ([48] :: N.nd) N.es (Fr_God.new ([48] :: N.nd)) = some F
  s : ∀ s ∈ N.nd, s.length ≤ 100000
theorem growF_fit {f : Nat} {want : Nat → Bool} {nodes : List Nm} {n : Nat} : ∀ {es : List Elm} {F F' : Fr_God} {i : Nat}, F.fit n i → growF f want nodes es F = some F' → F'.fit n (i + es.length) := by
  intro es
  induction es with
  | nil => intro F F' i h hg; cases hg; exact h
  | cons x t ih =>
    intro F F' i h hg
    rw [growF] at hg
    split at hg
    · cases q : F.take f (bl x.n) (posL nodes (bl x.a)) (posL nodes (bl x.b)) with
      | none => rw [q] at hg; cases hg
      | some F2 =>
        rw [q] at hg
        have := ih (h.take q) hg
        rw [List.length_cons, show i + (t.length + 1) = i + 1 + t.length by omega]; exact this
    · have := ih (h.mono (show i ≤ i + 1 by omega)) hg
      rw [List.length_cons, show i + (t.length + 1) = i + 1 + t.length by omega]; exact this
theorem Gn.fit {w : World} {p f : Nat} {N : Ns} {want : Nat → Bool} {F : Fr_God} (h : Gn w p f N want F) : F.fit (N.nd.length + 1) N.es.length := by
  have := growF_fit (Fr_God.fit.new ([48] :: N.nd)) h.g
  rw [Nat.zero_add] at this; exact this
theorem Gn.below {w w' : World} {p f : Nat} {N : Ns} {want : Nat → Bool} {F : Fr_God} (h : Gn w p f N want F) (hb : Below w.heap.size w w') : Gn w' p f N want F := by
  obtain ⟨b0, b, h1⟩ := h.nt
  exact ⟨⟨b0, b, h1.below hb⟩, h.nm, h.nd, h.n1, h.ne, h.el, h.fu, h.g, h.s⟩
theorem grow_j {w : World} {p f : Nat} {N : Ns} {F : Fr_God} (h : Gn w p f N wJ F) : Calls Tryz.prog 131 #[.pointer (some ⟨p, 0, none⟩), .func (.func 132) #[] #[]] w fun e w' => ∃ fp B', e = .returned (.tuple #[.pointer (some ⟨fp, 0, none⟩), .bool true]) ∧ Fo w' w.heap.size fp F B' ∧ Below w.heap.size w w' := by
  obtain ⟨b0, b, hN⟩ := h.nt
  exact grow_any _ _ ent_joins joins_any w b0 p f N b F hN h.nm h.nd h.n1 h.ne h.el h.fu h.g h.s
end Go.Proofs.YtmpkcioeodlbcaaGreatDoor
namespace Go.Proofs.YtmpkcioeodlbcaaGreatDoor
open Go.Maps Go.RowKit
set_option linter.unusedVariables false
set_option maxRecDepth 100000
theorem maskG (a : Nat) (ha : a < 18446744073709551616) : bits .and .u64 (a : Int) 4294967295 = ((a % 4294967296 : Nat) : Int) := by
  have h := bits_and_u64_nat a 4294967295 ha (by omega)
  have e : a &&& 4294967295 = a % 4294967296 := Nat.and_two_pow_sub_one_eq_mod a 32
  rw [e] at h
  exact h
theorem mul64_one (n : Nat) (hn : n ≤ 100000) (W : World) : Calls Tryz.prog 230 #[.int .u64 1, .int .u64 (n : Int)] W fun e w' => e = .returned (.tuple #[.int .u64 0, .int .u64 (n : Int)]) ∧ w' = W := by
  have h1 : bits BinOp.and IntKind.u64 1 4294967295 = 1 := by decide +kernel
  have h0 : bits BinOp.and IntKind.u64 0 4294967295 = 0 := by decide +kernel
  have h2 : bits BinOp.and IntKind.u64 (n : Int) 4294967295 = (n : Int) := by rw [maskG n (by omega), Nat.mod_eq_of_lt (by omega)]
  have h3 : (n : Int) / 4294967296 = 0 := by omega
  have w0 : IntKind.u64.wrap 0 = 0 := by decide +kernel
  have w1 : IntKind.u64.wrap (n : Int) = (n : Int) := by rw [IntKind.wrap_u64]; omega
  go_enter Tryz.func230, Tryz.ntmps230
  go_wp2_with fail
  go_ret2
  exact ⟨rfl, rfl⟩
theorem mul_oneN (n : Nat) (hn : n ≤ 100000) (W : World) : Calls Tryz.prog 206 #[.int .u64 1, .int .u64 (n : Int)] W fun e w' => e = .returned (.tuple #[.int .u64 0, .int .u64 (n : Int)]) ∧ w' = W := by
  have hm := mul64_one n hn
  go_enter Tryz.func206, Tryz.ntmps206
  go_wp2_with (go_at_call 230; (with_reducible refine (hm _).mono ?_); rintro e1 w1 ⟨rfl, rfl⟩)
  go_ret2
  exact ⟨rfl, rfl⟩
/-- a block of whole numbers -/
def Ib (w : World) (G : Nat) (st : List Int) : Prop := w.heap[G]? = some (.cells (st.map (Value.int .i64)).toArray 3 (0, 0))
theorem Tryz.infoIg : (Tryz.prog.info? 3).map (fun i => (i.zero, i.size, i.bytes)) = some (some (.int .i64 0), 1, 8) := by kernel_rfl
theorem Tryz.infoIh : (Tryz.prog.info? 3).map (·.size) = some 1 := by kernel_rfl
/-- m times -1, then noughts -/
def rpM (n m : Nat) : List Value := (List.replicate m (-1) ++ List.replicate (n - m) 0).map (Value.int .i64)
theorem rpM_len {n m : Nat} (h : m ≤ n) : (rpM n m).length = n := by simp [rpM]; omega
theorem rpM_get {n m : Nat} (h : m ≤ n) (i : Nat) : (rpM n m)[i]? = if i < n then some (.int .i64 (if i < m then -1 else 0)) else none := by
  unfold rpM
  rw [List.getElem?_map]
  by_cases h1 : i < m
  · rw [List.getElem?_append_left (by simp; omega), List.getElem?_replicate, if_pos h1, if_pos (by omega), if_pos h1]; rfl
  · rw [List.getElem?_append_right (by simp; omega), List.getElem?_replicate, List.length_replicate]
    by_cases h2 : i < n
    · rw [if_pos (by omega), if_pos h2, if_neg h1]; rfl
    · rw [if_neg (by omega), if_neg h2]; rfl
theorem rpM_splice {n m c : Nat} (h : m + c ≤ n) : splice (rpM n m) m (List.replicate c (.int .i64 (-1))) = rpM n (m + c) := by
  apply List.ext_getElem?
  intro i
  rw [rpM_get h]
  unfold splice
  rw [List.length_replicate]
  have hl := rpM_len (show m ≤ n by omega)
  by_cases h1 : i < m
  · rw [List.getElem?_append_left (by rw [List.length_take, hl]; omega), List.getElem?_take, if_pos h1, rpM_get (by omega), if_pos (by omega), if_pos h1, if_pos (by omega), if_pos (by omega)]
  · rw [List.getElem?_append_right (by rw [List.length_take, hl]; omega), List.length_take, hl, Nat.min_eq_left (by omega)]
    by_cases h2 : i < m + c
    · rw [List.getElem?_append_left (by rw [List.length_replicate]; omega), List.getElem?_replicate, if_pos (by omega), if_pos (by omega), if_pos h2]
    · rw [List.getElem?_append_right (by rw [List.length_replicate]; omega), List.getElem?_drop, List.length_replicate, show m + c + (i - m - c) = i by omega, rpM_get (by omega)]
      by_cases h3 : i < n
      · rw [if_pos h3, if_neg h1, if_pos h3, if_neg h2]
      · rw [if_neg h3, if_neg h3]
theorem made_blk {w : World} {base g n : Nat} {e : TypeId} {xs : List Value} (h : w.ownsRow base e 1 (.slice (some ⟨g, 0, none⟩) n n) n xs) : w.heap[g]? = some (.cells xs.toArray e (0, 0)) := by
  obtain ⟨h0, ⟨q, _⟩ | ⟨g2, cap, cur, q, _, h3, _, _, h5, h6⟩⟩ := h
  · cases q
  · cases q
    have e1 : cur.toList = xs := by
      rw [← h6]
      exact (List.take_of_length_le (by rw [Array.length_toList, h5]; omega)).symm
    rw [h3, ← e1]
theorem one_rep (c : Nat) : ∀ v ∈ List.replicate c (Value.int .i64 (-1)), v.oneCell' = true := fun v hv => by rw [List.eq_of_mem_replicate hv]; rfl
theorem mdz (n : Nat) : (madeCells (Value.int .i64 0).cells (n * 1)).toList = rpM n 0 := by
  rw [Nat.mul_one]
  show (madeCells #[Value.int .i64 0] n).toList = _
  rw [made_rep_Goh]; simp [rpM]
theorem one_src {w : World} {b : Nat} {x : Value} (h : w.cell? ⟨b, 0, none⟩ = some x) {j : Nat} {v : Value} (hj : (List.replicate 1 x)[j]? = some v) : w.cell? ((⟨b, 0, none⟩ : Addr).add j) = some v := by
  match j, hj with
  | 0, hj => cases hj; exact h
  | j + 1, hj => simp at hj
set_option maxHeartbeats 4000000 in
theorem repeat_any (w : World) (b n : Nat) (hn0 : 0 < n) (hn : n ≤ 100000) (hx : w.cell? ⟨b, 0, none⟩ = some (.int .i64 (-1))) :
    Calls Tryz.prog 172 #[.slice (some ⟨b, 0, none⟩) 1 1, .int .i64 (n : Int)] w fun e w' => ∃ G, e = .returned (.slice (some ⟨G, 0, none⟩) n n) ∧ Ib w' G (List.replicate n (-1)) ∧ w.heap.size ≤ G ∧ Below w.heap.size w w' := by
  have hm := mul_oneN n hn
  have hni : ¬ (n : Int) < 0 := by omega
  have hc1 : IntKind.u64.wrap 1 = 1 := by decide +kernel
  have hc2 : IntKind.u64.wrap (n : Int) = (n : Int) := by rw [IntKind.wrap_u64]; omega
  have hc3 : IntKind.i64.wrap (n : Int) = (n : Int) := by rw [IntKind.wrap_i64]; omega
  have hbig : ¬ (9223372036854775807 : Int) < (n : Int) := by omega
  obtain ⟨i0, hi, hz0, hz1, hz2⟩ := info_parts Tryz.infoIg
  have HX : Hid (∀ W, Below w.heap.size w W → W.cell? ⟨b, 0, none⟩ = some (.int .i64 (-1))) := fun W hW => (hW.cell (World.block_lt_of_cell? w _ hx)).trans hx
  go_enter Tryz.func172, Tryz.ntmps172
  go_wp2_with (first
    | (go_at_call 206; (with_reducible refine (hm _).mono ?_); rintro e1 w1 ⟨rfl, hw1⟩; (have hw2 := hw1.symm); clear hw1; subst hw2)
    | (at_make; (refine wpList_make_full _ rfl _ _ 160 rfl w.heap.size 3 i0 (.int .i64 0) 1 Tryz.underlying160 hi hz0 hz1 _ _ _ _ n rfl rfl rfl rfl (by rw [hz2]; omega) (by unfold maxLen; omega) (Nat.le_refl _) ?_); intro w2 hown hgrow; (rw [show (madeCells (Value.int .i64 0).cells (n * 1)).toList = rpM n 0 from mdz n] at hown); (have hcur := made_blk hown); (have HB2 : Below w.heap.size w w2 := ⟨hgrow.os, hgrow.tape, hgrow.output, hgrow.size, fun k hk => hgrow.block k hk (by simp)⟩); clear hown hgrow)
    | (refine wpList_copy_splice rfl _ _ _ _ rfl 3 Tryz.underlying160 Tryz.infoIh _ _ _ _ _ _ rfl rfl w.heap.size 0 (rpM n 0) _ hcur (List.replicate 1 (.int .i64 (-1))) (by rw [List.length_replicate]; exact (Nat.min_eq_left (by omega)).symm) (fun _ => ⟨rfl, _, rfl, fun j v hj => one_src (HX.out w2 HB2) hj⟩) (by rw [rpM_len (Nat.zero_le _)]; simp; omega) (one_rep 1) w.heap.size w HB2 (Nat.le_refl _) ?_; intro w3 hb3 B3; clear hcur HB2))
  obtain ⟨G, hG⟩ : ∃ G, w.heap.size = G := ⟨_, rfl⟩
  rw [rpM_splice (show 0 + 1 ≤ n by omega), hG] at hb3
  rw [hG] at B3 ⊢
  have HG : Hid (w.heap.size = G) := hG
  clear hG hm hi hz0 hz1 hz2 hc1 hc2 hc3 hbig hni
  go_loopw [8] (fun iv wr => ∃ (m : Nat), 1 ≤ m ∧ m ≤ n ∧ iv = .int .i64 m ∧ Hid (wr.heap[G]? = some (.cells (rpM n m).toArray 3 (0, 0)) ∧ Below G w wr)) (fun iv _ => n - (intOf iv).toNat)
  case atStart => exact ⟨1, by omega, by omega, rfl, hb3.out, B3⟩
  case round =>
    obtain ⟨m, hm1, hmn, rfl, HR⟩ := hrel
    clear hb3 B3
    by_cases hlt : m < n
    · have hli : (m : Int) < (n : Int) := by omega
      obtain ⟨c, hc⟩ : ∃ c, Nat.min m (n - m) = c := ⟨_, rfl⟩
      have hc2 : c ≤ m ∧ c ≤ n - m ∧ 1 ≤ c := by
        have h1 : c = min m (n - m) := hc.symm
        omega
      have hmi : (m : Int) ≤ (n : Int) := by omega
      have hcur := HR.out.1
      have HB : Hid (Below G w wr) := HR.out.2
      have HB2 : Hid (Below G w wr.drew) := HB.out.drew
      have hcurD : wr.drew.heap[G]? = some (.cells (rpM n m).toArray 3 (0, 0)) := hcur
      have HCD : Hid (wr.drew.heap[G]? = some (.cells (rpM n m).toArray 3 (0, 0))) := hcurD
      have HS : Hid (∀ j v, (List.replicate c (Value.int .i64 (-1)))[j]? = some v → wr.drew.cell? ((⟨G, 0, none⟩ : Addr).add j) = some v) := fun j v hj => by
        have hjc : j < c := by have := (List.getElem?_eq_some_iff.1 hj).1; simpa using this
        rw [List.getElem?_replicate, if_pos hjc] at hj
        cases hj
        rw [Addr.add_lit]
        have h5 : wr.cell? ⟨G, 0 + j, none⟩ = some (.int .i64 (-1)) := by
          rw [cell_of_row wr G _ _ _ (0, 0) hcur, Nat.zero_add, List.getElem?_toArray, rpM_get hmn, if_pos (by omega), if_pos (by omega)]
        exact h5
      have HC : Hid (Nat.min m (n - m) = c) := hc
      have hsub : ((n : Int) - (m : Int)) = ((n - m : Nat) : Int) := by omega
      have hnm : ¬ n = m := by omega
      obtain ⟨d, hd⟩ : ∃ d, n - m = d := ⟨_, rfl⟩
      have HD : Hid (n - m = d) := hd
      have hwr : IntKind.i64.wrap ((m : Int) + (c : Int)) = ((m + c : Nat) : Int) := by rw [IntKind.wrap_i64]; omega
      clear hc HR hcur hcurD
      go_wp2_with fail
      go_region_law
        (first | (refine step_copy_splice rfl _ _ 160 160 rfl 3 Tryz.underlying160 Tryz.infoIh (some ⟨G, m, none⟩) (some ⟨G, 0, none⟩) d d m n (by go_simp) (by go_simp) G m (rpM n m) 3 HCD.out (List.replicate c (.int .i64 (-1))) (by rw [List.length_replicate, ← HD.out]; exact HC.out.symm) (fun _ => ⟨rfl, _, rfl, HS.out⟩) (by rw [rpM_len hmn, List.length_replicate]; omega) (one_rep c) G w HB2.out (Nat.le_refl _) ?_; intro w4 hb4 B4))
      all_goals (rw [rpM_splice (show m + c ≤ n by omega)] at hb4)
      all_goals go_simp
      all_goals go_wp2_with fail
      all_goals go_roundw
      case rel => exact ⟨m + c, by omega, by omega, by go_num, hb4.out, B4⟩
      case measure => simp [intOf]; omega
    · have hmn2 : m = n := by omega
      subst hmn2
      have hnn : ¬ (m : Int) < (m : Int) := by omega
      go_wp2_with fail
      go_ret
      refine ⟨G, rfl, ?_, by rw [HG.out]; exact Nat.le_refl _, by rw [HG.out]; exact HR.out.2⟩
      have := HR.out.1
      unfold rpM at this
      rw [Nat.sub_self, List.replicate_zero, List.append_nil] at this
      exact this

end Go.Proofs.YtmpkcioeodlbcaaGreatDoor
namespace Go.Proofs.YtmpkcioeodlbcaaGreatDoor
open Go.Maps Go.RowKit
set_option linter.unusedVariables false
set_option maxRecDepth 100000
/-- what mark lays, node by node; none: it did not come to an end -/
def mkL (go : Nat → List Int → Option (List Int)) : List Tw → List Int → Option (List Int)
  | [], st => some st
  | t :: r, st => match st[t.2]? with
    | none => none
    | some v => if v = -1 then match go t.2 st with
      | none => none
      | some st' => mkL go r st'
      else mkL go r st
def mkF (tw : List (List Tw)) (c : Int) : Nat → Nat → List Int → Option (List Int)
  | 0, _, _ => none
  | f + 1, a, st => if a < st.length then match tw[a]? with
    | none => none
    | some ts => mkL (mkF tw c f) ts (st.set a c)
    else none
/-- while mark goes on -/
structure Mk (w : World) (L Q G fp n : Nat) (c : Int) (tw : List (List Tw)) (st : List Int) : Prop where
  cf : w.cell? ⟨L, 0, none⟩ = some (.pointer (some ⟨fp, 0, none⟩))
  ci : w.cell? ⟨Q, 0, none⟩ = some (.slice (some ⟨G, 0, none⟩) n n)
  cc : w.cell? ⟨Q + 1, 0, none⟩ = some (.int .i64 c)
  cm : w.cell? ⟨Q + 2, 0, none⟩ = some (.func (.func 173) #[] #[.pointer (some ⟨Q + 1, 0, none⟩), .pointer (some ⟨Q, 0, none⟩), .pointer (some ⟨L, 0, none⟩), .pointer (some ⟨Q + 2, 0, none⟩)])
  ib : Ib w G st
  len : st.length = n
  tw : TwR w fp L tw
  lG : L < G
  GQ : G < Q
  zc : w.frozen? ⟨Q + 1, 0, none⟩ = false
theorem Ib.lt {w : World} {G : Nat} {st : List Int} (h : Ib w G st) : G < w.heap.size := (Array.getElem?_eq_some_iff.1 h).1
/-- only the block G has turned -/
theorem Mk.turn {w w' : World} {L Q G fp n : Nat} {c : Int} {tw : List (List Tw)} {st st' : List Int} (h : Mk w L Q G fp n c tw st) (hg : w.grownBy w' (some G)) (hi : Ib w' G st') (hl : st'.length = n) : Mk w' L Q G fp n c tw st' := by
  have h1 := h.lG
  have h2 := h.GQ
  have hc : ∀ (a : Addr) (v : Value), a.block ≠ G → w.cell? a = some v → w'.cell? a = some v := fun a v q1 q2 => (World.cell?_of_block (hg.block a.block (World.block_lt_of_cell? w a q2) (by simpa using q1))).trans q2
  exact ⟨hc _ _ (by simp only; omega) h.cf, hc _ _ (by simp only; omega) h.ci, hc _ _ (by simp only; omega) h.cc, hc _ _ (by simp only; omega) h.cm, hi, hl, h.tw.kept ⟨hg.os, hg.tape, hg.output, hg.size, fun k hk => hg.block k (by have := World.block_lt_of_cell? w _ h.cf; simp at this; omega) (by simp; omega)⟩, h1, h2, (World.frozen?_of_block (a := ⟨Q + 1, 0, none⟩) (hg.block (Q + 1) (World.block_lt_of_cell? w _ h.cc) (by simp; omega))).trans h.zc⟩
theorem Ib.cell {w : World} {G : Nat} {st : List Int} (h : Ib w G st) {i : Nat} {v : Int} (hi : st[i]? = some v) : w.cell? ⟨G, i, none⟩ = some (.int .i64 v) := by
  rw [cell_of_row w G _ _ _ (0, 0) h, List.getElem?_toArray, List.getElem?_map, hi]; rfl
theorem Ib.set {w : World} {G : Nat} {st : List Int} (h : Ib w G st) (i : Nat) (v : Int) : Ib (w.setCell ⟨G, i, none⟩ (.int .i64 v)) G (st.set i v) := by
  have := heap_setCell_same w G i _ _ (.int .i64 v) h
  unfold Ib
  rw [this]
  simp
theorem gb_set {w : World} {G i : Nat} {u : Value} : w.grownBy (w.setCell ⟨G, i, none⟩ u) (some G) := grown_setN
theorem gb_trans {w w1 w2 : World} {G : Nat} (h : w.grownBy w1 (some G)) (h2 : w1.grownBy w2 (some G)) : w.grownBy w2 (some G) :=
  ⟨h2.os.trans h.os, h2.tape.trans h.tape, h2.output.trans h.output, Nat.le_trans h.size h2.size, fun k hk hne => (h2.block k (Nat.lt_of_lt_of_le hk h.size) hne).trans (h.block k hk hne)⟩
theorem gb_bel {w w1 : World} {G : Nat} (h : Below w.heap.size w w1) : w.grownBy w1 (some G) := ⟨h.os, h.tape, h.output, h.size, fun k hk _ => h.block k hk⟩
theorem gb_refl (w : World) (G : Nat) : w.grownBy w (some G) := ⟨rfl, rfl, rfl, Nat.le_refl _, fun _ _ _ => rfl⟩
set_option maxHeartbeats 4000000 in
theorem mark_any_Gok (L Q G fp n : Nat) (c : Int) (tw : List (List Tw)) (f : Nat) : ∀ (a : Nat) (st st' : List Int) (w : World), Mk w L Q G fp n c tw st → mkF tw c f a st = some st' →
    Calls Tryz.prog 173 #[.int .i64 (a : Int), .pointer (some ⟨Q + 1, 0, none⟩), .pointer (some ⟨Q, 0, none⟩), .pointer (some ⟨L, 0, none⟩), .pointer (some ⟨Q + 2, 0, none⟩)] w fun e w' => e = .returned (.tuple #[]) ∧ Mk w' L Q G fp n c tw st' ∧ w.grownBy w' (some G) := by
  induction f with
  | zero => intro a st st' w _ h; cases h
  | succ f ih =>
    intro a st st' w hS hr
    have HI : Hid (∀ (a : Nat) (st st' : List Int) (w : World), Mk w L Q G fp n c tw st → mkF tw c f a st = some st' →
      Calls Tryz.prog 173 #[.int .i64 (a : Int), .pointer (some ⟨Q + 1, 0, none⟩), .pointer (some ⟨Q, 0, none⟩), .pointer (some ⟨L, 0, none⟩), .pointer (some ⟨Q + 2, 0, none⟩)] w fun e w' => e = .returned (.tuple #[]) ∧ Mk w' L Q G fp n c tw st' ∧ w.grownBy w' (some G)) := ih
    clear ih
    unfold mkF at hr
    split at hr
    · rename_i hal
      cases hq : tw[a]? with
      | none => rw [hq] at hr; cases hr
      | some ts =>
        rw [hq] at hr
        have han : a < n := by have := hS.len; omega
        have hai : (a : Int) < (n : Int) := by omega
        have cc := hS.cc
        have ci := hS.ci
        have hzG : w.frozen? ⟨G, a, none⟩ = false := frozen_of_row w G a _ _ hS.ib
        obtain ⟨v0, hv0⟩ : ∃ v, st[a]? = some v := ⟨_, List.getElem?_eq_getElem hal⟩
        have cG := hS.ib.cell hv0
        have S1 := hS.turn (w' := w.setCell ⟨G, a, none⟩ (.int .i64 c)) gb_set (hS.ib.set a c) (by simp [hS.len])
        obtain ⟨w1, hw1⟩ : ∃ w1, w.setCell ⟨G, a, none⟩ (.int .i64 c) = w1 := ⟨_, rfl⟩
        rw [hw1] at S1
        have G1 : w.grownBy w1 (some G) := by rw [← hw1]; exact gb_set
        obtain ⟨BL, cap, c1, hBL, hts⟩ := S1.tw.r
        obtain ⟨u, cu, A, cA, rfl, hA⟩ := hts a ts hq
        have cf := S1.cf
        have hlt : a < tw.length := (List.getElem?_eq_some_iff.1 hq).1
        have hni := S1.tw.n
        have hti := S1.tw.t ts (List.mem_of_getElem? hq)
        obtain ⟨m, hm⟩ : ∃ m, ts.length = m := ⟨_, rfl⟩
        obtain ⟨nt, hnt⟩ : ∃ nt, tw.length = nt := ⟨_, rfl⟩
        rw [hnt] at c1 hlt hni
        rw [hm] at cu hti
        have hati : (a : Int) < (nt : Int) := by omega
        have HM : Hid (ts.length = m) := hm
        have HA : Hid _ := hA
        have HS1 : Hid (Mk w1 L Q G fp n c tw (st.set a c) ∧ w.grownBy w1 (some G)) := ⟨S1, G1⟩
        have HR : Hid (mkL (mkF tw c f) ts (st.set a c) = some st') := hr
        have HLG : Hid (L < G) := S1.lG
        clear hm hnt hA hts hr hS hq S1 G1
        go_enter Tryz.func173, Tryz.ntmps173
        go_wp2_with fail
        clear hw1 cG hzG hv0 cf
        go_loopw [20] (fun iv wr => ∃ (k : Nat) (s2 : List Int), k ≤ m ∧ iv = .int .i64 k ∧ Hid (Mk wr L Q G fp n c tw s2 ∧ w.grownBy wr (some G) ∧ w1.grownBy wr (some G)) ∧ Hid (mkL (mkF tw c f) (ts.drop k) s2 = some st')) (fun iv _ => m - (intOf iv).toNat)
        case atStart => exact ⟨0, _, Nat.zero_le _, rfl, ⟨HS1.out.1, HS1.out.2, gb_refl _ _⟩, HR.out⟩
        case round =>
          obtain ⟨k, s2, hle, rfl, HS2, HR2⟩ := hrel
          clear HR cc ci c1 cu
          by_cases hp4 : k < m
          · have hpk : (k : Int) < (m : Int) := by omega
            obtain ⟨⟨nm, far⟩, hx⟩ : ∃ t, ts[k]? = some t := ⟨_, List.getElem?_eq_getElem (by have := HM.out; omega)⟩
            obtain ⟨g, rfl, hg, hcs⟩ := HA.out.resolve_left (by intro e; rw [e] at hx; cases hx)
            obtain ⟨d0, d1⟩ := hcs k _ hx
            have hgG : g ≠ G := by have := HLG.out; omega
            have e0 := (HS2.out.2.2.cell_far ⟨g, k * 2, none⟩ (World.block_lt_of_cell? w1 _ d0) (by simpa using hgG)).trans d0
            have e1 := (HS2.out.2.2.cell_far ⟨g, k * 2 + 1, none⟩ (World.block_lt_of_cell? w1 _ d1) (by simpa using hgG)).trans d1
            have hdr : ts.drop k = (nm, far) :: ts.drop (k + 1) := (List.drop_eq_getElem_cons (by have := HM.out; omega)).trans (by rw [(List.getElem?_eq_some_iff.1 hx).2])
            have hr2 := HR2.out
            rw [hdr] at hr2
            unfold mkL at hr2
            cases hfv : s2[far]? with
            | none => simp only [hfv] at hr2; cases hr2
            | some vf =>
              simp only [hfv] at hr2
              have hfl : far < n := by have := (List.getElem?_eq_some_iff.1 hfv).1; have := HS2.out.1.len; omega
              have hfli : (far : Int) < (n : Int) := by omega
              obtain ⟨wa, hwa⟩ : ∃ wa, wr.alloc (.cells #[.string ⟨nm.toArray⟩, .int .i64 (far : Int)] 247) = wa := ⟨_, rfl⟩
              obtain ⟨q, hq⟩ : ∃ q, wr.heap.size = q := ⟨_, rfl⟩
              have BA : Below wr.heap.size wr wa := by rw [← hwa]; exact (Below.refl _ _).alloc (Nat.le_refl _) _
              have SA := HS2.out.1.turn (gb_bel BA) (by unfold Ib; rw [BA.block G HS2.out.1.ib.lt]; exact HS2.out.1.ib) HS2.out.1.len
              have ciA := SA.ci
              have cmA := SA.cm
              have cGf := SA.ib.cell hfv
              have t1 : wa.cell? ⟨q, 1, none⟩ = some (.int .i64 (far : Int)) := by rw [← hwa, ← hq]; exact World.cell?_alloc_new _ _ _ _
              have HSA : Hid (Mk wa L Q G fp n c tw s2 ∧ w.grownBy wa (some G) ∧ w1.grownBy wa (some G)) := ⟨SA, gb_trans HS2.out.2.1 (gb_bel BA), gb_trans HS2.out.2.2 (gb_bel BA)⟩
              clear SA BA HS2 d0 d1 hcs hdr hx hfv
              simp only [sv] at e0 e1
              by_cases hm1 : vf = -1
              · rw [if_pos hm1] at hr2
                subst hm1
                cases hq2 : mkF tw c f far s2 with
                | none => rw [hq2] at hr2; cases hr2
                | some s3 =>
                  rw [hq2] at hr2
                  have hcall := HI.out far s2 s3 wa HSA.out.1 hq2
                  have HR3 : Hid (mkL (mkF tw c f) (ts.drop (k + 1)) s3 = some st') := hr2
                  clear hr2 hq2
                  go_wp2_with fail
                  refine hcall.mono ?_
                  rintro e5 w5 ⟨rfl, S5, G5⟩
                  have HS5 : Hid (Mk w5 L Q G fp n c tw s3 ∧ w.grownBy w5 (some G) ∧ w1.grownBy w5 (some G)) := ⟨S5, gb_trans HSA.out.2.1 G5, gb_trans HSA.out.2.2 G5⟩
                  clear S5 G5 hcall
                  go_wp2_with fail
                  go_roundw
                  case rel => exact ⟨k + 1, s3, by omega, by go_num, HS5.out, HR3.out⟩
                  case measure => simp [intOf]; omega
              · rw [if_neg hm1] at hr2
                have HR3 : Hid (mkL (mkF tw c f) (ts.drop (k + 1)) s2 = some st') := hr2
                have hmb : (vf == -1) = false := by rw [beq_eq_false_iff_ne]; exact hm1
                clear hr2
                go_wp2_with fail
                go_roundw
                case rel => exact ⟨k + 1, s2, by omega, by go_num, HSA.out, HR3.out⟩
                case measure => simp [intOf]; omega
          · have hkm : k = m := by omega
            subst hkm
            have hss : s2 = st' := by
              have := HR2.out
              rw [List.drop_eq_nil_of_le (by have := HM.out; omega)] at this
              exact Option.some.inj this
            subst hss
            have hkk : ¬ ((k : Int) < (k : Int)) := by omega
            clear HR2
            go_wp2_with fail
            go_end0
            exact ⟨rfl, HS2.out.1, HS2.out.2.1⟩
    · cases hr

end Go.Proofs.YtmpkcioeodlbcaaGreatDoor
