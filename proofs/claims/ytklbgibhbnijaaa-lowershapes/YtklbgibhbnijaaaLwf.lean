/-
  What lower's begun hands back.
-/
import Derived.Test.YtklbgibhbnijaaaLwd
import Derived.Test.YtklbgibhbnijaaaLwe
import Derived.Test.YtklbgibhbnijaaaBnb
import Derived.Deep.RegionHeldLaw
import Derived.Deep.RegionLaw
namespace Go.Proofs.Ytklbgibhbnijaaa
open Fl RowKit

theorem Try.infoSl : (Try.prog.info? 24).map (fun i => (i.zero, i.size, i.bytes)) = some (some (.slice none 0 0), 1, 24) := by kernel_rfl
theorem Try.infoCs : (Try.prog.info? 52).map (·.size) = some 1 := by kernel_rfl
theorem run_mkS (n : Nat) (hn : n ≤ 65536) (w : World) : (Instr.makeSlice 38 (.int .i64 (n : Int)) (.int .i64 (n : Int))).run Try.prog w = .ok (.slice (some ⟨w.heap.size, 0, none⟩) n n) (w.alloc (.cells (madeCells #[.slice none 0 0] n) 24)) := by
  obtain ⟨i0, hi, hz0, hz1, hz2⟩ := info_parts Try.infoSl
  have h := run_make (P := Try.prog) w 38 24 i0 (.slice none 0 0) Try.underlying38 hi hz0 .i64 .i64 n n (by omega) (Int.le_refl _) (by rw [hz2]; omega) (by omega)
  simp only [Int.toNat_natCast, hz1, Nat.mul_one] at h
  exact h
theorem run_mkI (n : Nat) (hn : n ≤ 65536) (w : World) : (Instr.makeSlice 31 (.int .i64 (n : Int)) (.int .i64 (n : Int))).run Try.prog w = .ok (.slice (some ⟨w.heap.size, 0, none⟩) n n) (w.alloc (.cells (madeCells #[.int .i64 0] n) 3)) := by
  obtain ⟨i0, hi, hz0, hz1, hz2⟩ := info_parts Try.infoI
  have h := run_make (P := Try.prog) w 31 3 i0 (.int .i64 0) Try.underlying31 hi hz0 .i64 .i64 n n (by omega) (Int.le_refl _) (by rw [hz2]; omega) (by omega)
  simp only [Int.toNat_natCast, hz1, Nat.mul_one] at h
  exact h
theorem made_rep (n : Nat) (v : Value) : (madeCells #[v] n) = ((List.range n).map (fun _ => v)).toArray := by
  apply Array.ext'
  apply List.ext_getElem?
  intro i
  simp only [madeCells, Array.toList_map, List.getElem?_map, Array.toList_range]
  by_cases hi : i < n
  · simp [hi, Nat.mod_one]
  · simp [hi]
theorem own_made {w : World} {b g n : Nat} {e : TypeId} {xs : List Value} (hn : xs.length = n) (hm : n ≤ maxLen) (hb : b ≤ g) (h : w.heap[g]? = some (.cells xs.toArray e (0, 0))) : w.ownsRow b e 1 (.slice (some ⟨g, 0, none⟩) n n) n xs := by
  refine ⟨by simp [hn], .inr ⟨g, n, _, rfl, hb, h, Nat.le_refl _, hm, by simp [hn], ?_⟩⟩
  rw [List.toList_toArray, Nat.mul_one]
  exact List.take_of_length_le (by omega)
/-- a Lower under way: i rows are made -/
structure Bg (w : World) (b p n gr go i : Nat) (bl : Nat → Nat) (M : Nat → Nat → Cw) : Prop where
  v : V3 p (.slice (some ⟨gr, 0, none⟩) n n) (.slice (some ⟨go, 0, none⟩) n n) (.int .i64 1) w
  rows : w.ownsRow b 24 1 (.slice (some ⟨gr, 0, none⟩) n n) n ((List.range n).map fun j => if j < i then .slice (some ⟨bl j, 0, none⟩) n n else .slice none 0 0)
  row : ∀ j, j < i → Rw w b (.slice (some ⟨bl j, 0, none⟩) n n) n (ro n (M j))
  ord : Ir w b (.slice (some ⟨go, 0, none⟩) n n) n (ri n (fun j => if j < i then j else 0))
  ge : b ≤ p
  inj : ∀ j k, j < i → k < i → bl j = bl k → j = k
  ap : ∀ j, j < i → bl j ≠ p ∧ bl j ≠ gr ∧ bl j ≠ go
  ap2 : gr ≠ p ∧ go ≠ p ∧ gr ≠ go
theorem Bg.done {w : World} {b p n gr go : Nat} {bl : Nat → Nat} {M : Nat → Nat → Cw} (h : Bg w b p n gr go n bl M) : Lo w b p n gr go bl M (fun i => i) 1 := by
  have e1 : ((List.range n).map fun j => if j < n then (Value.slice (some ⟨bl j, 0, none⟩) n n) else .slice none 0 0) = (List.range n).map fun j => .slice (some ⟨bl j, 0, none⟩) n n :=
    List.map_congr_left (fun j hj => if_pos (List.mem_range.1 hj))
  have e2 : ri n (fun j => if j < n then j else 0) = ri n (fun j => j) := ri_congr (fun j hj => if_pos hj)
  exact ⟨h.v, by rw [← e1]; exact h.rows, h.row, by rw [← e2]; exact h.ord, h.ge, h.inj, h.ap, h.ap2⟩
theorem al_new (w : World) (o : Obj) : (w.alloc o).heap[w.heap.size]? = some o := heap_alloc_new w o
theorem al_old {w : World} {g : Nat} (o : Obj) (h : g < w.heap.size) : (w.alloc o).heap[g]? = w.heap[g]? := heap_alloc_old w o h
theorem bg0 {W w' : World} {b n gr go : Nat} {bl : Nat → Nat} {M : Nat → Nat → Cw} (hb : b ≤ gr) (hb2 : b ≤ go) (hne : gr ≠ go) (h1 : gr < W.heap.size) (h2 : go < W.heap.size) (hm : n ≤ 64)
    (hr : W.heap[gr]? = some (.cells (madeCells #[.slice none 0 0] n) 24 (0, 0))) (ho : W.heap[go]? = some (.cells (madeCells #[.int .i64 0] n) 3 (0, 0)))
    (hw : w' = W.alloc (.cells #[.slice (some ⟨gr, 0, none⟩) n n, .slice (some ⟨go, 0, none⟩) n n, .int .i64 1] 81)) : Bg w' b W.heap.size n gr go 0 bl M := by
  subst hw
  have hml : n ≤ maxLen := by unfold maxLen; omega
  refine ⟨v3_new W _ _ _ _, ?_, fun j hj => absurd hj (by omega), ⟨ri_len _ _, ?_⟩, by omega, fun j k hj => absurd hj (by omega), fun j hj => absurd hj (by omega), by omega, by omega, hne⟩
  · refine own_made (by simp) hml hb ?_
    rw [al_old _ h1, hr, made_rep]
    simp
  · refine own_made (by simp [ri_len]) hml hb2 ?_
    rw [al_old _ h2, ho, made_rep]
    simp [ri, ci]
theorem Bg.step {wr W w' : World} {b p n gr go i : Nat} {bl : Nat → Nat} {M : Nat → Nat → Cw} (h : Bg wr b p n gr go i bl M) (hi : i < n) (hb : b ≤ wr.heap.size) (hm : n ≤ 64)
    (hW : W = (((wr.setCell ⟨gr, i, none⟩ (.slice (some ⟨wr.heap.size, 0, none⟩) n n)).setCell ⟨go, i, none⟩ (.int .i64 i)).alloc (.cells (madeCells #[.complex .f64 0 0] n) 52)).drew)
    (hB : Below wr.heap.size W w') (hg : w'.heap[wr.heap.size]? = some (.cells ((ro n (M i)).map cx).toArray 52 (0, 0))) :
    Bg w' b p n gr go (i + 1) (fun j => if j = i then wr.heap.size else bl j) M := by
  subst hW
  have hp := h.v.lt
  have hgr := (h.rows.lt gr rfl).2
  have hgo := (h.ord.own.lt go rfl).2
  have hoth : ∀ g, g < wr.heap.size → g ≠ gr → g ≠ go → w'.heap[g]? = wr.heap[g]? := by
    intro g h1 h2 h3
    rw [hB.block g h1]
    show (((wr.setCell ⟨gr, i, none⟩ (.slice (some ⟨wr.heap.size, 0, none⟩) n n)).setCell ⟨go, i, none⟩ (.int .i64 i)).alloc (.cells (madeCells #[.complex .f64 0 0] n) 52)).heap[g]? = _
    rw [al_old _ (by simpa using h1), Below.heap_setCell _ _ _ _ h3, Below.heap_setCell _ _ _ _ h2]
  have hbl : ∀ j, j < i → bl j < wr.heap.size := fun j hj => ((h.row j hj).own.lt _ rfl).2
  have hpb := hoth p hp h.ap2.1.symm h.ap2.2.1.symm
  have hv : ∀ j, w'.cell? ⟨p, j, none⟩ = wr.cell? ⟨p, j, none⟩ := fun j => World.cell?_of_block hpb
  have hf : ∀ j, w'.frozen? ⟨p, j, none⟩ = wr.frozen? ⟨p, j, none⟩ := fun j => World.frozen?_of_block hpb
  have hsz : wr.heap.size ≤ w'.heap.size := by
    have := hB.size
    simp at this
    omega
  refine ⟨⟨by omega, (hv 0).trans h.v.c0, (hv 1).trans h.v.c1, (hv 2).trans h.v.c2, (hf 0).trans h.v.f0, (hf 1).trans h.v.f1, (hf 2).trans h.v.f2⟩, ?_, ?_, ?_, h.ge, ?_, ?_, h.ap2⟩
  · have h1 := (h.rows.stored i (.slice (some ⟨wr.heap.size, 0, none⟩) n n)).1
    rw [range_set] at h1
    have e : ((List.range n).map fun j => if j = i then (Value.slice (some ⟨wr.heap.size, 0, none⟩) n n) else if j < i then .slice (some ⟨bl j, 0, none⟩) n n else .slice none 0 0) = (List.range n).map fun j => if j < i + 1 then .slice (some ⟨if j = i then wr.heap.size else bl j, 0, none⟩) n n else .slice none 0 0 := by
      refine List.map_congr_left (fun j _ => ?_)
      by_cases h1 : j = i
      · subst h1; rw [if_pos rfl, if_pos (by omega), if_pos rfl]
      · rw [if_neg h1, if_neg h1]
        by_cases h2 : j < i
        · rw [if_pos h2, if_pos (by omega)]
        · rw [if_neg h2, if_neg (by omega)]
    rw [e] at h1
    refine own_at h1 (fun g hg => ?_)
    cases hg
    rw [hB.block gr hgr]
    show (((wr.setCell ⟨gr, i, none⟩ (.slice (some ⟨wr.heap.size, 0, none⟩) n n)).setCell ⟨go, i, none⟩ (.int .i64 i)).alloc (.cells (madeCells #[.complex .f64 0 0] n) 52)).heap[gr]? = _
    rw [al_old _ (by simpa using hgr), Below.heap_setCell _ _ _ _ h.ap2.2.2]
  · intro j hj
    by_cases e : j = i
    · subst e
      simp only [if_true]
      exact ⟨ro_len _ _, own_made (by simp [ro_len]) (by unfold maxLen; omega) hb hg⟩
    · have hji : j < i := by omega
      simp only [e, if_false]
      exact ⟨(h.row j hji).len, own_at (h.row j hji).own (fun g hg => by cases hg; exact hoth _ (hbl j hji) (h.ap j hji).2.1 (h.ap j hji).2.2)⟩
  · have o2 : Ir (wr.setCell ⟨gr, i, none⟩ (.slice (some ⟨wr.heap.size, 0, none⟩) n n)) b (.slice (some ⟨go, 0, none⟩) n n) n (ri n (fun j => if j < i then j else 0)) :=
      ⟨h.ord.len, own_at h.ord.own (fun g hg => by cases hg; exact Below.heap_setCell _ _ _ _ h.ap2.2.2.symm)⟩
    have o3 := o2.set i (i : Int)
    rw [ri_set] at o3
    have e : ri n (fun j => if j = i then i else if j < i then j else 0) = ri n (fun j => if j < i + 1 then j else 0) := by
      refine ri_congr (fun j _ => ?_)
      by_cases h1 : j = i
      · subst h1; rw [if_pos rfl, if_pos (by omega)]
      · rw [if_neg h1]
        by_cases h2 : j < i
        · rw [if_pos h2, if_pos (by omega)]
        · rw [if_neg h2, if_neg (by omega)]
    rw [e] at o3
    refine ⟨o3.len, own_at o3.own (fun g hg => ?_)⟩
    cases hg
    rw [hB.block go hgo]
    show (((wr.setCell ⟨gr, i, none⟩ (.slice (some ⟨wr.heap.size, 0, none⟩) n n)).setCell ⟨go, i, none⟩ (.int .i64 i)).alloc (.cells (madeCells #[.complex .f64 0 0] n) 52)).heap[go]? = _
    rw [al_old _ (by simpa using hgo)]
  · intro j k hj hk e
    by_cases a : j = i
    · by_cases c : k = i
      · omega
      · rw [if_pos a, if_neg c] at e; have := hbl k (by omega); omega
    · by_cases c : k = i
      · rw [if_neg a, if_pos c] at e; have := hbl j (by omega); omega
      · rw [if_neg a, if_neg c] at e; exact h.inj j k (by omega) (by omega) e
  · intro j hj
    by_cases a : j = i
    · simp only [a, if_true]; omega
    · simp only [a, if_false]; exact h.ap j (by omega)

theorem Bg.drewN {w : World} {b p n gr go i : Nat} {bl : Nat → Nat} {M : Nat → Nat → Cw} (h : Bg w b p n gr go i bl M) (m : Nat) : Bg (w.drewN m) b p n gr go i bl M :=
  ⟨h.v.drewN m, h.rows, fun j hj => (h.row j hj).drewN m, h.ord.drewN m, h.ge, h.inj, h.ap, h.ap2⟩
theorem begun0 {w : World} {n N c : Nat} {A : Option Addr} {M : Nat → Nat → Cw} (O1 O2 : Obj) (gr go : Nat) (hn : n ≤ 64)
    (h : gr = w.heap.size + 1 ∧ go = w.heap.size + 1 + 1 ∧ O1 = .cells (madeCells #[.slice none 0 0] n) 24 ∧ O2 = .cells (madeCells #[.int .i64 0] n) 3 ∨ go = w.heap.size + 1 ∧ gr = w.heap.size + 1 + 1 ∧ O2 = .cells (madeCells #[.slice none 0 0] n) 24 ∧ O1 = .cells (madeCells #[.int .i64 0] n) 3) :
    ∃ p gr' go', Value.pointer (some ⟨w.heap.size + 1 + 1 + 1, 0, none⟩) = Value.pointer (some ⟨p, 0, none⟩) ∧ Bg ((((w.alloc (.cells #[.int .i64 n, .int .i64 n, .slice A N c] 26)).alloc O1).alloc O2).alloc (.cells #[.slice (some ⟨gr, 0, none⟩) n n, .slice (some ⟨go, 0, none⟩) n n, .int .i64 1] 81)).drew w.heap.size p n gr' go' 0 (fun _ => 0) M ∧
      V3 w.heap.size (.int .i64 n) (.int .i64 n) (.slice A N c) ((((w.alloc (.cells #[.int .i64 n, .int .i64 n, .slice A N c] 26)).alloc O1).alloc O2).alloc (.cells #[.slice (some ⟨gr, 0, none⟩) n n, .slice (some ⟨go, 0, none⟩) n n, .int .i64 1] 81)).drew ∧
      Below w.heap.size w ((((w.alloc (.cells #[.int .i64 n, .int .i64 n, .slice A N c] 26)).alloc O1).alloc O2).alloc (.cells #[.slice (some ⟨gr, 0, none⟩) n n, .slice (some ⟨go, 0, none⟩) n n, .int .i64 1] 81)).drew ∧ gr' ≠ w.heap.size ∧ go' ≠ w.heap.size := by
  obtain ⟨X, hX⟩ : ∃ X, X = w.alloc (.cells #[.int .i64 n, .int .i64 n, .slice A N c] 26) := ⟨_, rfl⟩
  have hXs : X.heap.size = w.heap.size + 1 := by rw [hX]; simp
  have hB : Below w.heap.size w X := by rw [hX]; exact bal _ _
  have V0 : V3 w.heap.size (.int .i64 n) (.int .i64 n) (.slice A N c) X := by rw [hX]; exact v3_new w _ _ _ _
  rw [← hX]
  have hs1 : (X.alloc O1).heap.size = w.heap.size + 1 + 1 := by simp [hXs]
  have hs2 : ((X.alloc O1).alloc O2).heap.size = w.heap.size + 1 + 1 + 1 := by simp [hXs]
  have e1 : ((X.alloc O1).alloc O2).heap[w.heap.size + 1]? = some O1 := by
    rw [al_old _ (by rw [hs1]; omega)]
    have := al_new X O1
    rw [hXs] at this
    exact this
  have e2 : ((X.alloc O1).alloc O2).heap[w.heap.size + 1 + 1]? = some O2 := by
    have := al_new (X.alloc O1) O2
    rw [hs1] at this
    exact this
  refine ⟨w.heap.size + 1 + 1 + 1, gr, go, rfl, ?_, ((V0.below (bal _ _)).below (bal _ _)).below (bal _ _) |>.drewN 1, below_drewN (((hB.alloc (by omega) _).alloc (by rw [hs1]; omega) _).alloc (by rw [hs2]; omega) _) 1, ?_⟩
  · refine Bg.drewN ?_ 1
    have := fun (a1 : w.heap.size ≤ gr) (a2 : w.heap.size ≤ go) (a3 : gr ≠ go) (a4 : gr < ((X.alloc O1).alloc O2).heap.size) (a5 : go < ((X.alloc O1).alloc O2).heap.size) hr ho => bg0 (bl := fun _ => 0) (M := M) a1 a2 a3 a4 a5 hn hr ho rfl
    rw [hs2] at this
    rcases h with ⟨r1, r2, r3, r4⟩ | ⟨r1, r2, r3, r4⟩
    · subst r1 r2 r3 r4
      exact this (by omega) (by omega) (by omega) (by omega) (by omega) e1 e2
    · subst r1 r2 r3 r4
      exact this (by omega) (by omega) (by omega) (by omega) (by omega) e2 e1
  · omega
theorem wrap_mul1 {i n : Nat} (hi : i ≤ 64) (hn : n ≤ 64) : wrap64 (((i : Int) + 1) * (n : Int)) = ((i * n + n : Nat) : Int) := by
  have := wrap_mul (i := i + 1) (C := n) (by omega) (by omega)
  rw [Nat.succ_mul, Int.natCast_add, Int.natCast_one] at this
  exact this
theorem rc_src {w : World} {a off k n : Nat} {xs : List Cw} {M : Nat → Nat → Cw} {i : Nat} (hc : Rc w (some ⟨a, off, none⟩) xs) (hk : k = i * n) (hx : k + n ≤ xs.length) (hM : ∀ j, j < n → M i j = zat xs (k + j)) :
    ∀ j v, ((ro n (M i)).map cx)[j]? = some v → w.cell? ((⟨a, off + k, none⟩ : Addr).add j) = some v := by
  intro j v hj
  rw [List.getElem?_map] at hj
  by_cases hl : j < n
  · rw [zat_lt (by rw [ro_len]; exact hl), ro_at _ hl, hM j hl] at hj
    cases hj
    obtain ⟨b', off', h1, _, h3⟩ := hc (k + j) (by omega)
    cases h1
    unfold Addr.add
    split
    · rename_i e0
      rw [e0, Nat.add_zero] at h3
      rw [e0]; exact h3
    · rw [← Nat.add_assoc] at h3; exact h3
  · rw [List.getElem?_eq_none (by rw [ro_len]; omega)] at hj; cases hj
theorem one_cx {zs : List Cw} : ∀ v ∈ zs.map cx, v.oneCell' = true := by
  intro v hv
  obtain ⟨z, _, rfl⟩ := List.mem_map.1 hv
  rfl
set_option maxHeartbeats 4000000 in
theorem begun_any (n c : Nat) (A : Option Addr) (xs : List Cw) (M : Nat → Nat → Cw) (w : World) (hn : n ≤ 64) (hl : xs.length = n * n) (hcap : n * n ≤ c) (hc : Rc w A xs) (hM : ∀ i j, i < n → j < n → M i j = zat xs (i * n + j)) :
    Calls Try.prog 43 #[.agg #[.int .i64 n, .int .i64 n, .slice A (n * n) c]] w fun e w' => ∃ p gr go bl, e = .returned (.pointer (some ⟨p, 0, none⟩)) ∧ Lo w' w.heap.size p n gr go bl M (fun i => i) 1 ∧ Below w.heap.size w w' := by
  have h4 := le_4096 hn hn
  obtain ⟨N, hN⟩ : ∃ N, N = n * n := ⟨_, rfl⟩
  rw [← hN] at hl hcap h4 ⊢
  have HN := hid_o hN
  have HM := hid_o hM
  have HC := hid_o hc
  clear hN hM hc
  have V0 : V3 w.heap.size (.int .i64 n) (.int .i64 n) (.slice A N c) (w.alloc (.cells #[.int .i64 n, .int .i64 n, .slice A N c] 26)) := v3_new w _ _ _ _
  have B0 : Below w.heap.size w (w.alloc (.cells #[.int .i64 n, .int .i64 n, .slice A N c] 26)) := bal _ _
  have m1 := run_mkS n (by omega)
  have m2 := run_mkI n (by omega)
  go_enter Try.func43, Try.ntmps43
  go_wp2
  go_cut [4] (fun pv wc => ∃ p gr go, pv = .pointer (some ⟨p, 0, none⟩) ∧ Bg wc w.heap.size p n gr go 0 (fun _ => 0) M ∧ V3 w.heap.size (.int .i64 n) (.int .i64 n) (.slice A N c) wc ∧ Below w.heap.size w wc ∧ gr ≠ w.heap.size ∧ go ≠ w.heap.size)
  case first =>
    go_region
    all_goals
      go_wp2_with fail
      go_meet
      case rel =>
        first
        | exact begun0 _ _ _ _ hn (.inl ⟨rfl, rfl, rfl, rfl⟩)
        | exact begun0 _ _ _ _ hn (.inr ⟨rfl, rfl, rfl, rfl⟩)
  case rest =>
    clear V0 B0 m1 m2
    obtain ⟨p, gr, go, rfl, hBg, hV, hbel, hgr, hgo⟩ := hcut
    have m3 := run_mkC n (by omega)
    go_wp2
    go_loopw [15] (fun iv wr => ∃ (i : Nat) (bl : Nat → Nat), i ≤ n ∧ iv = .int .i64 i ∧ Bg wr w.heap.size p n gr go i bl M ∧ V3 w.heap.size (.int .i64 n) (.int .i64 n) (.slice A N c) wr ∧ Below w.heap.size w wr) (fun iv _ => n - (intOf iv).toNat)
    case atStart => exact ⟨0, _, Nat.zero_le _, rfl, hBg, hV, hbel⟩
    case round =>
      clear hBg hV hbel
      obtain ⟨i, bl, hin, rfl, hBg, hV, hbel⟩ := hrel
      by_cases hlt : i < n
      · have v0 := hBg.v.c0
        have v1 := hBg.v.c1
        have hpl := hBg.v.lt
        have gl1 := (hBg.rows.lt gr rfl).2
        have gl2 := (hBg.ord.own.lt go rfl).2
        have c1 : wr.cell? ⟨gr, i, none⟩ = some (.slice none 0 0) := by
          rw [hBg.rows.cellAt i (by omega)]
          simp [hlt]
        have c2 : wr.cell? ⟨go, i, none⟩ = some (.int .i64 0) := by
          obtain ⟨b', o', e1, _, e3⟩ := hBg.ord.qi i (by rw [ri_len]; exact hlt)
          cases e1; rw [Nat.zero_add, ri_at _ hlt, if_neg (by omega)] at e3; exact e3
        have f1 := hBg.rows.frozenAt i
        have f2 := hBg.ord.own.frozenAt i
        have hgo2 : go ≠ gr := hBg.ap2.2.2.symm
        have HBG := hid_o hBg
        have HV := hid_o hV
        have HB := hid_o hbel
        clear hBg hV hbel
        go_wp2
        go_cut [] (fun wc => wc = (((wr.setCell ⟨gr, i, none⟩ (.slice (some ⟨wr.heap.size, 0, none⟩) n n)).setCell ⟨go, i, none⟩ (.int .i64 i)).alloc (.cells (madeCells #[.complex .f64 0 0] n) 52)).drew)
        case first =>
          go_region
          all_goals
            go_wp2_with fail
            go_meet
            case rel => rfl
        case rest =>
          have hcut2 := hid_o hcut
          have hgl : gr ≠ go := Ne.symm hgo2
          have hpb : ∀ g, g < wr.heap.size → g ≠ gr → g ≠ go → wc.heap[g]? = wr.heap[g]? := by
            intro g h1 h2 h3
            rw [hcut]
            show (((wr.setCell ⟨gr, i, none⟩ (.slice (some ⟨wr.heap.size, 0, none⟩) n n)).setCell ⟨go, i, none⟩ (.int .i64 i)).alloc (.cells (madeCells #[.complex .f64 0 0] n) 52)).heap[g]? = _
            rw [al_old _ (by simpa using h1), Below.heap_setCell _ _ _ _ h3, Below.heap_setCell _ _ _ _ h2]
          have hsz : wc.heap.size = wr.heap.size + 1 := by rw [hcut]; simp
          have e0 : wc.cell? ⟨p, 0, none⟩ = some (.slice (some ⟨gr, 0, none⟩) n n) := (World.cell?_of_block (hpb p hpl HBG.out.ap2.1.symm HBG.out.ap2.2.1.symm)).trans v0
          have hb0 := HV.out.lt
          have e1 : wc.cell? ⟨w.heap.size, 2, none⟩ = some (.slice A N c) := (World.cell?_of_block (hpb _ hb0 (Ne.symm hgr) (Ne.symm hgo))).trans HV.out.c2
          have e2 : wc.cell? ⟨gr, i, none⟩ = some (.slice (some ⟨wr.heap.size, 0, none⟩) n n) := by
            rw [hcut]
            show (((wr.setCell ⟨gr, i, none⟩ (.slice (some ⟨wr.heap.size, 0, none⟩) n n)).setCell ⟨go, i, none⟩ (.int .i64 i)).alloc (.cells (madeCells #[.complex .f64 0 0] n) 52)).cell? ⟨gr, i, none⟩ = _
            rw [World.cell?_of_block (al_old _ (by simpa using gl1)), other_cell _ (by intro e; cases e; exact hgl rfl)]
            exact World.cell?_setCell_same _ _ _ c1
          have hcur : wc.heap[wr.heap.size]? = some (.cells ((ro n (fun _ => (0, 0))).map cx).toArray 52 (0, 0)) := by
            rw [hcut]
            show (((wr.setCell ⟨gr, i, none⟩ (.slice (some ⟨wr.heap.size, 0, none⟩) n n)).setCell ⟨go, i, none⟩ (.int .i64 i)).alloc (.cells (madeCells #[.complex .f64 0 0] n) 52)).heap[wr.heap.size]? = _
            have := al_new ((wr.setCell ⟨gr, i, none⟩ (.slice (some ⟨wr.heap.size, 0, none⟩) n n)).setCell ⟨go, i, none⟩ (.int .i64 i)) (.cells (madeCells #[.complex .f64 0 0] n) 52)
            rw [show ((wr.setCell ⟨gr, i, none⟩ (.slice (some ⟨wr.heap.size, 0, none⟩) n n)).setCell ⟨go, i, none⟩ (.int .i64 i)).heap.size = wr.heap.size by simp] at this
            rw [this, made_rep]
            simp [ro, cx]
          have hbw : Below w.heap.size w wc := by
            rw [hcut]
            exact below_drewN ((((HB.out).setCell (p := ⟨gr, i, none⟩) ((HBG.out.rows.lt gr rfl).1) _).setCell (p := ⟨go, i, none⟩) ((HBG.out.ord.own.lt go rfl).1) _).alloc (by simpa using HB.out.size) _) 1
          have HVC : Hid (V3 w.heap.size (.int .i64 n) (.int .i64 n) (.slice A N c) wc) := by
            rw [hcut]
            exact (((HV.out.other (q := ⟨gr, i, none⟩) hgr _).other (q := ⟨go, i, none⟩) hgo _).below (bal _ _)).drewN 1
          have hRc := HC.out.below hbw
          have h1 : (i + 1) * n ≤ n * n := Nat.mul_le_mul_right _ (by omega)
          rw [Nat.succ_mul, ← HN.out] at h1
          have HMi := hid_o (fun j hj => HM.out i j hlt hj)
          have M1 := hid_o (wrap_mul (i := i) (C := n) (by omega) (by omega))
          have M2 := hid_o (wrap_mul1 (i := i) (n := n) (by omega) (by omega))
          obtain ⟨k, hke⟩ : ∃ k, k = i * n := ⟨_, rfl⟩
          rw [← hke] at M1 M2 h1 HMi
          have HK := hid_o hke
          have hkx : k < xs.length := by omega
          have hkn : k + n ≤ xs.length := by omega
          have hA : ∃ a off, A = some ⟨a, off, none⟩ := by
            obtain ⟨b', off', h1', _, _⟩ := hRc k hkx
            exact ⟨b', off', h1'⟩
          obtain ⟨a, off, rfl⟩ := hA
          have HS := hid_o (rc_src hRc hke hkn HMi.out)
          have HBW := hid_o hbw
          have HWS : Hid (wr.heap.size < wc.heap.size) := by show wr.heap.size < wc.heap.size; omega
          have hge := HB.out.size
          have hkc : k + n ≤ c := by omega
          have hkN : k < c := by omega
          clear hcut v0 v1 c1 c2 f1 f2 hpb hke hRc hbw HM HMi hkx hkn
          have hw0 : IntKind.i64.wrap ((i : Int) + 1) = (i : Int) + 1 := by rw [IntKind.wrap_i64]; omega
          have hck : ¬ c = k := by omega
          have hw1 : IntKind.i64.wrap ((i : Int) * (n : Int)) = (k : Int) := by
            have e : (i : Int) * (n : Int) = (k : Int) := by rw [HK.out]; exact (Int.natCast_mul i n).symm
            rw [e, IntKind.wrap_i64]; omega
          have hw2 : IntKind.i64.wrap (((i : Int) + 1) * (n : Int)) = ((k + n : Nat) : Int) := by
            have e : ((i : Int) + 1) * (n : Int) = ((k + n : Nat) : Int) := by rw [Int.natCast_add, HK.out, Int.natCast_mul, Int.add_mul, Int.one_mul]
            rw [e, IntKind.wrap_i64]; omega
          obtain ⟨en, hen⟩ : ∃ en, en = k + n := ⟨_, rfl⟩
          rw [← hen] at hw2 hkc h1
          have hsub : en - k = n := by omega
          have hke2 : k ≤ en := by omega
          clear M1 M2 hen
          go_wp2
          go_region_law
            (refine step_copy_splice rfl _ _ 24 24 rfl 52 Try.underlying24 Try.infoCs _ _ _ _ _ _ rfl rfl wr.heap.size 0 ((ro n (fun _ => (0, 0))).map cx) 52 hcur ((ro n (M i)).map cx) (by simp [ro_len]) (fun _ => ⟨rfl, _, rfl, HS.out⟩) (by simp [ro_len]) one_cx wr.heap.size wc (below_drewN (Below.refl _ _) _) (Nat.le_refl _) ?_; intro w2 hb2 B2)
          all_goals
            rw [splice_all (by simp [ro_len])] at hb2
            go_wp2_with fail
            go_roundw
            case measure => simp [intOf]; omega
            case rel => exact ⟨i + 1, _, by omega, by go_num, HBG.out.step hlt hge hn hcut2.out B2 hb2.out, HVC.out.later B2 hb0, HBW.out.trans (B2.mono hge)⟩
      · have e : i = n := by omega
        subst e
        clear HM HC m3
        go_wp2
        go_ret
        exact ⟨p, gr, go, bl, rfl, hBg.done, hbel⟩

end Go.Proofs.Ytklbgibhbnijaaa
