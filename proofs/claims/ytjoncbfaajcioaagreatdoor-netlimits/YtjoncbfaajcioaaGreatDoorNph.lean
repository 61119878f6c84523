/-
  A net read: the words' sizes; Parse of package netlist.
-/
import Derived.Test.YtjoncbfaajcioaaGreatDoorNpg
import Derived.Deep.AppendLies
namespace Go.Proofs.YtjoncbfaajcioaaGreatDoor
open Go.Maps Go.RowKit Joins Deep
set_option linter.unusedVariables false
set_option maxRecDepth 100000

theorem tok_size {t : ByteArray} {n : Nat} {p : Tok} (h : p ∈ tkl n t) : 0 < p.1.size ∧ p.1.size ≤ t.size := by
  unfold tkl wds at h
  rw [List.mem_map] at h
  obtain ⟨q, hq, rfl⟩ := h
  have h2 := (scn_wf t t.size).mem q (by simpa using hq)
  show 0 < (t.extract q.1 q.2).size ∧ (t.extract q.1 q.2).size ≤ t.size
  rw [ex_size h2.2]; omega
theorem psL_tok {s : ByteArray} {k : Nat} {ts : List Tok} (h : (psL s)[k]? = some ts) {p : Tok} (hp : p ∈ ts) : 0 < p.1.size ∧ p.1.size ≤ s.size := by
  obtain ⟨t, h1, rfl⟩ := tkL_inv h
  have := tok_size hp
  have := liT_size h1
  omega
theorem psL_len (s : ByteArray) : (psL s).length ≤ s.size + 1 := by
  unfold psL; rw [tkL_len, liT_len]; exact liP_len s
theorem psL_row {s : ByteArray} {k : Nat} {ts : List Tok} (h : (psL s)[k]? = some ts) : ts.length ≤ s.size := by
  obtain ⟨t, h1, rfl⟩ := tkL_inv h
  exact Nat.le_trans (tkl_len _ _) (liT_size h1)
theorem wdA_size {s : ByteArray} {k : Nat} {ts : List Tok} (h : (psL s)[k]? = some ts) (i : Nat) : (wdA (wdL ts) i).size ≤ s.size := by
  unfold wdA
  rw [List.getD_eq_getElem?_getD]
  cases hg : (wdL ts)[i]? with
  | none => exact Nat.zero_le _
  | some u =>
    rw [List.getElem?_map, Option.map_eq_some_iff] at hg
    obtain ⟨p, hp, rfl⟩ := hg
    exact (psL_tok h (List.mem_of_getElem? hp)).2
theorem wdA_pos {s : ByteArray} {k : Nat} {ts : List Tok} (h : (psL s)[k]? = some ts) (hne : ts ≠ []) : 0 < (wdA (wdL ts) 0).size := by
  match ts, hne, h with
  | p :: r, _, h => exact (psL_tok h (p := p) (by simp)).1
theorem rdX_ok {s : ByteArray} (hs : s.size ≤ 65536) {k : Nat} {ts : List Tok} (h : (psL s)[k]? = some ts) : (rdX (wdL ts)).ok := by
  have hz := wdA_size h
  have h0 := hz 0
  have h1 := hz 1
  have h2 := hz 2
  have h3 := hz 3
  have h4 := hz 4
  have big : ∀ u : ByteArray, u.size ≤ s.size → u.size ≤ 140737488351232 := fun u h => by omega
  have hk : ofK (byt (wdA (wdL ts) 0) 0) < 256 := by have := ofK_le8 (byt (wdA (wdL ts) 0) 0); omega
  unfold rdX
  split
  · exact ⟨hk, big _ h0, big _ h1, big _ h2, Nat.zero_le _, Nat.zero_le _, paW_lt _⟩
  · split
    · exact ⟨hk, big _ h0, big _ h1, big _ h2, Nat.zero_le _, Nat.zero_le _, paW_lt _⟩
    · exact ⟨hk, big _ h0, big _ h1, big _ h2, big _ h3, big _ h4, paW_lt _⟩
theorem acc_ok {s : ByteArray} (hs : s.size ≤ 65536) : ∀ x ∈ psA s, x.ok := by
  have key : ∀ (l : List (List Tok)), (∀ ts ∈ l, ∃ k : Nat, (psL s)[k]? = some ts) → ∀ n, ∀ x ∈ (acc n l).map (·.1), x.ok := by
    intro l
    induction l with
    | nil => intro _ n x hx; cases hx
    | cons a t ih =>
      intro hl n x hx
      have hx2 : x ∈ ((if a = [] then [] else [(rdX (wdL a), n)]) ++ acc (n + 1) t).map (·.1) := hx
      rw [List.map_append, List.mem_append] at hx2
      rcases hx2 with h | h
      · by_cases ha : a = []
        · rw [if_pos ha] at h; cases h
        · rw [if_neg ha] at h
          simp at h
          obtain ⟨k, hk⟩ := hl a (by simp)
          rw [h]; exact rdX_ok hs hk
      · exact ih (fun ts ht => hl ts (by simp [ht])) (n + 1) x h
  exact key (psL s) (fun ts ht => (List.mem_iff_getElem?.1 ht)) 0
theorem infoInt : (Tryz.prog.info? 3).map (fun i => (i.zero, i.size, i.bytes)) = some (some (.int .i64 0), 1, 8) := by kernel_rfl
theorem two_h {w w1 : World} {cs : Array Value} {t : TypeId} (hb : Below (w.alloc (.cells cs t)).heap.size (w.alloc (.cells cs t)) w1) : w1.heap[w.heap.size]? = some (.cells cs t (0, 0)) ∧ w.heap.size < w1.heap.size := by
  have h := (hb.block w.heap.size (by simp)).trans (heap_alloc_new w _)
  exact ⟨h, (Array.getElem?_eq_some_iff.1 h).1⟩
set_option maxHeartbeats 4000000 in
theorem parse_cut (s : ByteArray) (w : World) (hs : s.size ≤ 65536) (hw : Wow w) {a b : Nat} (he : erL 0 (liT s) = (a, b)) (ha : a ≠ 0) :
    Calls Tryz.prog 6 #[.string s] w fun e w' => e = .returned (.tuple #[.pointer none, .agg #[.int .i64 (a : Int), .int .i64 (b : Int)]]) ∧ Below w.heap.size w w' := by
  have HC : Hid (∀ o, Calls Tryz.prog 25 #[.string s] (w.alloc o) fun e w' => e = .returned (.tuple #[.slice none 0 0, fltV a b]) ∧ Below (w.alloc o).heap.size (w.alloc o) w') := fun o => cut_bad s (w.alloc o) hs (hw.mln.kept ((Below.refl _ _).alloc (Nat.le_refl _) _)) he ha
  have hab : ((a : Int) != 0) = true := by simp [ha]
  clear he ha hw
  go_enter Tryz.func6, Tryz.ntmps6
  go_wp2_with (first
    | (go_at_call 25; (with_reducible refine (HC.out _).mono ?_); rintro e w1 ⟨rfl, hb⟩; (obtain ⟨hr, hlt⟩ := two_h hb); (obtain ⟨z0, z1, z2, z3⟩ := tw_c hr); (have HB : Hid (Below w.heap.size w w1) := undralloc hb); clear hb))
  obtain ⟨wz, hwz⟩ : ∃ wz, wz = w1.alloc (.cells #[.int .i64 (a : Int), .int .i64 (b : Int)] 25) := ⟨_, rfl⟩
  have k1 : wz.heap[w.heap.size]? = some (.cells #[.int .i64 0, .int .i64 0] 25 (0, 0)) := by rw [hwz]; exact (Below.heap_alloc _ _ _ hlt).trans hr
  have k2 : wz.heap[w1.heap.size]? = some (.cells #[.int .i64 (a : Int), .int .i64 (b : Int)] 25 (0, 0)) := by rw [hwz]; exact heap_alloc_new _ _
  have HBz : Hid (Below w.heap.size w wz) := by rw [hwz]; exact HB.out.alloc HB.out.size _
  rw [← hwz]
  clear z0 z1 z2 z3 hr hwz
  obtain ⟨z0, z1, z2, z3⟩ := tw_c k1
  obtain ⟨y0, y1, y2, y3⟩ := tw_c k2
  have hne1 : ¬ w.heap.size = w1.heap.size := by omega
  have hne2 : ¬ w1.heap.size = w.heap.size := by omega
  have T := tw_set k1 (.int .i64 (a : Int)) (.int .i64 (b : Int))
  obtain ⟨t0, t1⟩ := T
  clear k1 k2
  go_region
  all_goals go_wp2_with fail
  all_goals refine bodyPost_ret (by simp [results, Tryz.results6, go_sem, t0, t1]; try rfl) rfl ?_
  all_goals exact ⟨rfl, by first | exact (tw_bel HBz.out (Nat.le_refl _) _ _).drew | exact tw_bel HBz.out (Nat.le_refl _) _ _⟩
end Go.Proofs.YtjoncbfaajcioaaGreatDoor
