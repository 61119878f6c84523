/-
  Several texts in one: Npg Nph Npi.
-/
import Derived.Test.YtmpkcioeodlbcaaGreatDoorK25
import Derived.Test.YtmpkcioeodlbcaaGreatDoorK27
import Derived.Deep.AppendLies
namespace Go.Proofs.YtmpkcioeodlbcaaGreatDoor
open Go.Maps Go.RowKit Joins Deep
set_option linter.unusedVariables false
set_option maxRecDepth 100000
theorem orow_slice {w : World} {base : Nat} {e : TypeId} {sz : Nat} {v : Value} {n : Nat} {xs : List Value} (h : w.ownsRow base e sz v n xs) : ∃ A cap, v = .slice A n cap := by
  obtain ⟨_, ⟨h1, h2⟩ | ⟨g, cap, cur, h1, _⟩⟩ := h
  · exact ⟨none, 0, by rw [h1, h2]⟩
  · exact ⟨_, _, h1⟩
theorem oe8_row {w : World} {base g cap n : Nat} {l : List Elm} (h : w.ownsRow base 96 8 (.slice (some ⟨g, 0, none⟩) n cap) n (elCs l)) {i : Nat} {x : Elm} (hx : l[i]? = some x) (hi : i < n) : E8 w g (i * 8) x := by
  have hc : ∀ c v, c < 8 → (elC x)[c]? = some v → w.cell? ⟨g, i * 8 + c, none⟩ = some v := fun c v h1 h2 => by rw [h.cellAt (i * 8 + c) (by omega), elCs_get hx h1]; exact h2
  exact ⟨hc 0 _ (by omega) rfl, hc 1 _ (by omega) rfl, hc 2 _ (by omega) rfl, hc 3 _ (by omega) rfl, hc 4 _ (by omega) rfl, hc 5 _ (by omega) rfl, hc 6 _ (by omega) rfl, hc 7 _ (by omega) rfl⟩
theorem ordE_row {w : World} {base : Nat} {v : Value} {l : List Elm} (h : w.ownsRow base 96 8 v l.length (elCs l)) (hl : l.length ≤ 1000) : RdE w v l := by
  refine ⟨by omega, ?_⟩
  have h0 := h
  obtain ⟨_, ⟨h1, h2⟩ | ⟨g, cap, cur, h1, _⟩⟩ := h
  · exact ⟨none, 0, by rw [h1, h2], .inl (List.length_eq_zero_iff.1 h2)⟩
  · rw [h1] at h0
    exact ⟨_, cap, h1, .inr ⟨g, rfl, fun k x hk => oe8_row h0 hk (List.getElem?_eq_some_iff.1 hk).1⟩⟩
theorem ofl_long (w : World) (A : Option Addr) (c n : Nat) (l : List Elm) (hl : l.length = n) (hn : 256 < n) (hb : n ≤ 140737488351232) : Calls Tryz.prog 37 #[.slice A n c] w (OfP w l) := by
  have HN : Hid (l.length = n) := hl
  clear hl
  have hbi : (256 : Int) < (n : Int) := by omega
  go_enter Tryz.func37, Tryz.ntmps37
  go_wp2_with fail
  (try simp only [Exit.inBlock, Exit.then])
  refine bodyPost_ret (by simp [results, Tryz.results37, go_sem]; try rfl) rfl ?_
  have hA3 : ofA l = ((3, -1), Ns.nil) := if_pos (by have := HN.out; omega)
  exact ⟨(Below.refl _ w).alloc (Nat.le_refl _) _, .inr ⟨by rw [hA3]; simp, by rw [hA3]⟩⟩
theorem ofl_row (w : World) (base n : Nat) (v : Value) (l : List Elm) (hl : l.length = n) (hb : n ≤ 140737488351232) (hr : w.ownsRow base 96 8 v n (elCs l)) (hok : ∀ x ∈ l, x.ok) : Calls Tryz.prog 37 #[v] w (OfP w l) := by
  by_cases h : n ≤ 1000
  · subst hl
    exact netOf_any w v l (ordE_row hr h) hok
  · obtain ⟨A, c, rfl⟩ := orow_slice hr
    exact ofl_long w A c n l hl (by omega) hb

/-- a line's words -/
abbrev wdL (ts : List Tok) : List ByteArray := ts.map (·.1)
/-- may a line be? -/
def okL (ts : List Tok) : Prop := ts = [] ∨ rdE (wdL ts) = 0
instance (ts : List Tok) : Decidable (okL ts) := by unfold okL; infer_instance
/-- the elements that lines say, and the line of each -/
def acc : Nat → List (List Tok) → List (Elm × Nat)
  | _, [] => []
  | n, ts :: r => (if ts = [] then [] else [(rdX (wdL ts), n)]) ++ acc (n + 1) r
theorem acc_snoc (l : List (List Tok)) (ts : List Tok) : ∀ n, acc n (l ++ [ts]) = acc n l ++ (if ts = [] then [] else [(rdX (wdL ts), n + l.length)]) := by
  induction l with
  | nil => intro n; simp [acc]
  | cons a t ih =>
    intro n
    show (if a = [] then [] else [(rdX (wdL a), n)]) ++ acc (n + 1) (t ++ [ts]) = _
    rw [ih (n + 1), ← List.append_assoc]
    have : n + 1 + t.length = n + (a :: t).length := by simp; omega
    rw [this]
    rfl
/-- the first line that may not be: what is wrong with it, and where it stands -/
def prsE : Nat → List (List Tok) → Int × Int
  | _, [] => (0, 0)
  | n, ts :: r => if okL ts then prsE (n + 1) r else (rdE (wdL ts), (n : Int))
theorem prs_ok {l : List (List Tok)} (h : ∀ ts ∈ l, okL ts) : ∀ n, prsE n l = (0, 0) := by
  induction l with
  | nil => intro n; rfl
  | cons a t ih =>
    intro n
    show (if okL a then prsE (n + 1) t else _) = _
    rw [if_pos (h a (by simp))]
    exact ih (fun ts ht => h ts (by simp [ht])) (n + 1)
theorem prs_bad {l : List (List Tok)} {k : Nat} {ts : List Tok} (hk : l[k]? = some ts) (hb : ¬ okL ts) (h : ∀ j u, j < k → l[j]? = some u → okL u) : ∀ n, prsE n l = (rdE (wdL ts), ((n + k : Nat) : Int)) := by
  induction l generalizing k with
  | nil => cases hk
  | cons a t ih =>
    intro n
    show (if okL a then prsE (n + 1) t else (rdE (wdL a), (n : Int))) = _
    cases k with
    | zero =>
      cases hk
      rw [if_neg hb]; rfl
    | succ k =>
      rw [if_pos (h 0 a (by omega) rfl)]
      rw [ih (k := k) (by simpa using hk) (fun j u hj hu => h (j + 1) u (by omega) (by simpa using hu)) (n + 1)]
      have : n + 1 + k = n + (k + 1) := by omega
      rw [this]
/-- what a text's net is: the fault, the elements -/
def psL (s : ByteArray) : List (List Tok) := tkL 0 (liT s)
def psF (s : ByteArray) (r : Int × Int) : Int × Int := if r.1 ≠ 0 ∧ 0 ≤ r.2 then (r.1, ((((acc 0 (psL s)).map (·.2)).getD r.2.toNat 0 : Nat) : Int)) else r
def psE (s : ByteArray) : Int × Int := if (erL 0 (liT s)).1 ≠ 0 then (((erL 0 (liT s)).1 : Int), ((erL 0 (liT s)).2 : Int)) else if (prsE 0 (psL s)).1 ≠ 0 then prsE 0 (psL s) else psF s (ofA ((acc 0 (psL s)).map (·.1))).1
def psA (s : ByteArray) : List Elm := (acc 0 (psL s)).map (·.1)
theorem paW_lt (s : ByteArray) : paW s < 18446744073709551616 := by
  unfold paW
  (repeat' split) <;> omega
end Go.Proofs.YtmpkcioeodlbcaaGreatDoor
namespace Go.Proofs.YtmpkcioeodlbcaaGreatDoor
open Go.Maps Go.RowKit Joins Deep
set_option linter.unusedVariables false
set_option maxRecDepth 100000
theorem tok_size {t : ByteArray} {n : Nat} {p : Tok} (h : p ∈ tkl n t) : 0 < p.1.size ∧ p.1.size ≤ t.size := by
  unfold tkl wds at h
  rw [List.mem_map] at h
  obtain ⟨q, hq, rfl⟩ := h
  have h2 := (scn_wf t t.size).mem q (by simpa using hq)
  show 0 < (t.extract q.1 q.2).size ∧ (t.extract q.1 q.2).size ≤ t.size
  rw [ex_size h2.2]; omega
theorem psL_tok {s : ByteArray} {k : Nat} {ts : List Tok} (h : (psL s)[k]? = some ts) {p : Tok} (hp : p ∈ ts) : 0 < p.1.size ∧ p.1.size ≤ s.size := by
  obtain ⟨t, h1, rfl⟩ := tkL_inv h
  have := tok_size hp
  have := liT_size h1
  omega
theorem psL_len (s : ByteArray) : (psL s).length ≤ s.size + 1 := by
  unfold psL; rw [tkL_len, liT_len]; exact liP_len s
theorem psL_row {s : ByteArray} {k : Nat} {ts : List Tok} (h : (psL s)[k]? = some ts) : ts.length ≤ s.size := by
  obtain ⟨t, h1, rfl⟩ := tkL_inv h
  exact Nat.le_trans (tkl_len _ _) (liT_size h1)
theorem wdA_size {s : ByteArray} {k : Nat} {ts : List Tok} (h : (psL s)[k]? = some ts) (i : Nat) : (wdA (wdL ts) i).size ≤ s.size := by
  unfold wdA
  rw [List.getD_eq_getElem?_getD]
  cases hg : (wdL ts)[i]? with
  | none => exact Nat.zero_le _
  | some u =>
    rw [List.getElem?_map, Option.map_eq_some_iff] at hg
    obtain ⟨p, hp, rfl⟩ := hg
    exact (psL_tok h (List.mem_of_getElem? hp)).2
theorem wdA_pos {s : ByteArray} {k : Nat} {ts : List Tok} (h : (psL s)[k]? = some ts) (hne : ts ≠ []) : 0 < (wdA (wdL ts) 0).size := by
  match ts, hne, h with
  | p :: r, _, h => exact (psL_tok h (p := p) (by simp)).1
theorem rdX_ok {s : ByteArray} (hs : s.size ≤ 65536) {k : Nat} {ts : List Tok} (h : (psL s)[k]? = some ts) : (rdX (wdL ts)).ok := by
  have hz := wdA_size h
  have h0 := hz 0
  have h1 := hz 1
  have h2 := hz 2
  have h3 := hz 3
  have h4 := hz 4
  have big : ∀ u : ByteArray, u.size ≤ s.size → u.size ≤ 140737488351232 := fun u h => by omega
  have hk : ofK (byt (wdA (wdL ts) 0) 0) < 256 := by have := ofK_le8 (byt (wdA (wdL ts) 0) 0); omega
  unfold rdX
  split
  · exact ⟨hk, big _ h0, big _ h1, big _ h2, Nat.zero_le _, Nat.zero_le _, paW_lt _⟩
  · split
    · exact ⟨hk, big _ h0, big _ h1, big _ h2, Nat.zero_le _, Nat.zero_le _, paW_lt _⟩
    · exact ⟨hk, big _ h0, big _ h1, big _ h2, big _ h3, big _ h4, paW_lt _⟩
theorem acc_ok {s : ByteArray} (hs : s.size ≤ 65536) : ∀ x ∈ psA s, x.ok := by
  have key : ∀ (l : List (List Tok)), (∀ ts ∈ l, ∃ k : Nat, (psL s)[k]? = some ts) → ∀ n, ∀ x ∈ (acc n l).map (·.1), x.ok := by
    intro l
    induction l with
    | nil => intro _ n x hx; cases hx
    | cons a t ih =>
      intro hl n x hx
      have hx2 : x ∈ ((if a = [] then [] else [(rdX (wdL a), n)]) ++ acc (n + 1) t).map (·.1) := hx
      rw [List.map_append, List.mem_append] at hx2
      rcases hx2 with h | h
      · by_cases ha : a = []
        · rw [if_pos ha] at h; cases h
        · rw [if_neg ha] at h
          simp at h
          obtain ⟨k, hk⟩ := hl a (by simp)
          rw [h]; exact rdX_ok hs hk
      · exact ih (fun ts ht => hl ts (by simp [ht])) (n + 1) x h
  exact key (psL s) (fun ts ht => (List.mem_iff_getElem?.1 ht)) 0
theorem infoInt : (Tryz.prog.info? 3).map (fun i => (i.zero, i.size, i.bytes)) = some (some (.int .i64 0), 1, 8) := by kernel_rfl
theorem two_h {w w1 : World} {cs : Array Value} {t : TypeId} (hb : Below (w.alloc (.cells cs t)).heap.size (w.alloc (.cells cs t)) w1) : w1.heap[w.heap.size]? = some (.cells cs t (0, 0)) ∧ w.heap.size < w1.heap.size := by
  have h := (hb.block w.heap.size (by simp)).trans (heap_alloc_new w _)
  exact ⟨h, (Array.getElem?_eq_some_iff.1 h).1⟩
end Go.Proofs.YtmpkcioeodlbcaaGreatDoor
namespace Go.Proofs.YtmpkcioeodlbcaaGreatDoor
open Go.Maps Go.RowKit Joins Deep
set_option linter.unusedVariables false
set_option maxRecDepth 100000
/-- what lies in memory while a net is read -/
structure Prs (w w3 : World) (v : Value) (s : ByteArray) (F B : Nat) : Prop where
  res : w3.heap[w.heap.size]? = some (.cells #[.int .i64 0, .int .i64 0] 69 (0, 0))
  flt : w3.heap[F]? = some (.cells #[.int .i64 0, .int .i64 0] 69 (0, 0))
  rd : RdL w3 v (psL s)
  ln : Lns w3 B
  wow : Wow w3
  bel : Below w.heap.size w w3
  hF : w.heap.size < F
theorem Prs.kept {w w3 w4 : World} {v : Value} {s : ByteArray} {F B : Nat} (h : Prs w w3 v s F B) (hb : Below w3.heap.size w3 w4) : Prs w w4 v s F B :=
  ⟨(hb.block _ (Array.getElem?_eq_some_iff.1 h.res).1).trans h.res, (hb.block _ (Array.getElem?_eq_some_iff.1 h.flt).1).trans h.flt, h.rd.kept hb, h.ln.below hb, h.wow.kept hb, h.bel.trans (hb.mono h.bel.size), h.hF⟩
theorem Prs.row {w w3 : World} {v : Value} {s : ByteArray} {F B : Nat} (h : Prs w w3 v s F B) {k : Nat} {ts : List Tok} (hk : (psL s)[k]? = some ts) :
    ∃ b c n, v = .slice (some ⟨b, 0, none⟩) (psL s).length c ∧ n = ts.length ∧ ∃ A c2, w3.cell? ⟨b, k, none⟩ = some (.slice A n c2) ∧ b < w3.heap.size ∧ (ts ≠ [] → ∃ bt, A = some ⟨bt, 0, none⟩ ∧ ∀ (j : Nat) (p : Tok), ts[j]? = some p → w3.cell? ⟨bt, j * 3, none⟩ = some (.string p.1) ∧ w3.cell? ⟨bt, j * 3 + 1, none⟩ = some (.int .i64 p.2.1) ∧ w3.cell? ⟨bt, j * 3 + 2, none⟩ = some (.int .i64 p.2.2)) := by
  obtain ⟨h0, A, c, h1, h2⟩ := h.rd
  rcases h2 with h2 | ⟨b, h3, h4⟩
  · rw [h2] at hk; cases hk
  · subst h3
    obtain ⟨u, q0, q1⟩ := h4 k ts hk
    obtain ⟨r0, A2, c2, r1, r2⟩ := q1
    subst r1
    refine ⟨b, c, _, h1, rfl, A2, c2, q0, World.block_lt_of_cell? _ _ q0, fun hne => ?_⟩
    rcases r2 with r2 | ⟨bt, r3, r4⟩
    · exact absurd r2 hne
    · exact ⟨bt, r3, r4⟩
theorem prs_st {w w1 w3 : World} {v : Value} {s : ByteArray} {B : Nat} (h : RdL w1 v (psL s) ∧ w1.heap[w.heap.size]? = some (.cells #[.int .i64 0, .int .i64 0] 69 (0, 0)) ∧ Below w.heap.size w w1 ∧ w.heap.size < w1.heap.size) (hw : Wow w) (hL : Lns w3 B) (hb : Below (w1.alloc (.cells #[.int .i64 0, .int .i64 0] 69)).heap.size (w1.alloc (.cells #[.int .i64 0, .int .i64 0] 69)) w3) : Prs w w3 v s w1.heap.size B := by
  obtain ⟨h1, h2, h3, h4⟩ := h
  have hb1 : Below w1.heap.size w1 w3 := undralloc hb
  have hB : Below w.heap.size w w3 := h3.trans (hb1.mono h3.size)
  exact ⟨(hb1.block _ h4).trans h2, (two_h hb).1, h1.kept hb1, hL, hw.kept hB, hB, h4⟩
theorem el_st {w5 : World} (y : Elm) : ∃ wz, w5.alloc (.cells #[.int .u8 (y.k : Int), .string y.n, .string y.a, .string y.b, .string y.c, .string y.d, .float .f64 y.v, .int .i64 y.ph] 96) = wz ∧
    (wz.cell? ⟨w5.heap.size, 0, none⟩ = some (.int .u8 (y.k : Int)) ∧ wz.cell? ⟨w5.heap.size, 1, none⟩ = some (.string y.n) ∧ wz.cell? ⟨w5.heap.size, 2, none⟩ = some (.string y.a) ∧ wz.cell? ⟨w5.heap.size, 3, none⟩ = some (.string y.b) ∧ wz.cell? ⟨w5.heap.size, 4, none⟩ = some (.string y.c) ∧ wz.cell? ⟨w5.heap.size, 5, none⟩ = some (.string y.d) ∧ wz.cell? ⟨w5.heap.size, 6, none⟩ = some (.float .f64 y.v) ∧ wz.cell? ⟨w5.heap.size, 7, none⟩ = some (.int .i64 y.ph)) ∧ Below w5.heap.size w5 wz := by
  refine ⟨_, rfl, (eight (heap_alloc_new _ _)).1, (Below.refl _ _).alloc (Nat.le_refl _) _⟩
/-- what Parse hands back -/
def PsP (w : World) (s : ByteArray) (e : Ending) (w' : World) : Prop :=
  Below w.heap.size w w' ∧ ((psE s = (0, 0) ∧ (ofA (psA s)).1 = (0, 0) ∧ ∃ base p b, e = .returned (.tuple #[.pointer (some ⟨p, 0, none⟩), .agg #[.int .i64 0, .int .i64 0]]) ∧ Nt w' base p (ofA (psA s)).2 b ∧ w.heap.size ≤ p) ∨ ((psE s).1 ≠ 0 ∧ e = .returned (.tuple #[.pointer none, .agg #[.int .i64 (psE s).1, .int .i64 (psE s).2]])))
theorem Nt.but2 {w w' : World} {base p F f : Nat} {u : Value} {N : Ns} {b : Nb} (h : Nt w base p N b) (hF : F < p) (hc : w.cell? ⟨F, f, none⟩ = some u) (hs : w.heap.size ≤ w'.heap.size) (hk : ∀ k, k ≠ F → w'.heap[k]? = w.heap[k]?) : Nt w' base p N b := by
  have hlo := h.lo
  have hpb : w'.heap[p]? = w.heap[p]? := hk p (by omega)
  have hR : ∀ {f v B xs}, Rn w base p f v B xs → Rn w' base p f v B xs := fun q => ⟨(World.cell?_of_block hpb).trans q.c0, (World.cell?_of_block hpb).trans q.c1, (World.frozen?_of_block hpb).trans q.fz, row_block q.row fun g hg => hk g (by have := (row_ge q.row hg).1; omega), q.mp.blk (hk _ (fun e => q.mp.ne hc e.symm))⟩
  exact ⟨(World.cell?_of_block hpb).trans h.c0, (World.frozen?_of_block hpb).trans h.f0, row_block h.es fun g hg => hk g (by have := (row_ge h.es hg).1; omega), hR h.nm, hR h.nd, hR h.br, h.lo, Nat.le_trans h.hi hs, h.m1, h.m2, h.m3, h.s1, h.s2, h.s3⟩
theorem fl_st1 {w : World} {F : Nat} {x0 x1 : Value} {T : TypeId} (h : w.heap[F]? = some (.cells #[x0, x1] T (0, 0))) (y : Value) : ∃ wz, w.setCell ⟨F, 1, none⟩ y = wz ∧ wz.heap[F]? = some (.cells #[x0, y] T (0, 0)) ∧ (∀ k, k ≠ F → wz.heap[k]? = w.heap[k]?) ∧ wz.heap.size = w.heap.size ∧ (∀ n, n ≤ F → ∀ w0, Below n w0 w → Below n w0 wz) :=
  ⟨_, rfl, by have := heap_setCell_same w F 1 _ T y h; exact this, fun k hk => Below.heap_setCell _ _ _ _ hk, World.size_setCell _ _ _, fun n hn w0 hb => hb.setCell (p := ⟨F, 1, none⟩) hn _⟩
theorem fl_st {w : World} {F : Nat} {x0 x1 : Value} {T : TypeId} (h : w.heap[F]? = some (.cells #[x0, x1] T (0, 0))) (x y : Value) : ∃ wz, (w.setCell ⟨F, 0, none⟩ x).setCell ⟨F, 1, none⟩ y = wz ∧ wz.heap[F]? = some (.cells #[x, y] T (0, 0)) ∧ (∀ k, k ≠ F → wz.heap[k]? = w.heap[k]?) ∧ wz.heap.size = w.heap.size ∧ (∀ n, n ≤ F → ∀ w0, Below n w0 w → Below n w0 wz) := by
  have h1 : (w.setCell ⟨F, 0, none⟩ x).heap[F]? = some (.cells #[x, x1] T (0, 0)) := by have := heap_setCell_same w F 0 _ T x h; exact this
  obtain ⟨wz, e, a, b, c, d⟩ := fl_st1 h1 y
  exact ⟨wz, e, a, fun k hk => (b k hk).trans (Below.heap_setCell _ _ _ _ hk), c.trans (World.size_setCell _ _ _), fun n hn w0 hb => d n hn w0 (hb.setCell (p := ⟨F, 0, none⟩) hn _)⟩
theorem Nt.set2 {w : World} {base p F : Nat} {x0 x1 : Value} {T : TypeId} {N : Ns} {b : Nb} (h : Nt w base p N b) (hF : F < p) (hc : w.heap[F]? = some (.cells #[x0, x1] T (0, 0))) (x y : Value) : Nt ((w.setCell ⟨F, 0, none⟩ x).setCell ⟨F, 1, none⟩ y) base p N b := by
  obtain ⟨wz, e, _, hk, hs, _⟩ := fl_st hc x y
  rw [e]
  exact h.but2 hF (tw_c hc).1 (by omega) hk
theorem ofR_at : ∀ (l : List Elm) (N : Ns) (i : Nat), (ofR N i l).1.1 ≠ 0 → (ofR N i l).1.2 = -1 ∨ ∃ j, j < i + l.length ∧ (ofR N i l).1.2 = ((j : Nat) : Int) := by
  intro l
  induction l with
  | nil =>
    intro N i h
    unfold ofR at h ⊢
    split at h
    · rename_i h2; rw [if_pos h2]; exact .inl rfl
    · exact absurd rfl h
  | cons x t ih =>
    intro N i h
    unfold ofR at h ⊢
    by_cases h1 : chkI x ≠ 0
    · rw [if_pos h1]; exact .inr ⟨i, by simp, rfl⟩
    · rw [if_neg h1] at h ⊢
      by_cases h2 : bl x.n ∈ N.nm
      · rw [if_pos h2]; exact .inr ⟨i, by simp, rfl⟩
      · rw [if_neg h2] at h ⊢
        rcases ih _ _ h with q | ⟨j, q1, q2⟩
        · exact .inl q
        · exact .inr ⟨j, by rw [List.length_cons]; omega, q2⟩
theorem ofA_at (l : List Elm) (h : (ofA l).1.1 ≠ 0) : (ofA l).1.2 = -1 ∨ ∃ j, j < l.length ∧ (ofA l).1.2 = ((j : Nat) : Int) := by
  unfold ofA at h ⊢
  by_cases h1 : 256 < l.length
  · rw [if_pos h1]; exact .inl rfl
  · rw [if_neg h1] at h ⊢
    rcases ofR_at _ _ _ h with q | ⟨j, q1, q2⟩
    · exact .inl q
    · exact .inr ⟨j, by omega, q2⟩
theorem from_cell {w : World} {L q cf j x : Nat} {Af : Option Addr} {l : List (Elm × Nat)} (h : w.ownsRow L 3 1 (.slice Af q cf) q (l.map fun p => .int .i64 (p.2 : Int))) (hj : j < q) (hx : (l.map (·.2))[j]? = some x) : ∃ gb, Af = some ⟨gb, 0, none⟩ ∧ L ≤ gb ∧ w.cell? ⟨gb, j, none⟩ = some (.int .i64 (x : Int)) := by
  have h0 := h
  obtain ⟨_, ⟨h1, h2⟩ | ⟨g, cap, cur, h1, _⟩⟩ := h
  · omega
  · injection h1 with h1 _ _
    subst h1
    refine ⟨g, rfl, (row_ge h0 (by rfl)).1, ?_⟩
    rw [h0.cellAt j (by omega), List.getElem?_map]
    rw [List.getElem?_map] at hx
    cases hq : l[j]? with
    | none => rw [hq] at hx; cases hx
    | some u => rw [hq] at hx; cases hx; rfl
theorem prow {w w' : World} {L : Nat} {e : TypeId} {sz : Nat} {v : Value} {n : Nat} {xs : List Value} (h : w.ownsRow L e sz v n xs) (hb : Below w.heap.size w w') : w'.ownsRow L e sz v n xs := row_block h fun g hg => hb.block g (row_ge h hg).2
theorem app_st {wr wz w6 : World} {L q : Nat} {vo vf vo' : Value} {xs ys zs : List Value} {o : Obj} (h1 : wr.ownsRow L 96 8 vo q xs) (h2 : wr.ownsRow L 3 1 vf q ys) (hL : L ≤ wr.heap.size) (hb : Below wr.heap.size wr wz) (h3 : w6.ownsRow L 96 8 vo' (q + 1) zs) (hg : (wz.alloc o).grownBy w6 vo.ownBlock) :
    w6.ownsRow L 96 8 vo' (q + 1) zs ∧ w6.ownsRow L 3 1 vf q ys ∧ Below L wr w6 ∧ L ≤ w6.heap.size := by
  have hz := hb.size
  have h2z := prow h2 hb
  have h1z := prow h1 hb
  have hs := hg.size
  have hsa : (wz.alloc o).heap.size = wz.heap.size + 1 := by simp
  refine ⟨h3, ?_, ?_, by omega⟩
  · refine row_block h2z fun g hgg => ?_
    have hlt := (row_ge h2z hgg).2
    rw [hg.block g (by omega) (fun e => row_type h2z h1z (by decide) hgg e.symm)]
    exact Below.heap_alloc _ _ _ hlt
  · have hB : Below L wr (wz.alloc o) := (hb.mono hL).alloc (by omega) _
    exact hB.trans ⟨hg.os, hg.tape, hg.output, hg.size, fun j hj => hg.block j (by omega) (fun e => by have := (row_ge h1z e.symm).1; omega)⟩
theorem app_st2 {wr w6 w7 : World} {L q n : Nat} {vf vo' : Value} {ys zs : List Value} {o : Obj} (h1 : w6.ownsRow L 96 8 vo' n zs) (h2 : w6.ownsRow L 3 1 vf q ys) (hb : Below L wr w6) (hL : L ≤ w6.heap.size) (hg : (w6.alloc o).grownBy w7 vf.ownBlock) :
    w7.ownsRow L 96 8 vo' n zs ∧ Below L wr w7 := by
  have hsa : (w6.alloc o).heap.size = w6.heap.size + 1 := by simp
  refine ⟨row_block h1 fun g hgg => ?_, ?_⟩
  · have hlt := (row_ge h1 hgg).2
    rw [hg.block g (by omega) (fun e => row_type h1 h2 (by decide) hgg e.symm)]
    exact Below.heap_alloc _ _ _ hlt
  · exact (hb.alloc hL _).trans ⟨hg.os, hg.tape, hg.output, hg.size, fun j hj => hg.block j (by omega) (fun e => by have := (row_ge h2 e.symm).1; omega)⟩
set_option maxHeartbeats 8000000 in
theorem parse_main (s : ByteArray) (w : World) (hs : s.size ≤ 65536) (hw : Wow w) (he : erL 0 (liT s) = (0, 0)) :
    Calls Tryz.prog 79 #[.string s] w (PsP w s) := by
  have HER : Hid (erL 0 (liT s) = (0, 0)) := he
  have HC : Hid (∀ o, Calls Tryz.prog 104 #[.string s] (w.alloc o) fun e w' => ∃ v, e = .returned (.tuple #[v, fltV 0 0]) ∧ RdL w' v (psL s) ∧ Below (w.alloc o).heap.size (w.alloc o) w') := fun o => cut_ok s (w.alloc o) hs (hw.mln.kept ((Below.refl _ _).alloc (Nat.le_refl _) _)) he
  have HW : Hid (Wow w) := hw
  obtain ⟨n, hn⟩ : ∃ n, n = (psL s).length := ⟨_, rfl⟩
  have hn6 : n ≤ 65537 := by have := psL_len s; omega
  have HN : Hid (n = (psL s).length) := hn
  have HS : Hid (s.size ≤ 65536) := hs
  obtain ⟨i0, hi0, hz0, hz1, hz2⟩ := info_parts Tryz.infoE
  obtain ⟨j0, hj0, hy0, hy1, hy2⟩ := info_parts infoInt
  clear he hw hn hs
  go_enter Tryz.func79, Tryz.ntmps79
  go_wp2_with (first
    | (go_at_call 104; (with_reducible refine (HC.out _).mono ?_); rintro e w1 ⟨v, rfl, hrd, hb⟩; (obtain ⟨hr, hlt⟩ := two_h hb); (obtain ⟨A, cv, hv⟩ : ∃ A cv, v = .slice A n cv := (by obtain ⟨_, A, cv, h1, _⟩ := hrd; exact ⟨A, cv, by rw [h1, HN.out]⟩)); (have HP1 : Hid (RdL w1 v (psL s) ∧ w1.heap[w.heap.size]? = some (.cells #[.int .i64 0, .int .i64 0] 69 (0, 0)) ∧ Below w.heap.size w w1 ∧ w.heap.size < w1.heap.size) := ⟨hrd, hr, undralloc hb, hlt⟩); clear hb hrd hr hlt; subst hv)
    | (go_at_call 105; (with_reducible refine (lines_any _).mono ?_); rintro e w3 ⟨B, rfl, hln, hb, hB⟩; (have HP3 : Hid (Prs w w3 (.slice A n cv) s w1.heap.size B) := prs_st HP1.out HW.out hln hb); clear hln hb hB HP1))
  obtain ⟨L, hL⟩ : ∃ L, w3.heap.size = L := ⟨_, rfl⟩
  have HLL : Hid (w3.heap.size = L) := hL
  clear hL
  go_loopw [26, 7, 8] (fun iv ov fv wr => ∃ (k q : Nat), k ≤ n ∧ q ≤ k ∧ iv = .int .i64 k ∧ (∃ Ao co, ov = .slice Ao q co) ∧ (∃ Af cf, fv = .slice Af q cf) ∧ Hid (q = (acc 0 ((psL s).take k)).length ∧ wr.ownsRow L 96 8 ov q (elCs ((acc 0 ((psL s).take k)).map (·.1))) ∧ wr.ownsRow L 3 1 fv q ((acc 0 ((psL s).take k)).map fun p => .int .i64 (p.2 : Int)) ∧ Below L w3 wr ∧ (∀ j u, j < k → (psL s)[j]? = some u → okL u))) (fun iv _ _ _ => n - (intOf iv).toNat)
  case atStart => exact ⟨0, 0, Nat.zero_le _, Nat.le_refl _, rfl, ⟨none, 0, rfl⟩, ⟨none, 0, rfl⟩, rfl, World.ownsRow_nil _ _ _ _, World.ownsRow_nil _ _ _ _, Below.refl _ _, fun j u hj => absurd hj (by omega)⟩
  case round =>
    obtain ⟨k, q, hle, hqk, rfl, ⟨Ao, co, rfl⟩, ⟨Af, cf, rfl⟩, HI⟩ := hrel
    by_cases hkn : k < n
    · obtain ⟨ts, hts⟩ : ∃ ts, (psL s)[k]? = some ts := ⟨_, List.getElem?_eq_getElem (by have := HN.out; omega)⟩
      have hb3 : Below w3.heap.size w3 wr := by have := HI.out.2.2.2.1; rw [← HLL.out] at this; exact this
      have HP : Hid (Prs w wr (.slice A n cv) s w1.heap.size B) := HP3.out.kept hb3
      obtain ⟨bl, c0, m, hv, hm, A2, c2, hcell, hbl, hw2⟩ := HP.out.row hts
      have hA : A = some ⟨bl, 0, none⟩ := by injection hv
      subst hA
      have hki : (k : Int) < (n : Int) := by omega
      by_cases hne : ts = []
      · have hm0 : m = 0 := by rw [hm, hne]; rfl
        subst hm0
        have hT : acc 0 ((psL s).take (k + 1)) = acc 0 ((psL s).take k) := by rw [List.take_add_one, hts]; show acc 0 (_ ++ [ts]) = _; rw [acc_snoc, if_pos hne, List.append_nil]
        have HI2 : Hid (q = (acc 0 ((psL s).take (k + 1))).length ∧ wr.ownsRow L 96 8 (.slice Ao q co) q (elCs ((acc 0 ((psL s).take (k + 1))).map (·.1))) ∧ wr.ownsRow L 3 1 (.slice Af q cf) q ((acc 0 ((psL s).take (k + 1))).map fun p => .int .i64 (p.2 : Int)) ∧ Below L w3 wr ∧ (∀ j u, j < k + 1 → (psL s)[j]? = some u → okL u)) := by
          rw [hT]
          refine ⟨HI.out.1, HI.out.2.1, HI.out.2.2.1, HI.out.2.2.2.1, fun j u hj hu => ?_⟩
          by_cases hjk : j = k
          · subst hjk; rw [hts] at hu; cases hu; exact .inl hne
          · exact HI.out.2.2.2.2 j u (by omega) hu
        clear hb3 hv hm hbl hw2 hT HI hts
        go_wp2_with fail
        go_roundw
        case rel => exact ⟨k + 1, q, by omega, by omega, by go_num, ⟨Ao, co, rfl⟩, ⟨Af, cf, rfl⟩, HI2⟩
        case measure => simp [intOf]; omega
      · obtain ⟨bt, hA2, hct⟩ := hw2 hne
        subst hA2
        have hm0 : 0 < m := by rw [hm]; exact List.length_pos_iff.2 hne
        have hm6 : m ≤ 65536 := by rw [hm]; have := psL_row hts; have := HS.out; omega
        have hmb : ((m : Int) == 0) = false := by rw [beq_eq_false_iff_ne]; omega
        have HTS : Hid ((psL s)[k]? = some ts) := hts
        have HM : Hid (m = ts.length) := hm
        have HCT : Hid _ := hct
        have HTX : Hid (Calls Tryz.prog 107 #[.slice (some ⟨bt, 0, none⟩) m c2] wr fun e w' => e = .returned (.slice (some ⟨wr.heap.size, 0, none⟩) m m) ∧ Wd w' wr.heap.size (wdL ts) ∧ Below wr.heap.size wr w') := texts_any wr bt m c2 ts hm.symm hm6 (fun p hp => by have := (psL_tok hts hp).2; have := HS.out; omega) hct
        have HRD : Hid (∀ w4, Wd w4 wr.heap.size (wdL ts) → Below wr.heap.size wr w4 → Calls Tryz.prog 106 #[.map (some B), .slice (some ⟨wr.heap.size, 0, none⟩) m m] w4 fun e w' => ∃ y : Elm, e = .returned (.tuple #[elV y, .int .i64 (rdE (wdL ts))]) ∧ (rdE (wdL ts) = 0 → y = rdX (wdL ts)) ∧ Below w4.heap.size w4 w') := fun w4 h1 h2 => read_any w4 B wr.heap.size m m (wdL ts) (by rw [List.length_map, hm]) hm0 ((HP.out.kept h2).ln) ((HP.out.kept h2).wow) h1 (wdA_pos hts hne) (fun i => by have := wdA_size hts i; have := HS.out; omega)
        clear hb3 hv hm hbl hw2 hts hct hm6
        obtain ⟨E, hE⟩ : ∃ E, E = rdE (wdL ts) := ⟨_, rfl⟩
        have HE : Hid (E = rdE (wdL ts)) := hE
        rw [← hE] at HRD
        clear hE
        by_cases hE0 : E = 0
        · have hEb : (E != 0) = false := by simp [hE0]
          have HE0 : Hid (E = 0) := hE0
          clear hE0
          have HROW : Hid (wr.ownsRow L 96 8 (.slice Ao q co) q (elCs ((acc 0 ((psL s).take k)).map (·.1))) ∧ wr.ownsRow L 3 1 (.slice Af q cf) q ((acc 0 ((psL s).take k)).map fun p => .int .i64 (p.2 : Int)) ∧ L ≤ wr.heap.size) := ⟨HI.out.2.1, HI.out.2.2.1, by have := HI.out.2.2.2.1.size; rw [← HLL.out]; have h3 := HLL.out; omega⟩
          go_wp2_with (first
            | (go_at_call 107; (with_reducible refine (HTX.out).mono ?_); rintro e w4 ⟨rfl, hwd, hb4⟩; (have HW4 : Hid (Wd w4 wr.heap.size (wdL ts) ∧ Below wr.heap.size wr w4) := ⟨hwd, hb4⟩); clear hwd hb4)
            | (go_at_call 106; (with_reducible refine (HRD.out _ HW4.out.1 HW4.out.2).mono ?_); rintro e w5 ⟨y, rfl, hy, hb5⟩; unfold elV; (obtain ⟨wz, hwz, ⟨e0, e1, e2, e3, e4, e5, e6, e7⟩, hbz⟩ := el_st (w5 := w5) y); (have HY : Hid (E = 0 → y = rdX (wdL ts)) := hy); (have HBZ : Hid (Below wr.heap.size wr wz) := HW4.out.2.trans ((hb5.trans (hbz.mono hb5.size)).mono HW4.out.2.size)); (obtain ⟨z0, z1, z2, z3⟩ := tw_c (HP.out.kept HBZ.out).res); clear hy hb5 hbz)
            | (at_builtin; refine wpList_append_lies _ (by rfl) _ _ 54 (by rfl) L 96 i0 _ 8 104 Tryz.underlying54 hi0 hz0 hz1 hz2 (by rfl) (by decide) _ _ _ (by rfl) ((prow HROW.out.1 HBZ.out).alloc _) ⟨wz.heap.size, 0, none⟩ 1 1 (elC y) (by rfl) (by rfl) (World.news_of_block (fr := (0, 0)) (t := 96) (cs := (elC y).toArray) (heap_alloc_new _ _)) (fun u hu => by simp [elC] at hu; rcases hu with rfl | rfl | rfl | rfl | rfl | rfl | rfl | rfl <;> rfl) (by decide) (by unfold maxLen; omega) (by omega) (by have := HROW.out.2.2; have := HBZ.out.size; simp; omega) _ rfl ?_; intro g4 cp4 w6 hown4 hgrow4 hat4 hlt4; (have HG4 : Hid _ := app_st HROW.out.1 HROW.out.2.1 HROW.out.2.2 HBZ.out hown4 hgrow4); clear hown4 hgrow4 hat4 hlt4)
            | (at_builtin; refine wpList_append_lies _ (by rfl) _ _ 160 (by rfl) L 3 j0 _ 1 8 Tryz.underlying160 hj0 hy0 hy1 hy2 (by rfl) (by decide) _ _ _ (by rfl) (HG4.out.2.1.alloc _) ⟨w6.heap.size, 0, none⟩ 1 1 [.int .i64 (k : Int)] (by rfl) (by rfl) (World.news_of_block (fr := (0, 0)) (t := 3) (cs := #[.int .i64 (k : Int)]) (heap_alloc_new _ _)) (fun u hu => by simp at hu; rw [hu]; rfl) (by decide) (by unfold maxLen; omega) (by omega) (by have := HG4.out.2.2.2; simp; omega) _ rfl ?_; intro g7 cp7 w7 hown7 hgrow7 hat7 hlt7))
          go_roundw
          case rel =>
            have hk2 : k < (psL s).length := by have := HN.out; omega
            have hT : acc 0 ((psL s).take (k + 1)) = acc 0 ((psL s).take k) ++ [(rdX (wdL ts), k)] := by
              rw [List.take_add_one, HTS.out]; show acc 0 (_ ++ [ts]) = _
              rw [acc_snoc, if_neg hne, List.length_take, Nat.min_eq_left (by omega), Nat.zero_add]
            have hyx : y = rdX (wdL ts) := HY.out HE0.out
            have hA2 := app_st2 HG4.out.1 HG4.out.2.1 HG4.out.2.2.1 HG4.out.2.2.2 hgrow7
            refine ⟨k + 1, q + 1, by omega, by omega, by go_num, ⟨_, _, rfl⟩, ⟨_, _, rfl⟩, ?_, ?_, ?_, ?_, ?_⟩
            · rw [hT, List.length_append, ← HI.out.1]; rfl
            · rw [hT, List.map_append]; show World.ownsRow _ _ _ _ _ _ (elCs (_ ++ [rdX (wdL ts)])); rw [elCs_snoc, ← hyx]; exact hA2.1
            · rw [hT, List.map_append]; exact hown7
            · exact HI.out.2.2.2.1.trans hA2.2
            · intro j u hj hu
              by_cases hjk : j = k
              · subst hjk; rw [HTS.out] at hu; cases hu; exact .inr (HE.out.symm.trans HE0.out)
              · exact HI.out.2.2.2.2 j u (by omega) hu
          case measure => simp [intOf]; omega
        · have hEb : (E != 0) = true := by simp [hE0]
          have HE0 : Hid (¬ E = 0) := hE0
          clear hE0
          go_wp2_with (first
            | (go_at_call 107; (with_reducible refine (HTX.out).mono ?_); rintro e w4 ⟨rfl, hwd, hb4⟩; (have HW4 : Hid (Wd w4 wr.heap.size (wdL ts) ∧ Below wr.heap.size wr w4) := ⟨hwd, hb4⟩); clear hwd hb4)
            | (go_at_call 106; (with_reducible refine (HRD.out _ HW4.out.1 HW4.out.2).mono ?_); rintro e w5 ⟨y, rfl, hy, hb5⟩; unfold elV; (obtain ⟨wz, hwz, ⟨e0, e1, e2, e3, e4, e5, e6, e7⟩, hbz⟩ := el_st (w5 := w5) y); (have HY : Hid (E = 0 → y = rdX (wdL ts)) := hy); (have HBZ : Hid (Below wr.heap.size wr wz) := HW4.out.2.trans ((hb5.trans (hbz.mono hb5.size)).mono HW4.out.2.size)); (obtain ⟨z0, z1, z2, z3⟩ := tw_c (HP.out.kept HBZ.out).res); clear hy hb5 hbz))
          have T := tw_set (HP.out.kept HBZ.out).res (.int .i64 E) (.int .i64 (k : Int))
          obtain ⟨t0, t1⟩ := T
          refine bodyPost_ret (by simp [results, Tryz.results79, go_sem, t0, t1]; try rfl) rfl ?_
          have hpe : psE s = (E, (k : Int)) := by
            have h1 : prsE 0 (psL s) = (rdE (wdL ts), ((0 + k : Nat) : Int)) := prs_bad HTS.out (fun hok => by rcases hok with h | h; exact hne h; exact HE0.out (HE.out.trans h)) HI.out.2.2.2.2 0
            rw [Nat.zero_add, ← HE.out] at h1
            unfold psE
            rw [HER.out, h1]
            show (if (0 : Nat) ≠ 0 then _ else if E ≠ 0 then _ else _) = _
            rw [if_neg (by simp), if_pos HE0.out]
          exact ⟨tw_bel (HP.out.kept HBZ.out).bel (Nat.le_refl _) _ _, .inr ⟨by rw [hpe]; exact HE0.out, by rw [hpe]⟩⟩
    · obtain rfl : k = n := by omega
      have hkk : ¬ ((k : Int) < (k : Int)) := by omega
      have htk : (psL s).take k = psL s := by rw [HN.out, List.take_length]
      have hq : q = (psA s).length := by have := HI.out.1; rw [htk] at this; rw [this]; unfold psA; rw [List.length_map]
      have hrow : wr.ownsRow L 96 8 (.slice Ao q co) q (elCs (psA s)) := by have := HI.out.2.1; rw [htk] at this; exact this
      have hrow2 : wr.ownsRow L 3 1 (.slice Af q cf) q ((acc 0 (psL s)).map fun p => .int .i64 (p.2 : Int)) := by have := HI.out.2.2.1; rw [htk] at this; exact this
      have hall : ∀ ts ∈ psL s, okL ts := fun ts ht => by
        obtain ⟨j, hj⟩ := List.mem_iff_getElem?.1 ht
        exact HI.out.2.2.2.2 j ts (by have := (List.getElem?_eq_some_iff.1 hj).1; have := HN.out; omega) hj
      have hpe : psE s = psF s (ofA (psA s)).1 := by
        unfold psE
        rw [HER.out, prs_ok hall 0]
        show (if (0 : Nat) ≠ 0 then _ else if (0 : Int) ≠ 0 then _ else _) = _
        rw [if_neg (by simp), if_neg (by simp)]; rfl
      have hOf := ofl_row wr L q _ (psA s) hq.symm (by omega) hrow (acc_ok HS.out)
      have hb3 : Below w3.heap.size w3 wr := by have := HI.out.2.2.2.1; rw [← HLL.out] at this; exact this
      have HP : Hid (Prs w wr (.slice A k cv) s w1.heap.size B) := HP3.out.kept hb3
      have HPE : Hid _ := hpe
      have HR2 : Hid (wr.ownsRow L 3 1 (.slice Af q cf) q ((acc 0 (psL s)).map fun p => .int .i64 (p.2 : Int)) ∧ q = (psA s).length) := ⟨hrow2, hq⟩
      clear htk hrow hrow2 hall hpe hb3 hq HI
      go_wp2_with fail
      refine hOf.mono ?_
      rintro e6 w6 ⟨hb6, hcase⟩
      have HP6 : Hid _ := HP.out.kept hb6
      obtain ⟨z0, z1, z2, z3⟩ := tw_c HP6.out.res
      obtain ⟨y0, y1, y2, y3⟩ := tw_c HP6.out.flt
      have hne1 : ¬ w.heap.size = w1.heap.size := by have := HP6.out.hF; omega
      have hne2 : ¬ w1.heap.size = w.heap.size := by omega
      have HB6 : Hid (Below wr.heap.size wr w6) := hb6
      clear hOf hb6
      obtain ⟨f, hf⟩ : ∃ f, (ofA (psA s)).1.1 = f := ⟨_, rfl⟩
      obtain ⟨g, hg⟩ : ∃ g, (ofA (psA s)).1.2 = g := ⟨_, rfl⟩
      have HFG : Hid ((ofA (psA s)).1 = (f, g)) := Prod.ext hf hg
      rcases hcase with ⟨h00, b0, p, b, rfl, hN, hp, _⟩ | ⟨hne, rfl⟩
      · clear hf hg
        obtain ⟨wz, hwz, k2, hk, hsz, hbz⟩ := fl_st HP6.out.flt (.int .i64 0) (.int .i64 0)
        have k1 := (hk _ hne1).trans HP6.out.res
        have HBz : Hid (Below w.heap.size w wz) := hbz _ (by have := HP6.out.hF; omega) _ HP6.out.bel
        have HNt : Hid (Nt wz b0 p (ofA (psA s)).2 b ∧ w.heap.size < p ∧ (ofA (psA s)).1 = (0, 0)) := ⟨hN.but2 (by have := HP.out.flt; have := (Array.getElem?_eq_some_iff.1 this).1; omega) y0 (by omega) hk, by have := HP.out.bel.size; have := HP.out.hF; have := HP.out.flt; have := (Array.getElem?_eq_some_iff.1 this).1; omega, h00⟩
        clear hN hp h00 z0 z1 z2 z3 hk hsz hbz
        obtain ⟨z0, z1, z2, z3⟩ := tw_c k1
        obtain ⟨v0, v1, v2, v3⟩ := tw_c k2
        have T := tw_set k1 (.int .i64 0) (.int .i64 0)
        obtain ⟨t0, t1⟩ := T
        have HS2 : Hid (Nt ((wz.setCell ⟨w.heap.size, 0, none⟩ (.int .i64 0)).setCell ⟨w.heap.size, 1, none⟩ (.int .i64 0)) b0 p (ofA (psA s)).2 b) := HNt.out.1.set2 HNt.out.2.1 k1 _ _
        have hpe : psE s = (0, 0) := by rw [HPE.out, HNt.out.2.2]; rfl
        clear k1 k2
        go_wp2_with fail
        go_region
        all_goals go_wp2_with fail
        all_goals refine bodyPost_ret (by simp [results, Tryz.results79, go_sem, t0, t1]; try rfl) rfl ?_
        all_goals refine ⟨by first | exact (tw_bel HBz.out (Nat.le_refl _) _ _).drew | exact tw_bel HBz.out (Nat.le_refl _) _ _, .inl ⟨hpe, HNt.out.2.2, b0, p, b, rfl, by first | exact HS2.out | exact HS2.out.below ((Below.refl _ _).drew), by have := HNt.out.2.1; omega⟩⟩
      · have hat := ofA_at (psA s) hne
        rw [hf] at hne ⊢
        rw [hg] at hat ⊢
        have hfb : (f != 0) = true := by simp [hne]
        have HNE : Hid (f ≠ 0) := hne
        rcases hat with hg1 | ⟨j, hj, hg1⟩
        all_goals subst hg1
        · have hpe : psE s = (f, -1) := by rw [HPE.out, HFG.out]; exact if_neg (by simp)
          clear hf hg hne
          obtain ⟨wz, hwz, k2, hk, hsz, hbz⟩ := fl_st HP6.out.flt (.int .i64 f) (.int .i64 (-1))
          have k1 := (hk _ hne1).trans HP6.out.res
          have HBz : Hid (Below w.heap.size w wz) := hbz _ (by have := HP6.out.hF; omega) _ HP6.out.bel
          clear z0 z1 z2 z3 hk hsz hbz
          obtain ⟨z0, z1, z2, z3⟩ := tw_c k1
          obtain ⟨v0, v1, v2, v3⟩ := tw_c k2
          have T := tw_set k1 (.int .i64 f) (.int .i64 (-1))
          obtain ⟨t0, t1⟩ := T
          clear k1 k2
          go_wp2_with fail
          go_region
          all_goals go_wp2_with fail
          all_goals refine bodyPost_ret (by simp [results, Tryz.results79, go_sem, t0, t1]; try rfl) rfl ?_
          all_goals exact ⟨by first | exact (tw_bel HBz.out (Nat.le_refl _) _ _).drew | exact tw_bel HBz.out (Nat.le_refl _) _ _, .inr ⟨by rw [hpe]; exact HNE.out, by rw [hpe]⟩⟩
        · have hjq : j < q := by have := HR2.out.2; omega
          have hji : (j : Int) < (q : Int) := by omega
          have hj0 : (0 : Int) ≤ (j : Int) := by omega
          obtain ⟨x, hx⟩ : ∃ x, ((acc 0 (psL s)).map (·.2))[j]? = some x := ⟨_, List.getElem?_eq_getElem (by have := HR2.out.2; unfold psA at this; simp at this ⊢; omega)⟩
          have hpe : psE s = (f, (x : Int)) := by
            rw [HPE.out, HFG.out]
            refine (if_pos ⟨HNE.out, hj0⟩).trans ?_
            show (f, ((((acc 0 (psL s)).map (·.2)).getD (j : Int).toNat 0 : Nat) : Int)) = _
            rw [Int.toNat_natCast, List.getD_eq_getElem?_getD, hx]; rfl
          obtain ⟨gb, rfl, hgb, hgc⟩ := from_cell (prow HR2.out.1 HB6.out) hjq hx
          have hne3 : ¬ gb = w1.heap.size := by have := HP3.out.flt; have := (Array.getElem?_eq_some_iff.1 this).1; have := HLL.out; omega
          have hne4 : ¬ w1.heap.size = gb := by omega
          clear hf hg hne hj hjq hx hgb
          obtain ⟨wz, hwz, k2, hk, hsz, hbz⟩ := fl_st HP6.out.flt (.int .i64 f) (.int .i64 (j : Int))
          have k1 := (hk _ hne1).trans HP6.out.res
          have hgz : wz.cell? ⟨gb, j, none⟩ = some (.int .i64 (x : Int)) := (World.cell?_of_block (hk _ hne3)).trans hgc
          have HBz : Hid (Below w.heap.size w wz) := hbz _ (by have := HP6.out.hF; omega) _ HP6.out.bel
          clear z0 z1 z2 z3 hk hsz hbz hgc
          obtain ⟨v0, v1, v2, v3⟩ := tw_c k2
          obtain ⟨wy, hwy, m2, hmk, hmz, hmb⟩ := fl_st1 k2 (.int .i64 (x : Int))
          have m1 := (hmk _ hne1).trans k1
          have HBy : Hid (Below w.heap.size w wy) := hmb _ (by have := HP6.out.hF; omega) _ HBz.out
          obtain ⟨z0, z1, z2, z3⟩ := tw_c m1
          obtain ⟨q0, q1, q2, q3⟩ := tw_c m2
          have T := tw_set m1 (.int .i64 f) (.int .i64 (x : Int))
          obtain ⟨t0, t1⟩ := T
          clear k1 k2 m1 m2 hmk hmz hmb
          go_wp2_with fail
          go_region
          all_goals go_wp2_with fail
          all_goals refine bodyPost_ret (by simp [results, Tryz.results79, go_sem, t0, t1]; try rfl) rfl ?_
          all_goals exact ⟨by first | exact (tw_bel HBy.out (Nat.le_refl _) _ _).drew | exact tw_bel HBy.out (Nat.le_refl _) _ _, .inr ⟨by rw [hpe]; exact HNE.out, by rw [hpe]⟩⟩
end Go.Proofs.YtmpkcioeodlbcaaGreatDoor
