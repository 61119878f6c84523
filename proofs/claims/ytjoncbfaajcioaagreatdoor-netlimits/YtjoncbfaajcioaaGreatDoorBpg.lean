/-
  Several texts in one: Nlm Nln Nlo.
-/
import Derived.Test.YtjoncbfaajcioaaGreatDoorNps
import Derived.Test.YtjoncbfaajcioaaGreatDoorBpd
import Derived.Test.YtjoncbfaajcioaaGreatDoorNpg
import Derived.Laws.BytesArg
import Derived.ArgAppend
namespace Go.Proofs.YtjoncbfaajcioaaGreatDoor
open Go.Maps Go.RowKit
set_option linter.unusedVariables false
set_option maxRecDepth 100000

def nmI (c i : Nat) : ByteArray := ⟨#[UInt8.ofNat c, UInt8.ofNat (97 + i / 20), UInt8.ofNat (97 + i % 20)]⟩
def elR (i : Nat) : Elm := ⟨1, nmI 82 i, nmI 110 (i % 32), ⟨#[48]⟩, ⟨#[]⟩, ⟨#[]⟩, 4607182418800017408, 0⟩
def elW (i : Nat) : Elm := ⟨5, nmI 86 i, nmI 110 (i % 32), ⟨#[48]⟩, ⟨#[]⟩, ⟨#[]⟩, 4607182418800017408, 0⟩
def elX : Elm := ⟨1, ⟨#[82, 120]⟩, ⟨#[120]⟩, ⟨#[48]⟩, ⟨#[]⟩, ⟨#[]⟩, 4607182418800017408, 0⟩
def lmR (n : Nat) : List Elm := (List.range n).map elR
def lmV (n : Nat) : List Elm := lmR 32 ++ (List.range n).map elW
theorem lim_256 : ((ofA (lmR 256)).1 == (0, 0) && (ofA (lmR 256)).2.nd.length == 32) = true := by decide +kernel
theorem lim_x : (ofA (lmR 32 ++ [elX])).1 = (3, -1) := by decide +kernel
theorem lim_64 : ((ofA (lmV 32)).1 == (0, 0) && (ofA (lmV 32)).2.nd.length + (ofA (lmV 32)).2.br.length == 64) = true := by decide +kernel
theorem lim_65 : (ofA (lmV 33)).1 = (3, -1) := by decide +kernel
theorem elR_ok {i : Nat} : (elR i).ok := ⟨by show 1 < 256; omega, by show (3 : Nat) ≤ _; omega, by show (3 : Nat) ≤ _; omega, by show (1 : Nat) ≤ _; omega, by show (0 : Nat) ≤ _; omega, by show (0 : Nat) ≤ _; omega, by show 4607182418800017408 < _; omega⟩
theorem elW_ok {i : Nat} : (elW i).ok := ⟨by show 5 < 256; omega, by show (3 : Nat) ≤ _; omega, by show (3 : Nat) ≤ _; omega, by show (1 : Nat) ≤ _; omega, by show (0 : Nat) ≤ _; omega, by show (0 : Nat) ≤ _; omega, by show 4607182418800017408 < _; omega⟩
theorem elX_ok : elX.ok := ⟨by show 1 < 256; omega, by show (2 : Nat) ≤ _; omega, by show (1 : Nat) ≤ _; omega, by show (1 : Nat) ≤ _; omega, by show (0 : Nat) ≤ _; omega, by show (0 : Nat) ≤ _; omega, by show 4607182418800017408 < _; omega⟩
theorem lmR_ok (n : Nat) : ∀ x ∈ lmR n, x.ok := fun x hx => by obtain ⟨i, _, rfl⟩ := List.mem_map.1 hx; exact elR_ok
theorem lmV_ok (n : Nat) : ∀ x ∈ lmV n, x.ok := fun x hx => by
  rcases List.mem_append.1 hx with h | h
  · exact lmR_ok _ x h
  · obtain ⟨i, _, rfl⟩ := List.mem_map.1 h; exact elW_ok
theorem lmX_ok : ∀ x ∈ lmR 32 ++ [elX], x.ok := fun x hx => by
  rcases List.mem_append.1 hx with h | h
  · exact lmR_ok _ x h
  · simp at h; rw [h]; exact elX_ok
theorem lmR_len (n : Nat) : (lmR n).length = n := by simp [lmR]
theorem lmV_len (n : Nat) : (lmV n).length = 32 + n := by simp [lmV, lmR]
theorem lmR_snoc (n : Nat) : lmR (n + 1) = lmR n ++ [elR n] := by simp [lmR, List.range_succ]
theorem lmV_snoc (n : Nat) : lmV (n + 1) = lmV n ++ [elW n] := by simp [lmV, List.range_succ]
theorem lmR_take (n k : Nat) (h : k ≤ n) : (lmR n).take k = lmR k := by
  unfold lmR; rw [← List.map_take, List.take_range, Nat.min_eq_left h]
theorem lmV_take (n k : Nat) (h : k ≤ n) : (lmV n).take (32 + k) = lmV k := by
  unfold lmV
  rw [List.take_append, lmR_len, List.take_of_length_le (by rw [lmR_len]; omega), Nat.add_sub_cancel_left, ← List.map_take, List.take_range, Nat.min_eq_left h]
end Go.Proofs.YtjoncbfaajcioaaGreatDoor

namespace Go.Proofs.YtjoncbfaajcioaaGreatDoor
open Go.Maps Go.RowKit
set_option linter.unusedVariables false
set_option maxRecDepth 100000

theorem nm_conv (w : World) (a b c : Nat) (T : TypeId) : (convert 62 9 (.slice (some ⟨w.heap.size, 0, none⟩) 3 3)).run Tryz.prog (w.alloc (.cells #[.int .u8 (a : Int), .int .u8 (b : Int), .int .u8 (c : Int)] T)) = .ok (.string ⟨#[UInt8.ofNat a, UInt8.ofNat b, UInt8.ofNat c]⟩) (w.alloc (.cells #[.int .u8 (a : Int), .int .u8 (b : Int), .int .u8 (c : Int)] T)) := by
  have h := run_convert_bytes_arg (P := Tryz.prog) (w.alloc (.cells #[.int .u8 (a : Int), .int .u8 (b : Int), .int .u8 (c : Int)] T)) 62 5 Tryz.underlying62 Tryz.underlying5 w.heap.size 0 3 3 [(a : Int), (b : Int), (c : Int)] rfl (fun i hi => by
    rw [World.cell?_alloc_new]
    rcases (by omega : i = 0 ∨ i = 1 ∨ i = 2) with rfl | rfl | rfl <;> rfl) 9 Tryz.underlying9
  rw [h]
  rfl
theorem nm_any (c i : Nat) (hc : c < 256) (hi : i ≤ 300) (w : World) : Calls Tryz.prog 24 #[.int .u8 (c : Int), .int .i64 (i : Int)] w fun e w' => e = .returned (.string (nmI c i)) ∧ Below w.heap.size w w' := by
  have q1 : (i : Int).tdiv 20 = ((i / 20 : Nat) : Int) := rfl
  have q2 : (i : Int).tmod 20 = ((i % 20 : Nat) : Int) := rfl
  obtain ⟨d, hd⟩ : ∃ d, i / 20 = d := ⟨_, rfl⟩
  obtain ⟨r, hr⟩ : ∃ r, i % 20 = r := ⟨_, rfl⟩
  have hd1 : d ≤ 15 := by omega
  have hr1 : r ≤ 19 := by omega
  have HE : Hid (nmI c i = ⟨#[UInt8.ofNat c, UInt8.ofNat (97 + d), UInt8.ofNat (97 + r)]⟩) := by show _ = _; unfold nmI; rw [hd, hr]
  rw [hd] at q1
  rw [hr] at q2
  have w1 : wrap64 (97 + (d : Int)) = ((97 + d : Nat) : Int) := by unfold wrap64; omega
  have w2 : wrap64 (97 + (r : Int)) = ((97 + r : Nat) : Int) := by unfold wrap64; omega
  have u1 : IntKind.u8.wrap ((97 + d : Nat) : Int) = ((97 + d : Nat) : Int) := by rw [show ∀ z : Int, IntKind.u8.wrap z = z % 256 from fun _ => rfl]; omega
  have u2 : IntKind.u8.wrap ((97 + r : Nat) : Int) = ((97 + r : Nat) : Int) := by rw [show ∀ z : Int, IntKind.u8.wrap z = z % 256 from fun _ => rfl]; omega
  have hcv := nm_conv w c (97 + d) (97 + r) 5
  rw [show ((97 + d : Nat) : Int) = 97 + (d : Int) from by omega, show ((97 + r : Nat) : Int) = 97 + (r : Int) from by omega] at hcv
  clear hd hr
  go_enter Tryz.func24, Tryz.ntmps24
  go_wp2_with fail
  go_ret
  refine ⟨?_, (Below.refl _ _).alloc (Nat.le_refl _) _⟩
  rw [HE.out, UInt8.ofNat_add, UInt8.ofNat_add]; rfl
theorem nm_R (i : Nat) (hi : i ≤ 300) (w : World) : Calls Tryz.prog 24 #[.int .u8 82, .int .i64 (i : Int)] w fun e w' => e = .returned (.string (nmI 82 i)) ∧ Below w.heap.size w w' := nm_any 82 i (by decide) hi w
theorem nm_N (i : Nat) (hi : i ≤ 300) (w : World) : Calls Tryz.prog 24 #[.int .u8 110, .int .i64 (i : Int)] w fun e w' => e = .returned (.string (nmI 110 i)) ∧ Below w.heap.size w w' := nm_any 110 i (by decide) hi w
theorem nm_V (i : Nat) (hi : i ≤ 300) (w : World) : Calls Tryz.prog 24 #[.int .u8 86, .int .i64 (i : Int)] w fun e w' => e = .returned (.string (nmI 86 i)) ∧ Below w.heap.size w w' := nm_any 86 i (by decide) hi w
/-- a block whose first cells are the elements l -/
def Rl (W : World) (g : Nat) (l : List Elm) : Prop := ∀ (k : Nat) (x : Elm), l[k]? = some x → E8 W g (k * 8) x
theorem Rl.below {W W' : World} {g : Nat} {l : List Elm} (h : Rl W g l) (hb : Below W.heap.size W W') : Rl W' g l := fun k x hk => (h k x hk).bel (h k x hk).lt hb
theorem rl_row {W : World} {base g cap n : Nat} {l : List Elm} (h : W.ownsRow base 31 8 (.slice (some ⟨g, 0, none⟩) n cap) n (elCs l)) (hl : l.length = n) : Rl W g l := fun k x hk => oe8_row h hk (by rw [← hl]; exact (List.getElem?_eq_some_iff.1 hk).1)
theorem Rl.pre {W : World} {g : Nat} {l m : List Elm} (h : Rl W g l) (hm : m <+: l) : Rl W g m := fun k x hk => h k x (by
  obtain ⟨t, rfl⟩ := hm
  rw [List.getElem?_append_left (List.getElem?_eq_some_iff.1 hk).1]; exact hk)
theorem Rl.rd {W : World} {g n c : Nat} {l : List Elm} (h : Rl W g l) (hl : l.length = n) (hn : n ≤ 1000) : RdE W (.slice (some ⟨g, 0, none⟩) n c) l := by
  subst hl
  exact ⟨by omega, _, _, rfl, .inr ⟨g, rfl, h⟩⟩
theorem Rl.cells {W : World} {g : Nat} {l : List Elm} (h : Rl W g l) : ∀ (j : Nat) (u : Value), (elCs l)[j]? = some u → W.cell? ((⟨g, 0, none⟩ : Addr).add j) = some u := by
  intro j u hj
  have hlen := (List.getElem?_eq_some_iff.1 hj).1
  rw [elCs_len] at hlen
  have hk : j / 8 < l.length := by omega
  have h1 := h (j / 8) _ (List.getElem?_eq_getElem hk)
  have h2 := elCs_get (l := l) (j := j / 8) (x := l[j / 8]) (List.getElem?_eq_getElem hk) (c := j % 8) (by omega)
  rw [show j / 8 * 8 + j % 8 = j by omega] at h2
  rw [h2] at hj
  rw [Addr.add_lit]
  simp only [Nat.zero_add]
  obtain ⟨c0, c1, c2, c3, c4, c5, c6, c7⟩ := h1
  have hj8 : j = j / 8 * 8 + j % 8 := by omega
  rcases (by omega : j % 8 = 0 ∨ j % 8 = 1 ∨ j % 8 = 2 ∨ j % 8 = 3 ∨ j % 8 = 4 ∨ j % 8 = 5 ∨ j % 8 = 6 ∨ j % 8 = 7) with q | q | q | q | q | q | q | q
  all_goals
    rw [q] at hj
    rw [hj8, q]
    simp [elC] at hj
    subst hj
    assumption
theorem lm_pre {n k : Nat} (h : k ≤ n) : lmR k <+: lmR n := by rw [← lmR_take n k h]; exact List.take_prefix _ _
theorem lv_pre {n k : Nat} (h : k ≤ n) : lmV k <+: lmV n := by rw [← lmV_take n k h]; exact List.take_prefix _ _
/-- a net of so many is refused -/
theorem of_long3 (W : World) (v : Value) (l : List Elm) (h : Calls Tryz.prog 16 #[v] W (OfP W l)) (hl : (ofA l).1 = (3, -1)) : Calls Tryz.prog 16 #[v] W fun e w' => e = .returned (.tuple #[.pointer none, .agg #[.int .i64 3, .int .i64 (-1)]]) ∧ Below W.heap.size W w' := by
  refine h.mono ?_
  rintro e w' ⟨hb, ⟨h1, -⟩ | ⟨h1, rfl⟩⟩
  · rw [hl] at h1; exact absurd h1 (by decide)
  · rw [hl]; exact ⟨rfl, hb⟩
theorem of_fine (W : World) (v : Value) (l : List Elm) (h : Calls Tryz.prog 16 #[v] W (OfP W l)) (hl : (ofA l).1 = (0, 0)) : Calls Tryz.prog 16 #[v] W fun e w' => ∃ p, e = .returned (.tuple #[.pointer (some ⟨p, 0, none⟩), .agg #[.int .i64 0, .int .i64 0]]) ∧ Hid (Below W.heap.size W w' ∧ ∃ base b, Nt w' base p (ofA l).2 b) := by
  refine h.mono ?_
  rintro e w' ⟨hb, ⟨h1, base, p, b, rfl, h2, h3, h4⟩ | ⟨h1, -⟩⟩
  · exact ⟨p, rfl, hb, base, b, h2⟩
  · rw [hl] at h1; exact absurd rfl h1
theorem l256 : (ofA (lmR 256)).1 = (0, 0) ∧ (ofA (lmR 256)).2.nd.length = 32 := by have := lim_256; rw [Bool.and_eq_true, beq_iff_eq, beq_iff_eq] at this; exact this
theorem l64 : (ofA (lmV 32)).1 = (0, 0) ∧ (ofA (lmV 32)).2.nd.length + (ofA (lmV 32)).2.br.length = 64 := by have := lim_64; rw [Bool.and_eq_true, beq_iff_eq, beq_iff_eq] at this; exact this
theorem of_256 (W : World) (g c : Nat) (h : Rl W g (lmR 257)) : Calls Tryz.prog 16 #[.slice (some ⟨g, 0, none⟩) 256 c] W fun e w' => ∃ p, e = .returned (.tuple #[.pointer (some ⟨p, 0, none⟩), .agg #[.int .i64 0, .int .i64 0]]) ∧ Hid (Below W.heap.size W w' ∧ ∃ base b, Nt w' base p (ofA (lmR 256)).2 b) :=
  of_fine _ _ _ (netOf_any W _ (lmR 256) ((h.pre (lm_pre (by omega))).rd (lmR_len 256) (by omega)) (lmR_ok 256)) l256.1
theorem of_257 (W : World) (g c : Nat) (h : Rl W g (lmR 257)) : Calls Tryz.prog 16 #[.slice (some ⟨g, 0, none⟩) 257 c] W fun e w' => e = .returned (.tuple #[.pointer none, .agg #[.int .i64 3, .int .i64 (-1)]]) ∧ Below W.heap.size W w' :=
  of_long3 _ _ _ (netOf_any W _ (lmR 257) (h.rd (lmR_len 257) (by omega)) (lmR_ok 257)) (by unfold ofA; rw [if_pos (by rw [lmR_len]; omega)])
theorem of_x (W : World) (base : Nat) (v : Value) (h : W.ownsRow base 31 8 v 33 (elCs (lmR 32) ++ elC elX)) : Calls Tryz.prog 16 #[v] W fun e w' => e = .returned (.tuple #[.pointer none, .agg #[.int .i64 3, .int .i64 (-1)]]) ∧ Below W.heap.size W w' :=
  of_long3 _ _ (lmR 32 ++ [elX]) (ofl_row W base 33 v _ (by simp [lmR_len]) (by omega) (by rw [elCs_snoc]; exact h) lmX_ok) lim_x
theorem of_64 (W : World) (g c : Nat) (h : Rl W g (lmV 33)) : Calls Tryz.prog 16 #[.slice (some ⟨g, 0, none⟩) 64 c] W fun e w' => ∃ p, e = .returned (.tuple #[.pointer (some ⟨p, 0, none⟩), .agg #[.int .i64 0, .int .i64 0]]) ∧ Hid (Below W.heap.size W w' ∧ ∃ base b, Nt w' base p (ofA (lmV 32)).2 b) :=
  of_fine _ _ _ (netOf_any W _ (lmV 32) ((h.pre (lv_pre (by omega))).rd (lmV_len 32) (by omega)) (lmV_ok 32)) l64.1
theorem of_65 (W : World) (g c : Nat) (h : Rl W g (lmV 33)) : Calls Tryz.prog 16 #[.slice (some ⟨g, 0, none⟩) 65 c] W fun e w' => e = .returned (.tuple #[.pointer none, .agg #[.int .i64 3, .int .i64 (-1)]]) ∧ Below W.heap.size W w' :=
  of_long3 _ _ _ (netOf_any W _ (lmV 33) (h.rd (lmV_len 33) (by omega)) (lmV_ok 33)) lim_65
theorem nodes_32 (W : World) (p : Nat) (h : ∃ base b, Nt W base p (ofA (lmR 256)).2 b) : Calls Tryz.prog 17 #[.pointer (some ⟨p, 0, none⟩)] W fun e w' => ∃ (A : Option Addr) (c : Nat), e = .returned (.slice A 32 c) ∧ Below W.heap.size W w' := by
  obtain ⟨base, b, hN⟩ := h
  refine (nodes_made hN (by rw [l256.2]; decide)).mono ?_
  rintro e w' ⟨v', rfl, hr, hb⟩
  obtain ⟨A, c, rfl⟩ := orow_slice hr
  rw [l256.2]
  exact ⟨A, c, rfl, hb⟩
theorem order_64 (W : World) (p : Nat) (h : ∃ base b, Nt W base p (ofA (lmV 32)).2 b) : Calls Tryz.prog 18 #[.pointer (some ⟨p, 0, none⟩)] W fun e w' => e = .returned (.int .i64 64) ∧ Below W.heap.size W w' := by
  obtain ⟨base, b, hN⟩ := h
  have := norder_made hN (by have := l64.2; omega) (by have := l64.2; omega)
  rw [l64.2] at this
  exact this
end Go.Proofs.YtjoncbfaajcioaaGreatDoor

namespace Go.Proofs.YtjoncbfaajcioaaGreatDoor
open Go.Maps Go.RowKit Joins Deep
set_option linter.unusedVariables false
set_option maxRecDepth 100000

theorem fl_cellsL {W : World} {f : Nat} {a b : Int} (h : W.heap[f]? = some (.cells #[.int .i64 a, .int .i64 b] 25 (0, 0))) : W.cell? ⟨f, 0, none⟩ = some (.int .i64 a) ∧ W.cell? ⟨f, 1, none⟩ = some (.int .i64 b) ∧ f < W.heap.size := ⟨(tw_c h).1, (tw_c h).2.1, (Array.getElem?_eq_some_iff.1 h).1⟩
theorem blk_keptL {W W' : World} {f : Nat} {o : Obj} (h : W.heap[f]? = some o) (hb : Below W.heap.size W W') : W'.heap[f]? = some o := by rw [hb.block f (Array.getElem?_eq_some_iff.1 h).1]; exact h
structure Stg16 (n : Nat) : Prop where
  t : True
/-- faults that lie in memory -/
def Fk (W : World) (fs : List (Nat × Int × Int)) : Prop := ∀ x ∈ fs, W.heap[x.1]? = some (.cells #[.int .i64 x.2.1, .int .i64 x.2.2] 25 (0, 0))
theorem Fk.below {W W' : World} {fs : List (Nat × Int × Int)} (h : Fk W fs) (hb : Below W.heap.size W W') : Fk W' fs := fun x hx => blk_keptL (h x hx) hb
theorem Fk.push {W : World} {fs : List (Nat × Int × Int)} (h : Fk W fs) (a b : Int) : Fk (W.alloc (.cells #[.int .i64 a, .int .i64 b] 25)) ((W.heap.size, a, b) :: fs) := fun x hx => by
  rcases List.mem_cons.1 hx with rfl | q
  · exact heap_alloc_new _ _
  · exact (h.below ((Below.refl _ _).alloc (Nat.le_refl _) _)) x q
theorem nt_below {W W' : World} {p : Nat} {N : Ns} (h : ∃ base b, Nt W base p N b) (hb : Below W.heap.size W W') : ∃ base b, Nt W' base p N b := by
  obtain ⟨base, b, hN⟩ := h
  exact ⟨base, b, hN.below hb⟩
theorem al_b (W : World) (o : Obj) : Below W.heap.size W (W.alloc o) := (Below.refl _ _).alloc (Nat.le_refl _) o
theorem bt9 {a b c : World} (h : Below a.heap.size a b) (k : Below b.heap.size b c) : Below a.heap.size a c := h.trans (k.mono h.size)
theorem lim_mid {w7 : World} {fs : List (Nat × Int × Int)} (h : Fk w7 fs) : ∃ W8, w7.alloc (.cells #[.int .i64 3, .int .i64 (-1)] 25) = W8 ∧ Hid (Below w7.heap.size w7 W8) ∧ Hid (Fk W8 ((w7.heap.size, 3, -1) :: fs)) := ⟨_, rfl, al_b _ _, h.push 3 (-1)⟩
theorem lim_end {w12 : World} {fs : List (Nat × Int × Int)} (h : Fk w12 fs) : ∃ Wf, (w12.alloc (.cells #[.int .i64 3, .int .i64 (-1)] 25)).alloc (.cells #[.int .i64 3, .int .i64 (-1)] 25) = Wf ∧ Hid (Fk Wf ((w12.heap.size + 1, 3, -1) :: (w12.heap.size, 3, -1) :: fs)) ∧ Hid True ∧ Hid (Below w12.heap.size w12 Wf) := by
  refine ⟨_, rfl, ?_, trivial, bt9 (al_b _ _) (al_b _ _)⟩
  have := (h.push 3 (-1)).push 3 (-1)
  rw [World.size_alloc] at this
  exact this
theorem news_x (w4 : World) : ∀ (j : Nat) (u : Value), (elC elX)[j]? = some u → ((w4.alloc (.cells #[.int .i64 3, .int .i64 (-1)] 25)).alloc (.cells (elC elX).toArray 31)).cell? ((⟨w4.heap.size + 1, 0, none⟩ : Addr).add j) = some u := by
  have h := heap_alloc_new (w4.alloc (.cells #[.int .i64 3, .int .i64 (-1)] 25)) (.cells (elC elX).toArray 31)
  rw [World.size_alloc] at h
  exact World.news_of_block (fr := (0, 0)) (t := 31) (cs := (elC elX).toArray) h
theorem row_cap {w : World} {base n cap : Nat} {A : Option Addr} {xs : List Value} (h : w.ownsRow base 31 8 (.slice A n cap) n xs) : n ≤ cap := by
  obtain ⟨_, ⟨h1, h2⟩ | ⟨g, c, cur, h1, _, _, h3, _⟩⟩ := h
  · cases h1; omega
  · cases h1; exact h3
theorem row_nn {w : World} {base : Nat} {v : Value} {n : Nat} {xs : List Value} (h : w.ownsRow base 31 8 v n xs) (hn : 0 < n) : ∃ g cap, v = .slice (some ⟨g, 0, none⟩) n cap ∧ base ≤ g := by
  obtain ⟨_, ⟨h1, h2⟩ | ⟨g, cap, cur, h1, hg, _⟩⟩ := h
  · omega
  · exact ⟨g, cap, h1, hg⟩
theorem ownE_next {w w1 : World} {L k : Nat} {v : Value} {xs : List Value} (h : w.ownsRow L 31 8 v k xs) (hb : Below w.heap.size w w1) : w1.ownsRow L 31 8 v k xs := row_block h fun g hg => hb.block g (row_ge h hg).2
set_option maxHeartbeats 16000000 in
theorem nlimits_walk (w : World) (hw : Wow w) (hA : ∀ W, Wow W → Calls Tryz.prog 20 #[] W fun e w' => e = .returned (.bool true) ∧ Below W.heap.size W w') : Calls Tryz.prog 5 #[] w fun e w' => e = .returned (.bool true) ∧ Below w.heap.size w w' := by
  have HW : Hid (Wow w) := hw
  have HA : Hid (∀ W, Wow W → Calls Tryz.prog 20 #[] W fun e w' => e = .returned (.bool true) ∧ Below W.heap.size W w') := hA
  clear hw hA
  obtain ⟨i0, hi0, hz0, hz1, hz2⟩ := info_parts Tryz.infoE
  obtain ⟨L, hL⟩ : ∃ L, w.heap.size = L := ⟨_, rfl⟩
  go_enter Tryz.func5, Tryz.ntmps5
  go_wp2_with fail
  have HLB257 : Hid (L ≤ w.heap.size) := by show _ ≤ _; omega
  have HLC257 : Hid (w.heap.size ≤ L) := by show _ ≤ _; omega
  go_loopw [3, 2] (fun iv ov wr => ∃ (k : Nat), k ≤ 257 ∧ iv = .int .i64 k ∧ Hid (wr.ownsRow L 31 8 ov (k) (elCs (lmR k)) ∧ Below w.heap.size w wr)) (fun iv _ _ => 257 - (intOf iv).toNat)
  case atStart => exact ⟨0, Nat.zero_le _, rfl, World.ownsRow_nil _ _ _ _, Below.refl _ _⟩
  case round =>
    obtain ⟨k, hle, rfl, HI⟩ := hrel
    obtain ⟨Ao, co, hov⟩ := orow_slice HI.out.1
    subst hov
    by_cases hp4 : k < 257
    · have hpk : (k : Int) < 257 := by omega
      have ht : (k : Int).tmod 32 = ((k % 32 : Nat) : Int) := rfl
      have h32 : k % 32 ≤ 300 := by omega
      obtain ⟨kr, hkr⟩ : ∃ kr, k % 32 = kr := ⟨_, rfl⟩
      have HKR : Hid (k % 32 = kr) := hkr
      rw [hkr] at ht h32
      clear hkr
      go_wp2_with (first
        | (go_at_call 24; (with_reducible refine (nm_R k (by omega) _).mono ?_); rintro e wa ⟨rfl, hba⟩; (have HBA : Hid (Below wr.heap.size wr wa) := hba); clear hba)
        | (go_at_call 24; (with_reducible refine (nm_N kr h32 _).mono ?_); rintro e wb ⟨rfl, hbb⟩; (have HBB : Hid (Below wr.heap.size wr wb) := HBA.out.trans (hbb.mono HBA.out.size)); (have HRW : Hid (wb.ownsRow L 31 8 (.slice Ao (k) co) (k) (elCs (lmR k))) := ownE_next HI.out.1 HBB.out); (have HL2 : Hid (L ≤ wb.heap.size) := Nat.le_trans HLB257.out (Nat.le_trans HI.out.2.size HBB.out.size)); clear hbb)
        | (at_builtin; refine wpList_append_lies _ (by rfl) _ _ 32 (by rfl) L 31 i0 _ 8 104 Tryz.underlying32 hi0 hz0 hz1 hz2 (by rfl) (by decide) _ _ _ (by rfl) (HRW.out.alloc _) ⟨wb.heap.size, 0, none⟩ 1 1 (elC ⟨1, nmI 82 k, nmI 110 kr, ⟨#[48]⟩, ⟨#[]⟩, ⟨#[]⟩, 4607182418800017408, 0⟩) (by rfl) (by rfl) (World.news_of_block (fr := (0, 0)) (t := 31) (cs := (elC ⟨1, nmI 82 k, nmI 110 kr, ⟨#[48]⟩, ⟨#[]⟩, ⟨#[]⟩, 4607182418800017408, 0⟩).toArray) (heap_alloc_new _ _)) (fun u hu => by simp [elC] at hu; rcases hu with rfl | rfl | rfl | rfl | rfl | rfl | rfl | rfl <;> rfl) (by decide) (by unfold maxLen; omega) (by omega) (by have := HL2.out; simp; omega) _ rfl ?_; intro g4 cp4 w4 hown4 hgrow4 hat4 hlt4))
      go_roundw
      case rel =>
        refine ⟨k + 1, by omega, by go_num, ?_, ?_⟩
        · have e1 : elCs (lmR (k + 1)) = elCs (lmR k) ++ elC ⟨1, nmI 82 k, nmI 110 kr, ⟨#[48]⟩, ⟨#[]⟩, ⟨#[]⟩, 4607182418800017408, 0⟩ := by
            rw [lmR_snoc, elCs_snoc]; unfold elR; rw [HKR.out]
          rw [e1]
          exact hown4
        · have hLw := HL2.out
          have hs2 := HI.out.2.size
          have hs3 := HBB.out.size
          exact ((HI.out.2.trans (HBB.out.mono hs2)).alloc (by omega) _).trans ⟨hgrow4.os, hgrow4.tape, hgrow4.output, by have := hgrow4.size; exact this, fun j hj => hgrow4.block j (by simp at hj ⊢; omega) (fun e => by have h1 := (row_ge HRW.out e.symm).1; have h2 := HLC257.out; omega)⟩
      case measure => simp [intOf]; omega
    · have hkn : k = 257 := by omega
      subst hkn
      clear hp4 hle
      have hnl : ¬ (((257 : Nat) : Int) < 257) := by decide
      obtain ⟨g, cg, hgv, -⟩ := row_nn HI.out.1 (by decide)
      cases hgv
      have hcg := row_cap HI.out.1
      have hcgi : (257 : Int) ≤ (co : Int) := by omega
      have HR : Hid (Rl wr g (lmR 257)) := rl_row HI.out.1 (lmR_len 257)
      have HB0 : Hid (Below w.heap.size w wr) := HI.out.2
      clear HI
      have st : Stg16 0 := ⟨trivial⟩
      have hlx : (elCs (lmR 32)).length = 32 * 8 := by rw [elCs_len, lmR_len]
      go_wp2_with (first
        | ((have _ := (st : Stg16 0)); go_at_call 16; (with_reducible refine (of_256 _ g _ HR.out).mono ?_); rintro e w2 ⟨p1, rfl, h2⟩; clear st; (have st : Stg16 1 := ⟨trivial⟩); (have K1 : Hid (Below w.heap.size w (w2.alloc (.cells #[.int .i64 0, .int .i64 0] 25)) ∧ Rl (w2.alloc (.cells #[.int .i64 0, .int .i64 0] 25)) g (lmR 257) ∧ (∃ base b, Nt (w2.alloc (.cells #[.int .i64 0, .int .i64 0] 25)) base p1 (ofA (lmR 256)).2 b) ∧ Fk (w2.alloc (.cells #[.int .i64 0, .int .i64 0] 25)) [(w2.heap.size, 0, 0)]) := ⟨bt9 (bt9 HB0.out h2.out.1) (al_b _ _), (HR.out.below h2.out.1).below (al_b _ _), nt_below h2.out.2 (al_b _ _), Fk.push (fs := []) (fun x hx => by cases hx) 0 0⟩); clear h2)
        | ((have _ := (st : Stg16 1)); go_at_call 16; (with_reducible refine (of_257 _ g _ K1.out.2.1).mono ?_); rintro e w4 ⟨rfl, hb4⟩; clear st; (have st : Stg16 2 := ⟨trivial⟩); (have K2 : Hid (Below w.heap.size w (w4.alloc (.cells #[.int .i64 3, .int .i64 (-1)] 25)) ∧ Rl (w4.alloc (.cells #[.int .i64 3, .int .i64 (-1)] 25)) g (lmR 257) ∧ (∃ base b, Nt (w4.alloc (.cells #[.int .i64 3, .int .i64 (-1)] 25)) base p1 (ofA (lmR 256)).2 b) ∧ Fk (w4.alloc (.cells #[.int .i64 3, .int .i64 (-1)] 25)) [(w4.heap.size, 3, -1), (w2.heap.size, 0, 0)]) := ⟨bt9 (bt9 K1.out.1 hb4) (al_b _ _), (K1.out.2.1.below hb4).below (al_b _ _), nt_below (nt_below K1.out.2.2.1 hb4) (al_b _ _), (K1.out.2.2.2.below hb4).push 3 (-1)⟩); clear hb4; (have hold : ∀ b, some (⟨g, 0, none⟩ : Addr) = some b → ∀ (j : Nat) (u : Value), (elCs (lmR 32))[j]? = some u → ((w4.alloc (.cells #[.int .i64 3, .int .i64 (-1)] 25)).alloc (.cells (elC elX).toArray 31)).cell? (b.add j) = some u := fun b hb => (by cases hb; exact (((K2.out.2.1).pre (lm_pre (by omega))).below (al_b _ _)).cells)); (have HOLD : Hid (∀ b, some (⟨g, 0, none⟩ : Addr) = some b → ∀ (j : Nat) (u : Value), (elCs (lmR 32))[j]? = some u → ((w4.alloc (.cells #[.int .i64 3, .int .i64 (-1)] 25)).alloc (.cells (elC elX).toArray 31)).cell? (b.add j) = some u) := hold); clear hold; (have HNW : Hid (∀ (j : Nat) (u : Value), (elC elX)[j]? = some u → ((w4.alloc (.cells #[.int .i64 3, .int .i64 (-1)] 25)).alloc (.cells (elC elX).toArray 31)).cell? ((⟨w4.heap.size + 1, 0, none⟩ : Addr).add j) = some u) := news_x w4))
        | (at_builtin; (have _ := (st : Stg16 2)); refine wpList_append_grows _ (by rfl) _ _ 32 (by rfl) 31 i0 _ 8 104 Tryz.underlying32 hi0 hz0 hz1 hz2 (by rfl) (by decide) (some ⟨g, 0, none⟩) 32 32 (elCs (lmR 32)) (by rfl) (fun e => by cases e) hlx HOLD.out ⟨w4.heap.size + 1, 0, none⟩ 1 1 (elC elX) (by rfl) (by rfl) HNW.out (fun u hu => by simp [elC] at hu; rcases hu with rfl | rfl | rfl | rfl | rfl | rfl | rfl | rfl <;> rfl) (by decide) (by unfold maxLen; omega) (by omega) ?_; intro v6 w6 hown6 hgrow6; clear st; (have st : Stg16 3 := ⟨trivial⟩); (have HB6 : Hid (Below (w4.alloc (.cells #[.int .i64 3, .int .i64 (-1)] 25)).heap.size (w4.alloc (.cells #[.int .i64 3, .int .i64 (-1)] 25)) w6) := (show Below (w4.alloc (.cells #[.int .i64 3, .int .i64 (-1)] 25)).heap.size (w4.alloc (.cells #[.int .i64 3, .int .i64 (-1)] 25)) w6 from (al_b _ _).grown hgrow6 (by simp) (by intro k hk; cases hk))); (have HO6 : Hid (w6.ownsRow ((w4.alloc (.cells #[.int .i64 3, .int .i64 (-1)] 25)).alloc (.cells (elC elX).toArray 31)).heap.size 31 8 v6 33 (elCs (lmR 32) ++ elC elX)) := hown6); clear hown6 hgrow6)
        | ((have _ := (st : Stg16 3)); go_at_call 16; (with_reducible refine (of_x _ _ _ HO6.out).mono ?_); rintro e w7 ⟨rfl, hb7⟩; clear st; (have st : Stg16 4 := ⟨trivial⟩); (have HB7 : Hid (Below (w4.alloc (.cells #[.int .i64 3, .int .i64 (-1)] 25)).heap.size (w4.alloc (.cells #[.int .i64 3, .int .i64 (-1)] 25)) w7) := bt9 HB6.out hb7); clear hb7; (obtain ⟨W8, hW8, HB8, HF8⟩ := lim_mid (K2.out.2.2.2.below HB7.out)); (have K4 : Hid (Below w.heap.size w W8 ∧ Rl W8 g (lmR 257) ∧ (∃ base b, Nt W8 base p1 (ofA (lmR 256)).2 b) ∧ Fk W8 [(w7.heap.size, 3, -1), (w4.heap.size, 3, -1), (w2.heap.size, 0, 0)]) := ⟨bt9 (bt9 K2.out.1 HB7.out) HB8.out, (K2.out.2.1.below HB7.out).below HB8.out, nt_below (nt_below K2.out.2.2.1 HB7.out) HB8.out, HF8.out⟩); (have HCC : Hid (∀ (j : Nat) (u : Value), (elCs (lmR 32))[j]? = some u → (W8.alloc (.cells #[] 31)).cell? ((⟨g, 0, none⟩ : Addr).add j) = some u) := ((K4.out.2.1.pre (lm_pre (by omega))).below (al_b _ _)).cells))
        | (at_builtin; (have _ := (st : Stg16 4)); refine wpList_append_own _ (by rfl) _ _ 32 (by rfl) W8.heap.size 31 i0 _ 8 104 Tryz.underlying32 hi0 hz0 hz1 hz2 (by rfl) (by decide) _ _ _ (by rfl) (World.ownsRow_made W8 #[] 0 (Nat.le_refl _) (Nat.zero_le _) rfl) ⟨g, 0, none⟩ 32 co (elCs (lmR 32)) (by rfl) hlx HCC.out (elC_one _) (by unfold maxLen; omega) (by omega) (by simp) ?_; intro v9 w9 hown9 hgrow9 hnil9; clear st; (have HROW : Hid (w9.ownsRow W8.heap.size 31 8 v9 (32 + 0) (elCs (lmR 32))) := (show w9.ownsRow W8.heap.size 31 8 v9 (32 + 0) (elCs (lmR 32)) from (by simpa using hown9))); (have HBW : Hid (Below W8.heap.size W8 w9) := (show Below W8.heap.size W8 w9 from (al_b _ _).grown hgrow9 (by simp) (by intro k hk; simp [Value.ownBlock] at hk; omega))); clear hown9 hgrow9 hnil9 HCC))
      obtain ⟨w8s, hw8s⟩ : ∃ w8s, W8.heap.size = w8s := ⟨_, rfl⟩
      rw [hw8s] at HROW
      have HLB33 : Hid (w8s ≤ W8.heap.size) := by show _ ≤ _; omega
      have HLC33 : Hid (W8.heap.size ≤ w8s) := by show _ ≤ _; omega
      clear hw8s
      go_loopw [11, 10] (fun iv ov wr => ∃ (k : Nat), k ≤ 33 ∧ iv = .int .i64 k ∧ Hid (wr.ownsRow w8s 31 8 ov (32 + k) (elCs (lmV k)) ∧ Below W8.heap.size W8 wr)) (fun iv _ _ => 33 - (intOf iv).toNat)
      case atStart => exact ⟨0, Nat.zero_le _, rfl, by rw [show lmV 0 = lmR 32 from by simp [lmV]]; exact HROW.out, HBW.out⟩
      case round =>
        obtain ⟨k, hle, rfl, HI⟩ := hrel
        obtain ⟨Ao, co, hov⟩ := orow_slice HI.out.1
        subst hov
        by_cases hp4 : k < 33
        · have hpk : (k : Int) < 33 := by omega
          have ht : (k : Int).tmod 32 = ((k % 32 : Nat) : Int) := rfl
          have h32 : k % 32 ≤ 300 := by omega
          obtain ⟨kr, hkr⟩ : ∃ kr, k % 32 = kr := ⟨_, rfl⟩
          have HKR : Hid (k % 32 = kr) := hkr
          rw [hkr] at ht h32
          clear hkr
          go_wp2_with (first
            | (go_at_call 24; (with_reducible refine (nm_V k (by omega) _).mono ?_); rintro e wa ⟨rfl, hba⟩; (have HBA : Hid (Below wr.heap.size wr wa) := hba); clear hba)
            | (go_at_call 24; (with_reducible refine (nm_N kr h32 _).mono ?_); rintro e wb ⟨rfl, hbb⟩; (have HBB : Hid (Below wr.heap.size wr wb) := HBA.out.trans (hbb.mono HBA.out.size)); (have HRW : Hid (wb.ownsRow w8s 31 8 (.slice Ao (32 + k) co) (32 + k) (elCs (lmV k))) := ownE_next HI.out.1 HBB.out); (have HL2 : Hid (w8s ≤ wb.heap.size) := Nat.le_trans HLB33.out (Nat.le_trans HI.out.2.size HBB.out.size)); clear hbb)
            | (at_builtin; refine wpList_append_lies _ (by rfl) _ _ 32 (by rfl) w8s 31 i0 _ 8 104 Tryz.underlying32 hi0 hz0 hz1 hz2 (by rfl) (by decide) _ _ _ (by rfl) (HRW.out.alloc _) ⟨wb.heap.size, 0, none⟩ 1 1 (elC ⟨5, nmI 86 k, nmI 110 kr, ⟨#[48]⟩, ⟨#[]⟩, ⟨#[]⟩, 4607182418800017408, 0⟩) (by rfl) (by rfl) (World.news_of_block (fr := (0, 0)) (t := 31) (cs := (elC ⟨5, nmI 86 k, nmI 110 kr, ⟨#[48]⟩, ⟨#[]⟩, ⟨#[]⟩, 4607182418800017408, 0⟩).toArray) (heap_alloc_new _ _)) (fun u hu => by simp [elC] at hu; rcases hu with rfl | rfl | rfl | rfl | rfl | rfl | rfl | rfl <;> rfl) (by decide) (by unfold maxLen; omega) (by omega) (by have := HL2.out; simp; omega) _ rfl ?_; intro g4 cp4 w4 hown4 hgrow4 hat4 hlt4))
          go_roundw
          case rel =>
            refine ⟨k + 1, by omega, by go_num, ?_, ?_⟩
            · have e1 : elCs (lmV (k + 1)) = elCs (lmV k) ++ elC ⟨5, nmI 86 k, nmI 110 kr, ⟨#[48]⟩, ⟨#[]⟩, ⟨#[]⟩, 4607182418800017408, 0⟩ := by
                rw [lmV_snoc, elCs_snoc]; unfold elW; rw [HKR.out]
              rw [e1]
              exact hown4
            · have hLw := HL2.out
              have hs2 := HI.out.2.size
              have hs3 := HBB.out.size
              exact ((HI.out.2.trans (HBB.out.mono hs2)).alloc (by omega) _).trans ⟨hgrow4.os, hgrow4.tape, hgrow4.output, by have := hgrow4.size; exact this, fun j hj => hgrow4.block j (by simp at hj ⊢; omega) (fun e => by have h1 := (row_ge HRW.out e.symm).1; have h2 := HLC33.out; omega)⟩
          case measure => simp [intOf]; omega
        · have hkn : k = 33 := by omega
          subst hkn
          clear hp4 hle
          have hnl2 : ¬ (((33 : Nat) : Int) < 33) := by decide
          obtain ⟨g2, cg2, hg2, -⟩ := row_nn HI.out.1 (by decide)
          cases hg2
          have hc2 := row_cap HI.out.1
          have hc2i : (65 : Int) ≤ (co : Int) := by omega
          have HR2 : Hid (Rl wr g2 (lmV 33)) := rl_row HI.out.1 (lmV_len 33)
          have K5 : Hid (Below w.heap.size w wr ∧ (∃ base b, Nt wr base p1 (ofA (lmR 256)).2 b) ∧ Fk wr [(w7.heap.size, 3, -1), (w4.heap.size, 3, -1), (w2.heap.size, 0, 0)]) := ⟨bt9 K4.out.1 HI.out.2, nt_below K4.out.2.2.1 HI.out.2, K4.out.2.2.2.below HI.out.2⟩
          clear HI
          have st : Stg16 5 := ⟨trivial⟩
          go_wp2_with (first
            | ((have _ := (st : Stg16 5)); go_at_call 16; (with_reducible refine (of_64 _ g2 _ HR2.out).mono ?_); rintro e w10 ⟨p4, rfl, h10⟩; clear st; (have st : Stg16 6 := ⟨trivial⟩); (have HR3 : Hid (Rl (w10.alloc (.cells #[.int .i64 0, .int .i64 0] 25)) g2 (lmV 33)) := (HR2.out.below h10.out.1).below (al_b _ _)); (have K6 : Hid (Below w.heap.size w (w10.alloc (.cells #[.int .i64 0, .int .i64 0] 25)) ∧ (∃ base b, Nt (w10.alloc (.cells #[.int .i64 0, .int .i64 0] 25)) base p1 (ofA (lmR 256)).2 b) ∧ Fk (w10.alloc (.cells #[.int .i64 0, .int .i64 0] 25)) [(w10.heap.size, 0, 0), (w7.heap.size, 3, -1), (w4.heap.size, 3, -1), (w2.heap.size, 0, 0)] ∧ ∃ base b, Nt (w10.alloc (.cells #[.int .i64 0, .int .i64 0] 25)) base p4 (ofA (lmV 32)).2 b) := ⟨bt9 (bt9 K5.out.1 h10.out.1) (al_b _ _), nt_below (nt_below K5.out.2.1 h10.out.1) (al_b _ _), (K5.out.2.2.below h10.out.1).push 0 0, nt_below h10.out.2 (al_b _ _)⟩); clear h10)
            | ((have _ := (st : Stg16 6)); go_at_call 16; (with_reducible refine (of_65 _ g2 _ HR3.out).mono ?_); rintro e w12 ⟨rfl, hb12⟩; clear st; (have st : Stg16 7 := ⟨trivial⟩); (have K7 : Hid (Below w.heap.size w w12 ∧ (∃ base b, Nt w12 base p1 (ofA (lmR 256)).2 b) ∧ Fk w12 [(w10.heap.size, 0, 0), (w7.heap.size, 3, -1), (w4.heap.size, 3, -1), (w2.heap.size, 0, 0)] ∧ ∃ base b, Nt w12 base p4 (ofA (lmV 32)).2 b) := ⟨bt9 K6.out.1 hb12, nt_below K6.out.2.1 hb12, K6.out.2.2.1.below hb12, nt_below K6.out.2.2.2 hb12⟩); clear hb12; (obtain ⟨Wf, hWf, HF0, HF1, HFB⟩ := lim_end K7.out.2.2.1); (obtain ⟨a0, a1, al⟩ := fl_cellsL (HF0.out (w2.heap.size, 0, 0) (by simp))); (have K8 : Hid (Below w.heap.size w Wf ∧ (∃ base b, Nt Wf base p1 (ofA (lmR 256)).2 b) ∧ ∃ base b, Nt Wf base p4 (ofA (lmV 32)).2 b) := ⟨bt9 K7.out.1 HFB.out, nt_below K7.out.2.1 HFB.out, nt_below K7.out.2.2.2 HFB.out⟩))
            | ((have _ := (st : Stg16 7)); go_at_call 17; (with_reducible refine (nodes_32 _ p1 K8.out.2.1).mono ?_); rintro e w15 ⟨An, cn, rfl, hb15⟩; clear st a0 a1 al; (have st : Stg16 8 := ⟨trivial⟩); (have HF5 : Hid (Fk w15 [(w12.heap.size + 1, 3, -1), (w12.heap.size, 3, -1), (w10.heap.size, 0, 0), (w7.heap.size, 3, -1), (w4.heap.size, 3, -1), (w2.heap.size, 0, 0)]) := HF0.out.below hb15); (have K9 : Hid (Below w.heap.size w w15 ∧ ∃ base b, Nt w15 base p4 (ofA (lmV 32)).2 b) := ⟨bt9 K8.out.1 hb15, nt_below K8.out.2.2 hb15⟩); (obtain ⟨b0, b1, bl⟩ := fl_cellsL (HF5.out (w12.heap.size + 1, 3, -1) (by simp))); (obtain ⟨c0, c1, cl⟩ := fl_cellsL (HF5.out (w10.heap.size, 0, 0) (by simp))); (obtain ⟨d0, d1, dl⟩ := fl_cellsL (HF5.out (w7.heap.size, 3, -1) (by simp))); (obtain ⟨e0, e1, el⟩ := fl_cellsL (HF5.out (w4.heap.size, 3, -1) (by simp))); clear hb15)
            | ((have _ := (st : Stg16 8)); go_at_call 18; (with_reducible refine (order_64 _ p4 K9.out.2).mono ?_); rintro e w16 ⟨rfl, hb16⟩; clear st b0 b1 bl c0 c1 cl d0 d1 dl e0 e1 el; (have st : Stg16 9 := ⟨trivial⟩); (have HF6 : Hid (Fk w16 [(w12.heap.size + 1, 3, -1), (w12.heap.size, 3, -1), (w10.heap.size, 0, 0), (w7.heap.size, 3, -1), (w4.heap.size, 3, -1), (w2.heap.size, 0, 0)]) := HF5.out.below hb16); (have K10 : Hid (Below w.heap.size w w16) := bt9 K9.out.1 hb16); (obtain ⟨b0, b1, bl⟩ := fl_cellsL (HF6.out (w12.heap.size + 1, 3, -1) (by simp))); (obtain ⟨c0, c1, cl⟩ := fl_cellsL (HF6.out (w12.heap.size, 3, -1) (by simp))); clear hb16)
            | ((have _ := (st : Stg16 9)); go_at_call 20; (with_reducible refine (HA.out _ (HW.out.kept K10.out)).mono ?_); rintro e w17 ⟨rfl, hb17⟩; (have K11 : Hid (Below w.heap.size w w17) := bt9 K10.out hb17); clear hb17))
          go_ret
          exact ⟨rfl, K11.out⟩

end Go.Proofs.YtjoncbfaajcioaaGreatDoor
