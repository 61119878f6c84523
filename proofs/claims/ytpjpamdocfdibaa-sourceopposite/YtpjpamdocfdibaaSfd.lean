/-
  Find of a net that is made, by a text of any length; the elements' own order of names.
-/
import Derived.Test.YtpjpamdocfdibaaBsd
import Derived.Test.YtpjpamdocfdibaaSrc
import Derived.Test.YtpjpamdocfdibaaDnb
import Derived.Test.YtpjpamdocfdibaaPnt
namespace Go.Proofs.Ytpjpamdocfdibaa
open Fl Go.Maps RowKit Joins Deep
set_option linter.unusedVariables false

/-- the first element of a name -/
def fnd (l : List Elm) (t : List UInt8) : Option Elm := l.find? fun x => bl x.n == t
theorem fnd_ix : ∀ (l : List Elm) (t : List UInt8) (x : Elm), fnd l t = some x → l[(l.map fun x => bl x.n).idxOf t]? = some x ∧ t ∈ (l.map fun x => bl x.n) ∧ bl x.n = t := by
  intro l
  induction l with
  | nil => intro t x h; cases h
  | cons y l ih =>
    intro t x h
    unfold fnd at h
    rw [List.find?_cons] at h
    by_cases e : bl y.n = t
    · rw [beq_iff_eq.2 e] at h
      obtain rfl : y = x := by simpa using h
      rw [List.map_cons, List.idxOf_cons, beq_iff_eq.2 e]
      exact ⟨rfl, by rw [e]; exact List.mem_cons_self, e⟩
    · rw [beq_eq_false_iff_ne.2 e] at h
      obtain ⟨h1, h2, h3⟩ := ih t x h
      rw [List.map_cons, List.idxOf_cons, beq_eq_false_iff_ne.2 e]
      exact ⟨h1, List.mem_cons_of_mem _ h2, h3⟩
theorem fnd_no {l : List Elm} {t : List UInt8} (h : fnd l t = none) : t ∉ (l.map fun x => bl x.n) := by
  unfold fnd at h
  rw [List.find?_eq_none] at h
  intro q
  obtain ⟨x, hx, he⟩ := List.mem_map.1 q
  exact h x hx (beq_iff_eq.2 he)
theorem fnd_mem {l : List Elm} {t : List UInt8} {x : Elm} (h : fnd l t = some x) : x ∈ l := List.mem_of_find?_eq_some h
theorem key_sb (l : List UInt8) (h : l.length ≤ 140737488351232) : keyOf Try.prog 9 (.string ⟨l.toArray⟩) = some (kyS l) := by
  have := Go.WideMaps.keyOf_string_mk (P := Try.prog) (s := ⟨l.toArray⟩) Try.underlying9 (by unfold maxLen; simp [ByteArray.size]; omega)
  simpa using this
theorem nplace_big (w : World) (p f B : Nat) (xs : List (List UInt8)) (s : ByteArray) (hl : s.size ≤ 140737488351232) (hc : w.cell? ⟨p, f + 1, none⟩ = some (.map (some B))) (hm : Mp w B xs) :
    Calls Try.prog 42 #[.pointer (some ⟨p, f, none⟩), .string s] w fun e w' => e = .returned (.tuple #[.int .i64 (posL xs (bl s)), .bool (decide (bl s ∈ xs))]) ∧ w' = w := by
  obtain ⟨D, hown, hD⟩ := hm
  have hkey : keyOf Try.prog 9 (.string s) = some (kyS (bl s)) := key_sb (bl s) hl
  go_enter Try.func42, Try.ntmps42
  go_wp2_with (at_lookup; refine wpList_lookup_own_ok_int _ rfl _ _ 71 rfl 9 3 .i64 lawS Try.underlying71 Try.underlying3 (zeroI _) B xs.length D rfl hown _ _ rfl hkey ?_; intro c hat hwc)
  go_ret2
  rw [hD.ak (bl s)] at hat
  obtain rfl : ((posL xs (bl s) : Nat) : Int) = c := (Lit.int.inj (DataW.lit.inj hat)).2
  refine ⟨?_, rfl⟩
  show Ending.returned (.tuple #[.int .i64 ((posL xs (bl s) : Nat) : Int), .bool (has D (kyS (bl s)))]) = _
  rw [hD.hs (bl s)]
/-- the element that is none -/
def elZ : Elm := ⟨0, ⟨#[]⟩, ⟨#[]⟩, ⟨#[]⟩, ⟨#[]⟩, ⟨#[]⟩, 0, 0⟩
theorem find_no {w : World} {base p : Nat} {N : Ns} {b : Nb} (h : Nt w base p N b) (hv : Nv N) (s : ByteArray) (hs : s.size ≤ 140737488351232) (hn : fnd N.es (bl s) = none) :
    Calls Try.prog 39 #[.pointer (some ⟨p, 0, none⟩), .string s] w fun e w' => e = .returned (.tuple #[elV elZ, .bool false]) ∧ Below w.heap.size w w' := by
  have hb := (Below.refl w.heap.size w).alloc (Nat.le_refl _) (.cells #[.int .u8 0, .string ⟨#[]⟩, .string ⟨#[]⟩, .string ⟨#[]⟩, .string ⟨#[]⟩, .string ⟨#[]⟩, .float .f64 0, .int .i64 0] 57)
  have c2 := (h.below hb).nm.c1
  have HPL := hidS (nplace_big _ p 1 b.B2 N.nm s hs c2 (h.below hb).nm.mp)
  rw [show decide (bl s ∈ N.nm) = false from decide_eq_false (by rw [hv.nm]; exact fnd_no hn)] at HPL
  have HB := hidS hb
  clear hb h
  go_enter Try.func39, Try.ntmps39
  go_wp2_with (first | (go_at_call 75; (with_reducible refine (made_yes c2).mono ?_); rintro e1 w1 ⟨rfl, hw1⟩; subst w1) | (go_at_call 42; (with_reducible refine HPL.out.mono ?_); rintro e2 w2 ⟨rfl, hw2⟩; subst w2))
  (try simp only [Exit.inBlock, Exit.then])
  refine bodyPost_ret (by simp [results, Try.results39, go_sem]; try rfl) rfl ?_
  exact ⟨rfl, HB.out⟩
theorem find_yes {w : World} {base p : Nat} {N : Ns} {b : Nb} (h : Nt w base p N b) (hv : Nv N) (hl : N.es.length ≤ 256) (s : ByteArray) (hs : s.size ≤ 140737488351232) {x : Elm} (hn : fnd N.es (bl s) = some x) :
    Calls Try.prog 39 #[.pointer (some ⟨p, 0, none⟩), .string s] w fun e w' => e = .returned (.tuple #[elV x, .bool true]) ∧ Below w.heap.size w w' := by
  have hb := (Below.refl w.heap.size w).alloc (Nat.le_refl _) (.cells #[.int .u8 0, .string ⟨#[]⟩, .string ⟨#[]⟩, .string ⟨#[]⟩, .string ⟨#[]⟩, .string ⟨#[]⟩, .float .f64 0, .int .i64 0] 57)
  have c2 := (h.below hb).nm.c1
  have c0 := (h.below hb).c0
  have HPL := hidS (nplace_big _ p 1 b.B2 N.nm s hs c2 (h.below hb).nm.mp)
  obtain ⟨h1, h2, h3⟩ := fnd_ix _ _ _ hn
  have hmem : bl s ∈ N.nm := by rw [hv.nm]; exact h2
  rw [show decide (bl s ∈ N.nm) = true from decide_eq_true hmem] at HPL
  have hpx : N.es[posL N.nm (bl s)]? = some x := by unfold posL; rw [if_pos hmem, hv.nm]; exact h1
  obtain ⟨g, cap, he, hE⟩ := de8_row (h.below hb).es rfl hpx
  rw [he] at c0
  obtain ⟨e0, e1, e2, e3, e4, e5, e6, e7⟩ := hE
  have hlt : posL N.nm (bl s) < N.es.length := (List.getElem?_eq_some_iff.1 hpx).1
  obtain ⟨k, hk⟩ : ∃ k, posL N.nm (bl s) = k := ⟨_, rfl⟩
  obtain ⟨n, hn2⟩ : ∃ n, N.es.length = n := ⟨_, rfl⟩
  rw [hk] at HPL hlt e0 e1 e2 e3 e4 e5 e6 e7
  rw [hn2] at hlt hl c0
  have f8 := st8_blk (heap_alloc_new w (.cells #[.int .u8 0, .string ⟨#[]⟩, .string ⟨#[]⟩, .string ⟨#[]⟩, .string ⟨#[]⟩, .string ⟨#[]⟩, .float .f64 0, .int .i64 0] 57)) (.int .u8 (x.k : Int)) (.string x.n) (.string x.a) (.string x.b) (.string x.c) (.string x.d) (.float .f64 x.v) (.int .i64 x.ph)
  have HB := hidS (st8_bel hb (.int .u8 (x.k : Int)) (.string x.n) (.string x.a) (.string x.b) (.string x.c) (.string x.d) (.float .f64 x.v) (.int .i64 x.ph))
  obtain ⟨⟨r0, r1, r2, r3, r4, r5, r6, r7⟩, z8⟩ := eight f8
  obtain ⟨⟨o0, o1, o2, o3, o4, o5, o6, o7⟩, o8, o9, oa, ob, oc, od, oe, of⟩ := eight (heap_alloc_new w (.cells #[.int .u8 0, .string ⟨#[]⟩, .string ⟨#[]⟩, .string ⟨#[]⟩, .string ⟨#[]⟩, .string ⟨#[]⟩, .float .f64 0, .int .i64 0] 57))
  obtain ⟨wf, hwf⟩ : ∃ wf, w.alloc (.cells #[.int .u8 0, .string ⟨#[]⟩, .string ⟨#[]⟩, .string ⟨#[]⟩, .string ⟨#[]⟩, .string ⟨#[]⟩, .float .f64 0, .int .i64 0] 57) = wf := ⟨_, rfl⟩
  rw [hwf] at HPL c2 c0 e0 e1 e2 e3 e4 e5 e6 e7 r0 r1 r2 r3 r4 r5 r6 r7 HB o0 o1 o2 o3 o4 o5 o6 o7 o8 o9 oa ob oc od oe of
  unfold st8 at r0 r1 r2 r3 r4 r5 r6 r7 HB
  clear hb h h1 h2 h3 hmem hpx he hk hn2 hn f8 z8
  unfold elV
  go_enter Try.func39, Try.ntmps39
  go_wp2_with (first | (go_at_call 75; (with_reducible refine (made_yes c2).mono ?_); rintro e1 w1 ⟨rfl, hw1⟩; subst w1) | (go_at_call 42; (with_reducible refine HPL.out.mono ?_); rintro e2 w2 ⟨rfl, hw2⟩; subst w2))
  (try simp only [Exit.inBlock, Exit.then])
  refine bodyPost_ret (by simp [results, Try.results39, go_sem, r0, r1, r2, r3, r4, r5, r6, r7]; try rfl) rfl ?_
  exact ⟨rfl, HB.out⟩
end Go.Proofs.Ytpjpamdocfdibaa
