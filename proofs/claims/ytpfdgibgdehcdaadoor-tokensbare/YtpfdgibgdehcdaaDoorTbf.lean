/-
  TokensBare, pure: the words of a line as texts, byte by byte (stq, rnq); blanks put in, blanks ahead and a remark behind change no word.
-/
import Derived.Test.YtpfdgibgdehcdaaDoorTka
namespace Go.Proofs.YtpfdgibgdehcdaaDoor
set_option linter.unusedVariables false

/-- one byte further: how it stands (as stp), whether the newest word may go on, and the words' bytes so far, the newest first -/
def stq (x : Nat × Bool × List (List Nat)) (c : Nat) : Nat × Bool × List (List Nat) :=
  if x.1 ≠ 0 then x
  else if c = 42 ∨ c = 59 then (1, x.2)
  else if blk c then (0, false, x.2.2)
  else if c < 33 ∨ 126 < c then (2, x.2)
  else match x.2.1, x.2.2 with
    | true, w :: r => if w.length + 1 ≤ 80 then (0, true, (w ++ [c]) :: r) else (3, true, w :: r)
    | _, ws => (0, true, [c] :: ws)
def rnq (l : List Nat) : Nat × Bool × List (List Nat) := l.foldl stq (0, false, [])
theorem stq_off {x : Nat × Bool × List (List Nat)} {c : Nat} (h : x.1 ≠ 0) : stq x c = x := if_pos h
theorem stq_blk {x : Nat × Bool × List (List Nat)} {c : Nat} (h : x.1 = 0) (hc : blk c) : stq x c = (0, false, x.2.2) := by
  unfold stq
  rw [if_neg (by omega), if_neg (by unfold blk at hc; omega), if_pos hc]
theorem fold_off {x : Nat × Bool × List (List Nat)} (h : x.1 ≠ 0) : ∀ l : List Nat, l.foldl stq x = x := by
  intro l
  induction l with
  | nil => rfl
  | cons c r ih => show r.foldl stq (stq x c) = x; rw [stq_off h]; exact ih
/-- a blank made wider -/
def wde (c : Nat) : List Nat := if c = 32 then [32, 13, 32] else [c]
theorem wde_step (x : Nat × Bool × List (List Nat)) (c : Nat) : (wde c).foldl stq x = stq x c := by
  unfold wde
  by_cases h : c = 32
  · subst h
    rw [if_pos rfl]
    show stq (stq (stq x 32) 13) 32 = stq x 32
    by_cases h0 : x.1 = 0
    · rw [stq_blk h0 (.inl rfl), stq_blk rfl (.inr (.inr rfl)), stq_blk rfl (.inl rfl)]
    · rw [stq_off h0, stq_off h0, stq_off h0]
  · rw [if_neg h]; rfl
theorem wde_fold : ∀ (l : List Nat) (x : Nat × Bool × List (List Nat)), (l.flatMap wde).foldl stq x = l.foldl stq x := by
  intro l
  induction l with
  | nil => intro x; rfl
  | cons c r ih =>
    intro x
    rw [List.flatMap_cons, List.foldl_append, wde_step, ih]; rfl
theorem rnq_ahead (l : List Nat) : rnq (9 :: 32 :: l) = rnq l := by
  show l.foldl stq (stq (stq (0, false, []) 9) 32) = l.foldl stq (0, false, [])
  rw [stq_blk rfl (.inr (.inl rfl)), stq_blk rfl (.inl rfl)]
/-- a remark behind changes no word; what was well stays well -/
theorem rnq_behind (l r : List Nat) : (rnq (l ++ 32 :: 59 :: r)).2.2 = (rnq l).2.2 ∧ ((rnq (l ++ 32 :: 59 :: r)).1 = if (rnq l).1 = 0 then 1 else (rnq l).1) := by
  have e : rnq (l ++ 32 :: 59 :: r) = r.foldl stq (stq (stq (rnq l) 32) 59) := by unfold rnq; rw [List.foldl_append]; rfl
  rw [e]
  by_cases h0 : (rnq l).1 = 0
  · rw [stq_blk h0 (.inl rfl)]
    have e2 : stq (0, false, (rnq l).2.2) 59 = (1, false, (rnq l).2.2) := rfl
    rw [e2, fold_off (x := (1, false, (rnq l).2.2)) Nat.one_ne_zero, if_pos h0]
    exact ⟨rfl, rfl⟩
  · rw [stq_off h0, stq_off h0, fold_off h0, if_neg h0]
    exact ⟨rfl, rfl⟩
/-- the line as TokensBare writes it: without a remark, and with one -/
theorem rnq_bare (l : List Nat) : rnq (9 :: 32 :: l.flatMap wde) = rnq l := by
  rw [rnq_ahead]; exact wde_fold l _
theorem rnq_remark (l r : List Nat) : (rnq ((9 :: 32 :: l.flatMap wde) ++ 32 :: 59 :: r)).2.2 = (rnq l).2.2 ∧ ((rnq ((9 :: 32 :: l.flatMap wde) ++ 32 :: 59 :: r)).1 = if (rnq l).1 = 0 then 1 else (rnq l).1) := by
  have h := rnq_behind (9 :: 32 :: l.flatMap wde) r
  rw [rnq_bare] at h; exact h
/-- the bytes of a word -/
def sgq (s : ByteArray) (p : Nat × Nat) : List Nat := (List.range' p.1 (p.2 - p.1)).map (bty s)
theorem sgq_len (s : ByteArray) (p : Nat × Nat) : (sgq s p).length = p.2 - p.1 := by unfold sgq; simp
theorem sgq_one (s : ByteArray) (i : Nat) : sgq s (i, i + 1) = [bty s i] := by
  unfold sgq
  have e : i + 1 - i = 1 := by omega
  show (List.range' i (i + 1 - i)).map (bty s) = _
  rw [e]; rfl
theorem sgq_ext (s : ByteArray) {a i : Nat} (h : a < i) : sgq s (a, i + 1) = sgq s (a, i) ++ [bty s i] := by
  unfold sgq
  show (List.range' a (i + 1 - a)).map (bty s) = (List.range' a (i - a)).map (bty s) ++ [bty s i]
  have e : i + 1 - a = (i - a) + 1 := by omega
  rw [e, List.range'_concat, List.map_append]
  have e2 : a + 1 * (i - a) = i := by omega
  rw [e2]; rfl
/-- the two ways to go through a line stand alike -/
structure Lkq (s : ByteArray) (i : Nat) (x : Nat × Bool × List (List Nat)) : Prop where
  m : x.1 = (scn s i).1
  t : x.2.2 = (scn s i).2.map (sgq s)
  o : (scn s i).1 = 0 → (x.2.1 = true ↔ ∃ a r, (scn s i).2 = (a, i) :: r)
theorem lkq_step {s : ByteArray} {i : Nat} {x : Nat × Bool × List (List Nat)} (h : Lkq s i x) : Lkq s (i + 1) (stq x (bty s i)) := by
  have hw := scn_wf s i
  by_cases h0 : (scn s i).1 = 0
  · obtain ⟨L, hL⟩ : ∃ L, scn s i = (0, L) := ⟨(scn s i).2, by rw [← h0]⟩
    obtain ⟨x1, x2, x3⟩ := x
    have hm : x1 = 0 := by have := h.m; rw [h0] at this; exact this
    have ht : x3 = L.map (sgq s) := by have := h.t; rw [hL] at this; exact this
    have ho : x2 = true ↔ ∃ a r, L = (a, i) :: r := by have := h.o h0; rw [hL] at this; exact this
    rw [hL] at hw
    have hw2 : Wfw i L := hw
    clear h hw h0
    subst hm ht
    by_cases h1 : bty s i = 42 ∨ bty s i = 59
    · have e := scn_rem hL h1
      have e2 : stq (0, x2, L.map (sgq s)) (bty s i) = (1, x2, L.map (sgq s)) := by
        unfold stq; rw [if_neg (by simp), if_pos h1]
      rw [e2]
      exact ⟨by rw [e], by rw [e], fun h => by rw [e] at h; cases h⟩
    · by_cases h2 : blk (bty s i)
      · have e := scn_blk hL h2
        rw [stq_blk rfl h2]
        refine ⟨by rw [e], by rw [e], fun _ => ?_⟩
        rw [e]
        refine ⟨fun h => (by cases h), ?_⟩
        rintro ⟨a, r, hr⟩
        have hr2 : L = (a, i + 1) :: r := hr
        rw [hr2] at hw2
        have := hw2.2.1
        omega
      · by_cases h3 : bty s i < 33 ∨ 126 < bty s i
        · have e := scn_bad hL h1 h2 h3
          have e2 : stq (0, x2, L.map (sgq s)) (bty s i) = (2, x2, L.map (sgq s)) := by
            unfold stq; rw [if_neg (by simp), if_neg h1, if_neg h2, if_pos h3]
          rw [e2]
          exact ⟨by rw [e], by rw [e], fun h => by rw [e] at h; cases h⟩
        · cases x2 with
          | true =>
            obtain ⟨a, r, hr⟩ := ho.1 rfl
            subst hr
            have e := scn_ext hL h1 h2 h3 (by omega)
            have hai : a < i := hw2.1
            have hl : (sgq s (a, i)).length = i - a := sgq_len s (a, i)
            have e2 : stq (0, true, ((a, i) :: r).map (sgq s)) (bty s i) = if (sgq s (a, i)).length + 1 ≤ 80 then (0, true, (sgq s (a, i) ++ [bty s i]) :: r.map (sgq s)) else (3, true, sgq s (a, i) :: r.map (sgq s)) := by
              unfold stq; rw [if_neg (by simp), if_neg h1, if_neg h2, if_neg h3]; rfl
            rw [e2]
            by_cases h8 : i + 1 - a ≤ 80
            · rw [if_pos h8] at e
              rw [if_pos (by omega)]
              refine ⟨by rw [e], ?_, fun _ => ?_⟩
              · rw [e]; show _ = sgq s (a, i + 1) :: r.map (sgq s); rw [sgq_ext s hai]
              · rw [e]; exact ⟨fun _ => ⟨a, r, rfl⟩, fun _ => rfl⟩
            · rw [if_neg h8] at e
              rw [if_neg (by omega)]
              exact ⟨by rw [e], by rw [e]; rfl, fun h => by rw [e] at h; cases h⟩
          | false =>
            have hn : ∀ a b r, L = (a, b) :: r → b < i := by
              intro a b r hr
              rw [hr] at hw2
              rcases Nat.lt_or_ge b i with q | q
              · exact q
              · obtain rfl : b = i := by have := hw2.2.1; omega
                have := ho.2 ⟨a, r, hr⟩
                cases this
            have e := scn_new hL h1 h2 h3 hn
            have e2 : stq (0, false, L.map (sgq s)) (bty s i) = (0, true, [bty s i] :: L.map (sgq s)) := by
              unfold stq; rw [if_neg (by simp), if_neg h1, if_neg h2, if_neg h3]
            rw [e2]
            refine ⟨by rw [e], ?_, fun _ => ?_⟩
            · rw [e]; show _ = sgq s (i, i + 1) :: L.map (sgq s); rw [sgq_one]
            · rw [e]; exact ⟨fun _ => ⟨i, L, rfl⟩, fun _ => rfl⟩
  · have e : scn s (i + 1) = scn s i := stp_off h0
    rw [stq_off (by rw [h.m]; exact h0)]
    exact ⟨by rw [e]; exact h.m, by rw [e]; exact h.t, fun q => by rw [e] at q; exact absurd q h0⟩
theorem lkq_all (s : ByteArray) : ∀ i, Lkq s i (rnq ((List.range i).map (bty s))) := by
  intro i
  induction i with
  | zero => exact ⟨rfl, rfl, fun _ => ⟨fun h => (by cases h), fun ⟨a, r, h⟩ => (by cases h)⟩⟩
  | succ i ih =>
    have e : rnq ((List.range (i + 1)).map (bty s)) = stq (rnq ((List.range i).map (bty s))) (bty s i) := by
      unfold rnq
      rw [List.range_succ, List.map_append, List.foldl_append]; rfl
    rw [e]; exact lkq_step ih
/-- a text's bytes -/
def bts (t : ByteArray) : List Nat := t.data.toList.map UInt8.toNat
theorem bts_get {t : ByteArray} (i : Nat) : (bts t)[i]? = if i < t.size then some (bty t i) else none := by
  unfold bts
  rw [List.getElem?_map, Array.getElem?_toList]
  by_cases h : i < t.size
  · have h2 : i < t.data.size := h
    rw [if_pos h, Array.getElem?_eq_getElem h2, ← bty_get h]; rfl
  · have h2 : t.data.size ≤ i := Nat.le_of_not_lt h
    rw [if_neg h, Array.getElem?_eq_none h2]; rfl
theorem bts_range (t : ByteArray) : (List.range t.size).map (bty t) = bts t := by
  apply List.ext_getElem?
  intro i
  rw [bts_get, List.getElem?_map]
  by_cases h : i < t.size
  · rw [if_pos h, List.getElem?_range h]; rfl
  · rw [if_neg h, List.getElem?_eq_none (by rw [List.length_range]; omega)]; rfl
theorem bts_inj {s t : ByteArray} (h : bts s = bts t) : s = t := by
  unfold bts at h
  have h2 : s.data.toList = t.data.toList := by
    have hm : ∀ (a b : List UInt8), a.map UInt8.toNat = b.map UInt8.toNat → a = b := by
      intro a
      induction a with
      | nil => intro b hb; cases b with
        | nil => rfl
        | cons _ _ => cases hb
      | cons x r ih => intro b hb; cases b with
        | nil => cases hb
        | cons y q =>
          rw [List.map_cons, List.map_cons, List.cons.injEq] at hb
          rw [UInt8.toNat_inj.1 hb.1, ih q hb.2]
    exact hm _ _ h
  have h3 : s.data = t.data := by rw [← Array.toArray_toList (xs := s.data), ← Array.toArray_toList (xs := t.data), h2]
  cases s; cases t; cases h3; rfl
theorem bts_ex {t : ByteArray} {p : Nat × Nat} (h1 : p.1 < p.2) (h2 : p.2 ≤ t.size) : bts (t.extract p.1 p.2) = sgq t p := by
  apply List.ext_getElem?
  intro i
  have hs : (t.extract p.1 p.2).size = p.2 - p.1 := ex_size h2
  rw [bts_get, hs]
  unfold sgq
  rw [List.getElem?_map]
  by_cases h : i < p.2 - p.1
  · rw [if_pos h, bty_ex h2 h, List.getElem?_range' h]
    show some _ = some (bty t (p.1 + 1 * i)); rw [Nat.one_mul]
  · rw [if_neg h, List.getElem?_eq_none (by rw [List.length_range']; omega)]; rfl
theorem rnq_bts (t : ByteArray) : Lkq t t.size (rnq (bts t)) := by rw [← bts_range]; exact lkq_all t t.size
/-- the words' texts, by the bytes -/
theorem wds_rnq (t : ByteArray) : ((wds t).map fun p => t.extract p.1 p.2).map bts = (rnq (bts t)).2.2.reverse := by
  rw [(rnq_bts t).t, ← List.map_reverse, List.map_map]
  show _ = (wds t).map (sgq t)
  apply List.map_congr_left
  intro p hp
  have hm := (scn_wf t t.size).mem p (by unfold wds at hp; exact List.mem_reverse.1 hp)
  exact bts_ex hm.1 hm.2
theorem tkl_same {s t : ByteArray} (h : (rnq (bts s)).2.2 = (rnq (bts t)).2.2) (n m : Nat) : (tkl n s).map (·.1) = (tkl m t).map (·.1) := by
  have e : ∀ (k : Nat) (u : ByteArray), (tkl k u).map (·.1) = (wds u).map fun p => u.extract p.1 p.2 := by
    intro k u; unfold tkl; rw [List.map_map]; rfl
  rw [e, e]
  have h2 : ((wds s).map fun p => s.extract p.1 p.2).map bts = ((wds t).map fun p => t.extract p.1 p.2).map bts := by rw [wds_rnq, wds_rnq, h]
  revert h2
  generalize ((wds s).map fun p => s.extract p.1 p.2) = A
  generalize ((wds t).map fun p => t.extract p.1 p.2) = B
  intro h2
  induction A generalizing B with
  | nil => cases B with
    | nil => rfl
    | cons _ _ => cases h2
  | cons x r ih => cases B with
    | nil => cases h2
    | cons y q =>
      rw [List.map_cons, List.map_cons, List.cons.injEq] at h2
      rw [bts_inj h2.1, ih q h2.2]
theorem bdE_rnq (t : ByteArray) : bdE t = if (rnq (bts t)).1 = 2 then 240 else if (rnq (bts t)).1 = 3 then 3 else 0 := by
  unfold bdE; rw [(rnq_bts t).m]
/-- a line as TokensBare writes it: nothing wrong with it, and the same words -/
theorem bare_line {u v : ByteArray} (h : bts v = 9 :: 32 :: (bts u).flatMap wde ∨ ∃ r, bts v = (9 :: 32 :: (bts u).flatMap wde) ++ 32 :: 59 :: r) (hb : bdE u = 0) :
    bdE v = 0 ∧ ∀ n m, (tkl n v).map (·.1) = (tkl m u).map (·.1) := by
  rw [bdE_rnq] at hb
  have hm : (rnq (bts u)).1 ≠ 2 ∧ (rnq (bts u)).1 ≠ 3 := by
    refine ⟨fun q => ?_, fun q => ?_⟩
    · rw [if_pos q] at hb; cases hb
    · rw [if_neg (by omega), if_pos q] at hb; cases hb
  have hk : (rnq (bts v)).2.2 = (rnq (bts u)).2.2 ∧ ((rnq (bts v)).1 = (rnq (bts u)).1 ∨ (rnq (bts v)).1 = 1) := by
    rcases h with h | ⟨r, h⟩
    · rw [h, rnq_bare]; exact ⟨rfl, .inl rfl⟩
    · rw [h]
      have q := rnq_remark (bts u) r
      refine ⟨q.1, ?_⟩
      rw [q.2]
      by_cases z : (rnq (bts u)).1 = 0
      · rw [if_pos z]; exact .inr rfl
      · rw [if_neg z]; exact .inl rfl
  refine ⟨?_, fun n m => tkl_same hk.1 n m⟩
  rw [bdE_rnq, if_neg (by have := hk.2; omega), if_neg (by have := hk.2; omega)]
end Go.Proofs.YtpfdgibgdehcdaaDoor
