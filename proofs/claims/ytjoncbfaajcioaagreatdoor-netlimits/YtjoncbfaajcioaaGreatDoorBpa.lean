/-
  Several texts in one: Shc Tka Tkb Shl Tkc Tkd Tke Tkr Tkh Tki Tkj.
-/
import Derived.Shelf.Strconv.Clone
import Derived.Test.YtjoncbfaajcioaaGreatDoorProg
import Derived.Test.YtjoncbfaajcioaaGreatDoorChecked
import Derived.WalkKit
import Derived.Below
import Derived.RowKit3
import Derived.Laws.OwnMore
import Derived.Deep.AppendLies
import Derived.Deep.RegionHeldLaw
import Derived.Deep.QuietTactic
import Derived.Lib.SmallJoins
import Derived.Shelf.Strings.Builder1
import Derived.Shelf.Strings.BuilderF
import Derived.Shelf.Strings.BuilderK
import Derived.Shelf.Strings.Split
import Derived.Shelf.Strings.Repeat
import Derived.Shelf.Strings.Replace
import Derived.Lib.IndexMore
import Derived.Deep.OwnRows
import Derived.WalkMore
import Derived.Deep.LoopGhost
import Derived.Deep.RegionWith
namespace Go.Proofs.YtjoncbfaajcioaaGreatDoor
open Go.Shelf Go.Proofs

def scR : Ren := ⟨fun | 316 => 65 | n => n, fun | 0 => 0 | 3 => 3 | 4 => 4 | 5 => 5 | 9 => 9 | 37 => 62 | 127 => 110 | n => n, fun  | n => n⟩
theorem sc316 : Lays.n316 Tryz.prog scR := {
  mixed := by kernel_rfl
  f316 := Tryz.func65.trans (congrArg some (by kernel_rfl))
  t0 := Tryz.underlying0
  a0 := Tryz.isAgg0
  z0 := Tryz.sizeOf0
  v0 := Tryz.zeroValue0
  t3 := Tryz.underlying3
  a3 := Tryz.isAgg3
  z3 := Tryz.sizeOf3
  v3 := Tryz.zeroValue3
  t4 := Tryz.underlying4
  a4 := Tryz.isAgg4
  z4 := Tryz.sizeOf4
  v4 := Tryz.zeroValue4
  t9 := Tryz.underlying9
  a9 := Tryz.isAgg9
  z9 := Tryz.sizeOf9
  v9 := Tryz.zeroValue9
  t37 := Tryz.underlying62
  a37 := Tryz.isAgg62
  z37 := Tryz.sizeOf62
  v37 := Tryz.zeroValue62
  t127 := Tryz.underlying110
  a127 := Tryz.isAgg110
  z127 := Tryz.sizeOf110
  v127 := Tryz.zeroValue110 }
theorem scM316 : LaysM.n316 Tryz.prog scR := { sc316 with
  t5 := Tryz.underlying5
  a5 := Tryz.isAgg5
  z5 := Tryz.sizeOf5
  v5 := Tryz.zeroValue5
  i0 := by kernel_rfl
  i3 := by kernel_rfl
  i4 := by kernel_rfl
  i5 := by kernel_rfl
  i9 := by kernel_rfl
  i37 := by kernel_rfl
  i127 := by kernel_rfl }
end Go.Proofs.YtjoncbfaajcioaaGreatDoor

namespace Go.Proofs.YtjoncbfaajcioaaGreatDoor
open RowKit
set_option linter.unusedVariables false

/-- a byte of a text (0 outside it) -/
def bty (s : ByteArray) (i : Nat) : Nat := (s.data.getD i 0).toNat
theorem bty_get {s : ByteArray} {i : Nat} (h : i < s.size) : (s[i]'h).toNat = bty s i := by
  have h2 : i < s.data.size := h
  show (s.data[i]'h2).toNat = (s.data.getD i 0).toNat
  rw [Array.getD_eq_getD_getElem?, Array.getElem?_eq_getElem h2]; rfl
theorem bty_lt (s : ByteArray) (i : Nat) : bty s i < 256 := UInt8.toNat_lt _
theorem ex_size {s : ByteArray} {a b : Nat} (h : b ≤ s.size) : (s.extract a b).size = b - a := by simp; omega
theorem bty_ex {s : ByteArray} {a b i : Nat} (hb : b ≤ s.size) (h : i < b - a) : bty (s.extract a b) i = bty s (a + i) := by
  have h1 : i < (s.extract a b).size := by rw [ex_size hb]; exact h
  have h2 : a + i < s.size := by omega
  rw [← bty_get h1, ← bty_get h2, ByteArray.getElem_extract]
theorem ex_ex {s : ByteArray} {a b c d : Nat} (hd : a + d ≤ b) : (s.extract a b).extract c d = s.extract (a + c) (a + d) := by
  rw [ByteArray.extract_extract]
  congr 1
  exact Nat.min_eq_left (by omega)
theorem bty_all {s t : ByteArray} (h : s.size = t.size) (q : ∀ i, i < s.size → bty s i = bty t i) : s = t := by
  apply ByteArray.ext_getElem h
  intro i h1 h2
  have := q i h1
  rw [← bty_get h1, ← bty_get h2] at this
  exact UInt8.toNat_inj.1 this

/-- a byte between words -/
def blk (c : Nat) : Prop := c = 32 ∨ c = 9 ∨ c = 13
instance (c : Nat) : Decidable (blk c) := by unfold blk; infer_instance
/-- one byte further: how it stands (0: going on, 1: a remark, 2: a byte that may not be, 3: too long a word), and the words so far, the newest first -/
def stp (c i : Nat) (x : Nat × List (Nat × Nat)) : Nat × List (Nat × Nat) :=
  if x.1 ≠ 0 then x
  else if c = 42 ∨ c = 59 then (1, x.2)
  else if blk c then x
  else if c < 33 ∨ 126 < c then (2, x.2)
  else match x.2 with
    | [] => (0, [(i, i + 1)])
    | (a, b) :: r => if b < i then (0, (i, i + 1) :: (a, b) :: r) else if i + 1 - a ≤ 80 then (0, (a, i + 1) :: r) else (3, (a, b) :: r)
def scn (s : ByteArray) : Nat → Nat × List (Nat × Nat)
  | 0 => (0, [])
  | i + 1 => stp (bty s i) i (scn s i)
theorem stp_off {c i : Nat} {x : Nat × List (Nat × Nat)} (h : x.1 ≠ 0) : stp c i x = x := if_pos h
theorem scn_stays {s : ByteArray} {i : Nat} (h : (scn s i).1 ≠ 0) : ∀ n, i ≤ n → scn s n = scn s i := by
  intro n hn
  induction n with
  | zero =>
    obtain rfl : i = 0 := by omega
    rfl
  | succ n ih =>
    rcases Nat.lt_or_ge n i with h1 | h1
    · obtain rfl : i = n + 1 := by omega
      rfl
    · have e := ih h1
      show stp (bty s n) n (scn s n) = _
      rw [e, stp_off h]
theorem scn_zero {s : ByteArray} {n : Nat} (h : (scn s n).1 = 0) {i : Nat} (hi : i ≤ n) : (scn s i).1 = 0 := by
  rcases Nat.eq_zero_or_pos (scn s i).1 with h0 | h0
  · exact h0
  · have := scn_stays (s := s) (i := i) (by omega) n hi
    rw [this] at h; exact h
theorem scn_rem {s : ByteArray} {i : Nat} {L : List (Nat × Nat)} (h : scn s i = (0, L)) (hc : bty s i = 42 ∨ bty s i = 59) : scn s (i + 1) = (1, L) := by
  show stp _ _ (scn s i) = _
  rw [h]; unfold stp
  rw [if_neg (by simp), if_pos hc]
theorem scn_blk {s : ByteArray} {i : Nat} {L : List (Nat × Nat)} (h : scn s i = (0, L)) (hc : blk (bty s i)) : scn s (i + 1) = (0, L) := by
  show stp _ _ (scn s i) = _
  rw [h]; unfold stp
  rw [if_neg (by simp), if_neg (by unfold blk at hc; omega), if_pos hc]
theorem scn_bad {s : ByteArray} {i : Nat} {L : List (Nat × Nat)} (h : scn s i = (0, L)) (h1 : ¬ (bty s i = 42 ∨ bty s i = 59)) (h2 : ¬ blk (bty s i)) (h3 : bty s i < 33 ∨ 126 < bty s i) : scn s (i + 1) = (2, L) := by
  show stp _ _ (scn s i) = _
  rw [h]; unfold stp
  rw [if_neg (by simp), if_neg h1, if_neg h2, if_pos h3]
theorem scn_new {s : ByteArray} {i : Nat} {L : List (Nat × Nat)} (h : scn s i = (0, L)) (h1 : ¬ (bty s i = 42 ∨ bty s i = 59)) (h2 : ¬ blk (bty s i)) (h3 : ¬ (bty s i < 33 ∨ 126 < bty s i)) (hL : ∀ a b r, L = (a, b) :: r → b < i) : scn s (i + 1) = (0, (i, i + 1) :: L) := by
  show stp _ _ (scn s i) = _
  rw [h]; unfold stp
  rw [if_neg (by simp), if_neg h1, if_neg h2, if_neg h3]
  match L, hL with
  | [], _ => rfl
  | (a, b) :: r, hL => exact if_pos (hL a b r rfl)
theorem scn_ext {s : ByteArray} {i a b : Nat} {r : List (Nat × Nat)} (h : scn s i = (0, (a, b) :: r)) (h1 : ¬ (bty s i = 42 ∨ bty s i = 59)) (h2 : ¬ blk (bty s i)) (h3 : ¬ (bty s i < 33 ∨ 126 < bty s i)) (hb : ¬ b < i) : scn s (i + 1) = if i + 1 - a ≤ 80 then (0, (a, i + 1) :: r) else (3, (a, b) :: r) := by
  show stp _ _ (scn s i) = _
  rw [h]; unfold stp
  rw [if_neg (by simp), if_neg h1, if_neg h2, if_neg h3]
  exact if_neg hb
/-- the words lie one behind the other, a byte between -/
def Wfw : Nat → List (Nat × Nat) → Prop
  | _, [] => True
  | i, (a, b) :: r => a < b ∧ b ≤ i ∧ Wfw (a - 1) r ∧ (r ≠ [] → 0 < a)
theorem Wfw.mono {i j : Nat} {L : List (Nat × Nat)} (h : Wfw i L) (hij : i ≤ j) : Wfw j L := by
  match L, h with
  | [], _ => exact trivial
  | (a, b) :: r, h => exact ⟨h.1, by have := h.2.1; omega, h.2.2⟩
theorem Wfw.len {i : Nat} {L : List (Nat × Nat)} (h : Wfw i L) : L.length ≤ i := by
  induction L generalizing i with
  | nil => exact Nat.zero_le _
  | cons p r ih =>
    obtain ⟨a, b⟩ := p
    obtain ⟨h1, h2, h3, _⟩ := h
    have := ih h3
    simp only [List.length_cons]; omega
theorem Wfw.mem {i : Nat} {L : List (Nat × Nat)} (h : Wfw i L) : ∀ p ∈ L, p.1 < p.2 ∧ p.2 ≤ i := by
  induction L generalizing i with
  | nil => intro p hp; cases hp
  | cons q r ih =>
    obtain ⟨a, b⟩ := q
    obtain ⟨h1, h2, h3, _⟩ := h
    intro p hp
    rcases List.mem_cons.1 hp with rfl | hp
    · exact ⟨h1, h2⟩
    · have := ih h3 p hp
      exact ⟨this.1, by omega⟩
theorem scn_wf (s : ByteArray) : ∀ i, Wfw i (scn s i).2 := by
  intro i
  induction i with
  | zero => exact trivial
  | succ i ih =>
    show Wfw _ (stp _ _ (scn s i)).2
    generalize scn s i = x at ih
    obtain ⟨k, L⟩ := x
    unfold stp
    have ih2 : Wfw i L := ih
    split
    · exact ih2.mono (by omega)
    · split
      · exact ih2.mono (by omega)
      · split
        · exact ih2.mono (by omega)
        · split
          · exact ih2.mono (by omega)
          · match L, ih2 with
            | [], _ => exact ⟨by omega, Nat.le_refl _, trivial, fun h => absurd rfl h⟩
            | (a, b) :: r, ih2 =>
              show Wfw _ (if b < i then (0, (i, i + 1) :: (a, b) :: r) else if i + 1 - a ≤ 80 then (0, (a, i + 1) :: r) else (3, (a, b) :: r) : Nat × List (Nat × Nat)).2
              obtain ⟨q1, q2, q3, q4⟩ := ih2
              split
              · exact ⟨by omega, Nat.le_refl _, ⟨q1, by omega, q3, q4⟩, fun _ => by omega⟩
              · split
                · exact ⟨by omega, Nat.le_refl _, q3, q4⟩
                · exact ⟨q1, by omega, q3, q4⟩

/-- a line's words -/
def wds (t : ByteArray) : List (Nat × Nat) := (scn t t.size).2.reverse
/-- the number of what is wrong with a line (0: nothing) -/
def bdE (t : ByteArray) : Nat := if (scn t t.size).1 = 2 then 240 else if (scn t t.size).1 = 3 then 3 else 0
theorem bd_ok {t : ByteArray} (h : (scn t t.size).1 = 0 ∨ (scn t t.size).1 = 1) : bdE t = 0 := by unfold bdE; rw [if_neg (by omega), if_neg (by omega)]
theorem bd_2 {t : ByteArray} (h : (scn t t.size).1 = 2) : bdE t = 240 := if_pos h
theorem bd_3 {t : ByteArray} (h : (scn t t.size).1 = 3) : bdE t = 3 := by unfold bdE; rw [if_neg (by omega), if_pos h]

/-- a token: text, line, column -/
abbrev Tok := ByteArray × Int × Int
def tkl (n : Nat) (t : ByteArray) : List Tok := (wds t).map fun p => (t.extract p.1 p.2, (n : Int), (p.1 : Int))
/-- the first line that may not be: its number's error and its place; (0, 0): none -/
def erL : Nat → List ByteArray → Nat × Nat
  | _, [] => (0, 0)
  | n, t :: r => if bdE t ≠ 0 then (bdE t, n) else erL (n + 1) r
def tkL : Nat → List ByteArray → List (List Tok)
  | _, [] => []
  | n, t :: r => tkl n t :: tkL (n + 1) r
theorem tkL_len (l : List ByteArray) : ∀ n, (tkL n l).length = l.length := by
  induction l with
  | nil => intro n; rfl
  | cons t r ih => intro n; show (tkL (n + 1) r).length + 1 = r.length + 1; rw [ih]
theorem tkL_get {l : List ByteArray} : ∀ {n k : Nat} {t : ByteArray}, l[k]? = some t → (tkL n l)[k]? = some (tkl (n + k) t) := by
  induction l with
  | nil => intro n k t h; simp at h
  | cons u r ih =>
    intro n k t h
    cases k with
    | zero => simp at h; subst h; rfl
    | succ k =>
      simp only [List.getElem?_cons_succ] at h
      have := ih (n := n + 1) h
      show (tkL (n + 1) r)[k]? = _
      rw [this]; congr 2; omega
theorem erL_ok {l : List ByteArray} : ∀ {n : Nat}, (∀ t ∈ l, bdE t = 0) → erL n l = (0, 0) := by
  induction l with
  | nil => intro n _; rfl
  | cons u r ih =>
    intro n h
    show (if bdE u ≠ 0 then (bdE u, n) else erL (n + 1) r) = _
    rw [if_neg (by simp [h u (by simp)])]
    exact ih fun t ht => h t (List.mem_cons_of_mem _ ht)
theorem erL_at {l : List ByteArray} : ∀ {n k : Nat} {t : ByteArray}, l[k]? = some t → (∀ j u, j < k → l[j]? = some u → bdE u = 0) → bdE t ≠ 0 → erL n l = (bdE t, n + k) := by
  induction l with
  | nil => intro n k t h; simp at h
  | cons u r ih =>
    intro n k t h hj hb
    show (if bdE u ≠ 0 then (bdE u, n) else erL (n + 1) r) = _
    cases k with
    | zero =>
      simp at h; subst h
      rw [if_pos hb]; rfl
    | succ k =>
      simp only [List.getElem?_cons_succ] at h
      rw [if_neg (by simp [hj 0 u (by omega) rfl])]
      rw [ih (n := n + 1) h (fun j v hjk hv => hj (j + 1) v (by omega) (by simpa using hv)) hb]
      congr 1; omega

/-- the pieces of a text between its bytes 10, from a place on -/
def pcs (s : ByteArray) : Nat → Nat → Nat → List (Nat × Nat)
  | 0, i, f => [(f, i)]
  | n + 1, i, f => if bty s i = 10 then (f, i) :: pcs s n (i + 1) (i + 1) else pcs s n (i + 1) f
theorem pcs_ne (s : ByteArray) : ∀ n i f, pcs s n i f ≠ [] := by
  intro n
  induction n with
  | zero => intro i f h; cases h
  | succ n ih =>
    intro i f
    unfold pcs
    split
    · intro h; cases h
    · exact ih _ _
/-- all pieces -/
def alP (s : ByteArray) : List (Nat × Nat) := pcs s s.size 0 0
/-- the pieces as texts -/
def cuT (s : ByteArray) (l : List (Nat × Nat)) : List ByteArray := l.map fun p => s.extract p.1 p.2
/-- a text's lines: all pieces, but for a last one without a byte -/
def liP (s : ByteArray) : List (Nat × Nat) := if (alP s).getLast? = some (s.size, s.size) then (alP s).dropLast else alP s
def liT (s : ByteArray) : List ByteArray := cuT s (liP s)
theorem pcs_last (s : ByteArray) : ∀ n i f, i + n = s.size → f ≤ i → ∃ g, g ≤ s.size ∧ (pcs s n i f).getLast? = some (g, s.size) := by
  intro n
  induction n with
  | zero => intro i f h hf; exact ⟨f, by omega, by show some (f, i) = _; rw [show i = s.size by omega]⟩
  | succ n ih =>
    intro i f h hf
    unfold pcs
    split
    · obtain ⟨g, h1, h2⟩ := ih (i + 1) (i + 1) (by omega) (Nat.le_refl _)
      refine ⟨g, h1, ?_⟩
      rw [List.getLast?_cons, h2]; rfl
    · exact ih _ _ (by omega) (by omega)
/-- every piece lies in the text -/
theorem pcs_in (s : ByteArray) : ∀ n i f, i + n = s.size → f ≤ i → ∀ p ∈ pcs s n i f, p.1 ≤ p.2 ∧ p.2 ≤ s.size := by
  intro n
  induction n with
  | zero => intro i f h hf p hp; rcases List.mem_singleton.1 hp with rfl; exact ⟨hf, by omega⟩
  | succ n ih =>
    intro i f h hf p hp
    unfold pcs at hp
    split at hp
    · rcases List.mem_cons.1 hp with rfl | hp
      · exact ⟨hf, by omega⟩
      · exact ih _ _ (by omega) (Nat.le_refl _) p hp
    · exact ih _ _ (by omega) (by omega) p hp
theorem pcs_len (s : ByteArray) : ∀ n i f, (pcs s n i f).length ≤ n + 1 := by
  intro n
  induction n with
  | zero => intro i f; exact Nat.le_refl _
  | succ n ih =>
    intro i f
    unfold pcs
    split
    · have := ih (i + 1) (i + 1); simp only [List.length_cons]; omega
    · have := ih (i + 1) f; omega
theorem liP_sub {s : ByteArray} {p : Nat × Nat} (h : p ∈ liP s) : p ∈ alP s := by
  unfold liP at h
  split at h
  · exact List.dropLast_subset _ h
  · exact h
theorem liP_in {s : ByteArray} {p : Nat × Nat} (h : p ∈ liP s) : p.1 ≤ p.2 ∧ p.2 ≤ s.size := pcs_in s s.size 0 0 (by omega) (Nat.le_refl _) p (liP_sub h)
theorem liP_len (s : ByteArray) : (liP s).length ≤ s.size + 1 := by
  have := pcs_len s s.size 0 0
  unfold liP
  split
  · rw [List.length_dropLast]; have : (alP s).length ≤ s.size + 1 := this; omega
  · exact this
end Go.Proofs.YtjoncbfaajcioaaGreatDoor

namespace Go.Proofs.YtjoncbfaajcioaaGreatDoor
open RowKit Joins
set_option linter.unusedVariables false

theorem Tryz.infoTok : (Tryz.prog.info? 100).map (fun i => (i.zero, i.size, i.bytes)) = some (some (.agg #[.string ByteArray.empty, .int .i64 0, .int .i64 0]), 3, 32) := by kernel_rfl
/-- tokens as cells -/
def tcs : List Tok → List Value
  | [] => []
  | p :: r => .string p.1 :: .int .i64 p.2.1 :: .int .i64 p.2.2 :: tcs r
theorem tcs_app (a b : List Tok) : tcs (a ++ b) = tcs a ++ tcs b := by
  induction a with
  | nil => rfl
  | cons p r ih => show _ :: _ :: _ :: tcs (r ++ b) = _; rw [ih]; rfl
theorem tcs_len (a : List Tok) : (tcs a).length = a.length * 3 := by
  induction a with
  | nil => rfl
  | cons p r ih => show (tcs r).length + 3 = (r.length + 1) * 3; rw [ih]; omega
theorem tcs_get {a : List Tok} : ∀ {k : Nat} {p : Tok}, a[k]? = some p → (tcs a)[k * 3]? = some (.string p.1) ∧ (tcs a)[k * 3 + 1]? = some (.int .i64 p.2.1) ∧ (tcs a)[k * 3 + 2]? = some (.int .i64 p.2.2) := by
  induction a with
  | nil => intro k p h; simp at h
  | cons q r ih =>
    intro k p h
    cases k with
    | zero => simp at h; subst h; exact ⟨rfl, rfl, rfl⟩
    | succ k =>
      have := ih (k := k) (p := p) (by simpa using h)
      exact ⟨by rw [show (k + 1) * 3 = k * 3 + 3 by omega]; exact this.1, by rw [show (k + 1) * 3 + 1 = k * 3 + 1 + 3 by omega]; exact this.2.1, by rw [show (k + 1) * 3 + 2 = k * 3 + 2 + 3 by omega]; exact this.2.2⟩
/-- the words so far (the newest first), as tokens of line n -/
def wtk (t : ByteArray) (n : Nat) (L : List (Nat × Nat)) : List Tok := L.reverse.map fun p => (t.extract p.1 p.2, (n : Int), (p.1 : Int))
theorem wtk_cons (t : ByteArray) (n : Nat) (p : Nat × Nat) (L : List (Nat × Nat)) : wtk t n (p :: L) = wtk t n L ++ [(t.extract p.1 p.2, (n : Int), (p.1 : Int))] := by
  unfold wtk; simp
theorem wtk_len (t : ByteArray) (n : Nat) (L : List (Nat × Nat)) : (wtk t n L).length = L.length := by unfold wtk; simp
theorem tkl_wtk (t : ByteArray) (n : Nat) : tkl n t = wtk t n (scn t t.size).2 := rfl

theorem sub_run (t : ByteArray) (a b : Nat) (B : Int) (hB : B = (b : Int)) (h1 : a ≤ b) (h2 : b ≤ t.size) : ∀ w : World, (Instr.slice 9 (.string t) (some (.int .i64 a)) (some (.int .i64 B)) none).run Tryz.prog w = .ok (.string (t.extract a b)) w := by
  intro w
  subst hB
  rw [run_slice_string (P := Tryz.prog) w 9 t .i64 .i64 a b Tryz.underlying9 (by omega) (by omega) (by omega)]
  simp
theorem addr_add0 (g j : Nat) : (⟨g, 0, none⟩ : Addr).add j = ⟨g, j, none⟩ := by unfold Addr.add; split <;> simp_all
/-- nothing but the row itself, and new memory -/
theorem grown_set {w : World} {g j : Nat} {u : Value} : w.grownBy (w.setCell ⟨g, j, none⟩ u) (some g) :=
  ⟨rfl, rfl, rfl, by simp [World.setCell], fun k _ hk => Below.heap_setCell _ _ _ _ (fun e => hk (by simp [e]))⟩

theorem grown_al {w w2 : World} {o : Obj} {row : Option Nat} (h : (w.alloc o).drew.grownBy w2 row) : w.grownBy w2 row :=
  ⟨h.os, h.tape, h.output, Nat.le_trans (by simp) h.size, fun k hk hr => (h.block k (by simp; omega) hr).trans (Deep.blk_alloc_lt _ _ _ hk)⟩
theorem ob_or {v : Value} {g cap n H B : Nat} (h : v.ownBlock = some g ∨ g = H) (hH : B ≤ H) : (Value.slice (some ⟨g, 0, none⟩) n cap).ownBlock = v.ownBlock ∨ ∃ q, (Value.slice (some ⟨g, 0, none⟩) n cap).ownBlock = some q ∧ B ≤ q := by
  rcases h with h | h
  · exact .inl h.symm
  · exact .inr ⟨g, rfl, by omega⟩

set_option maxHeartbeats 4000000 in
set_option maxRecDepth 100000 in
/-- a word begins -/
theorem lay_new (w : World) (base : Nat) (v : Value) (t : ByteArray) (n i : Nat) (L : List (Nat × Nat)) (hb : base ≤ w.heap.size) (hn : n ≤ 65536) (hi : i < t.size) (ht : t.size ≤ 65536)
    (hwf : Wfw i L) (hL : ∀ a b r, L = (a, b) :: r → b < i) (hown : w.ownsRow base 100 3 v L.length (tcs (wtk t n L))) :
    Calls Tryz.prog 43 #[v, .string t, .int .i64 n, .int .i64 i] w fun e w' => ∃ v', e = .returned (.tuple #[v', .bool true]) ∧
      w'.ownsRow base 100 3 v' (L.length + 1) (tcs (wtk t n ((i, i + 1) :: L))) ∧ w.grownBy w' v.ownBlock ∧ (v'.ownBlock = v.ownBlock ∨ ∃ g, v'.ownBlock = some g ∧ w.heap.size ≤ g) := by
  have hlen := hwf.len
  obtain ⟨i0, hi0, hz0, hz1, hz2⟩ := info_parts Tryz.infoTok
  have e1 : tcs (wtk t n ((i, i + 1) :: L)) = tcs (wtk t n L) ++ [.string (t.extract i (i + 1)), .int .i64 n, .int .i64 i] := by rw [wtk_cons, tcs_app]; rfl
  rw [e1]
  rcases L with _ | ⟨⟨a, b⟩, r⟩
  · obtain ⟨A, cap, rfl⟩ : ∃ A cap, v = .slice A 0 cap := by
      rcases ownsRow_forms hown with ⟨rfl, _⟩ | ⟨g, cap, rfl⟩
      · exact ⟨_, _, rfl⟩
      · exact ⟨_, _, rfl⟩
    have hown0 : w.ownsRow base 100 3 (.slice A 0 cap) 0 [] := hown
    have hsl := sub_run t i (i + 1) ((i : Int) + 1) (by omega) (by omega) (by omega)
    go_enter Tryz.func43, Tryz.ntmps43
    go_wp2_with fail
    go_region
    go_wp2_with (at_builtin; refine wpList_append_lies _ (by rfl) _ _ 70 (by rfl) base 100 i0 (.agg #[.string ByteArray.empty, .int .i64 0, .int .i64 0]) 3 32 Tryz.underlying70 hi0 hz0 hz1 hz2 (by rfl) (by decide) _ _ _ (by rfl) (hown0.alloc _) ⟨_, 0, none⟩ 1 1 [.string (t.extract i (i + 1)), .int .i64 n, .int .i64 i] (by rfl) (by rfl) ?c1 ?c2 (by decide) ?c3 ?c4 ?c5 _ rfl ?next)
    case c1 => exact World.news_of_block (fr := (0, 0)) (t := 100) (cs := #[.string (t.extract i (i + 1)), .int .i64 n, .int .i64 i]) (heap_alloc_new _ _)
    case c2 => intro u hu; simp at hu; rcases hu with rfl | rfl | rfl <;> rfl
    case c3 => unfold maxLen; omega
    case c4 => omega
    case c5 => simp; omega
    case next =>
      intro g2 cap2 w2 hown2 hgrow hat hlt
      go_wp2_with fail
      go_ret2
      exact ⟨_, rfl, hown2, grown_al hgrow, ob_or hat (by simp)⟩
  · have hbi : b < i := hL a b r rfl
    simp only [List.length_cons] at hlen
    obtain ⟨g, cap, rfl, hgb, hglt⟩ := hown.form (by simp)
    have hown0 : w.ownsRow base 100 3 (.slice (some ⟨g, 0, none⟩) (r.length + 1) cap) (r.length + 1) (tcs (wtk t n ((a, b) :: r))) := hown
    have hgt : (wtk t n ((a, b) :: r))[r.length]? = some (t.extract a b, (n : Int), (a : Int)) := by
      rw [wtk_cons, List.getElem?_append_right (by rw [wtk_len]; omega), wtk_len]; simp
    obtain ⟨k0, k1, k2⟩ := tcs_get hgt
    rw [← hown0.cellAt _ (by omega)] at k0 k2
    have hwf1 := hwf.1
    have hwf2 := hwf.2.1
    have hsz : (t.extract a b).size = b - a := ex_size (by omega)
    have hsl := sub_run t i (i + 1) ((i : Int) + 1) (by omega) (by omega) (by omega)
    show Calls Tryz.prog 43 #[.slice (some ⟨g, 0, none⟩) (r.length + 1) cap, .string t, .int .i64 n, .int .i64 i] w fun e w' => ∃ v', e = .returned (.tuple #[v', .bool true]) ∧
      w'.ownsRow base 100 3 v' (r.length + 1 + 1) _ ∧ w.grownBy w' (Value.slice (some ⟨g, 0, none⟩) (r.length + 1) cap).ownBlock ∧ (v'.ownBlock = (Value.slice (some ⟨g, 0, none⟩) (r.length + 1) cap).ownBlock ∨ ∃ g, v'.ownBlock = some g ∧ w.heap.size ≤ g)
    have HO : Hid (w.ownsRow base 100 3 (.slice (some ⟨g, 0, none⟩) (r.length + 1) cap) (r.length + 1) (tcs (wtk t n ((a, b) :: r)))) := hown0
    clear hown hown0 hgt k1 e1 hwf hL
    generalize tcs (wtk t n ((a, b) :: r)) = XS at HO ⊢
    generalize r.length = m at HO k0 k2 hlen ⊢
    have hneg : decide ((m : Int) < 0) = false := by simp
    have hwr : IntKind.i64.wrap ((a : Int) + ((b - a : Nat) : Int)) = (b : Int) := by
      rw [show (a : Int) + ((b - a : Nat) : Int) = (b : Int) by omega, IntKind.wrap_i64]; omega
    have hix : (m : Int) < (m : Int) + 1 := by omega
    have hbi2 : decide ((b : Int) < (i : Int)) = true := by simp; omega
    go_enter Tryz.func43, Tryz.ntmps43
    go_wp2_with fail
    go_region_held_law (fun w' => w'.cell? ⟨g, m * 3, none⟩ = some (.string (t.extract a b)) ∧ w'.cell? ⟨g, m * 3 + 2, none⟩ = some (.int .i64 a)) (go_keep) (fail)
    go_wp2_with (at_builtin; refine wpList_append_lies _ (by rfl) _ _ 70 (by rfl) base 100 i0 (.agg #[.string ByteArray.empty, .int .i64 0, .int .i64 0]) 3 32 Tryz.underlying70 hi0 hz0 hz1 hz2 (by rfl) (by decide) _ _ _ (by rfl) (HO.out.alloc _) ⟨_, 0, none⟩ 1 1 [.string (t.extract i (i + 1)), .int .i64 n, .int .i64 i] (by rfl) (by rfl) ?c1 ?c2 (by decide) ?c3 ?c4 ?c5 _ rfl ?next)
    case c1 => exact World.news_of_block (fr := (0, 0)) (t := 100) (cs := #[.string (t.extract i (i + 1)), .int .i64 n, .int .i64 i]) (heap_alloc_new _ _)
    case c2 => intro u hu; simp at hu; rcases hu with rfl | rfl | rfl <;> rfl
    case c3 => unfold maxLen; omega
    case c4 => omega
    case c5 => simp; omega
    case next =>
      intro g2 cap2 w2 hown2 hgrow hat hlt
      go_wp2_with fail
      go_ret2
      exact ⟨_, rfl, hown2, grown_al hgrow, ob_or hat (by simp)⟩

set_option maxHeartbeats 4000000 in
set_option maxRecDepth 100000 in
/-- the last word goes on -/
theorem lay_ext (w : World) (base : Nat) (v : Value) (t : ByteArray) (n i a b : Nat) (r : List (Nat × Nat)) (hb : base ≤ w.heap.size) (hn : n ≤ 65536) (hi : i < t.size) (ht : t.size ≤ 65536)
    (hwf : Wfw i ((a, b) :: r)) (hL : ¬ b < i) (hown : w.ownsRow base 100 3 v (r.length + 1) (tcs (wtk t n ((a, b) :: r)))) :
    Calls Tryz.prog 43 #[v, .string t, .int .i64 n, .int .i64 i] w fun e w' => e = .returned (.tuple #[v, .bool (decide (i + 1 - a ≤ 80))]) ∧
      w'.ownsRow base 100 3 v (r.length + 1) (tcs (wtk t n ((a, i + 1) :: r))) ∧ w.grownBy w' v.ownBlock := by
  have hlen := hwf.len
  simp only [List.length_cons] at hlen
  obtain ⟨g, cap, rfl, hgb, hglt⟩ := hown.form (by simp)
  have hgt : (wtk t n ((a, b) :: r))[r.length]? = some (t.extract a b, (n : Int), (a : Int)) := by
    rw [wtk_cons, List.getElem?_append_right (by rw [wtk_len]; omega), wtk_len]; simp
  obtain ⟨k0, k1, k2⟩ := tcs_get hgt
  rw [← hown.cellAt _ (by omega)] at k0 k2
  have hwf1 := hwf.1
  have hwf2 := hwf.2.1
  obtain rfl : b = i := by omega
  have hfz := hown.frozenAt (r.length * 3)
  have HS : Hid (((w.setCell ⟨g, r.length * 3, none⟩ (.string (t.extract a (b + 1)))).ownsRow base 100 3 (.slice (some ⟨g, 0, none⟩) (r.length + 1) cap) (r.length + 1) (tcs (wtk t n ((a, b + 1) :: r)))) ∧ w.grownBy (w.setCell ⟨g, r.length * 3, none⟩ (.string (t.extract a (b + 1)))) (some g)) := by
    have hs := hown.stored (r.length * 3) (.string (t.extract a (b + 1)))
    refine ⟨?_, hs.2⟩
    have he : tcs (wtk t n ((a, b + 1) :: r)) = (tcs (wtk t n ((a, b) :: r))).set (r.length * 3) (.string (t.extract a (b + 1))) := by
      rw [wtk_cons, wtk_cons, tcs_app, tcs_app, List.set_append_right _ _ (by rw [tcs_len, wtk_len]; omega), tcs_len, wtk_len, Nat.sub_self]
      rfl
    rw [he]; exact hs.1
  have hsz : (t.extract a b).size = b - a := ex_size (by omega)
  have hsz2 : (t.extract a (b + 1)).size = b + 1 - a := ex_size (by omega)
  have hsl := sub_run t a (b + 1) ((b : Int) + 1) (by omega) (by omega) (by omega)
  clear hown hgt k1 hwf
  generalize tcs (wtk t n ((a, b + 1) :: r)) = XS at HS ⊢
  generalize r.length = m at HS k0 k2 hlen hfz ⊢
  have hneg : decide ((m : Int) < 0) = false := by simp
  have hwr : IntKind.i64.wrap ((a : Int) + ((b - a : Nat) : Int)) = (b : Int) := by
    rw [show (a : Int) + ((b - a : Nat) : Int) = (b : Int) by omega, IntKind.wrap_i64]; omega
  have hix : (m : Int) < (m : Int) + 1 := by omega
  have hbi2 : decide ((b : Int) < (b : Int)) = false := by simp
  go_enter Tryz.func43, Tryz.ntmps43
  go_wp2_with fail
  go_region_held_law (fun w' => w'.cell? ⟨g, m * 3, none⟩ = some (.string (t.extract a b)) ∧ w'.cell? ⟨g, m * 3 + 2, none⟩ = some (.int .i64 a)) (go_keep) (fail)
  have kc : (w.setCell ⟨g, m * 3, none⟩ (.string (t.extract a (b + 1)))).cell? ⟨g, m * 3, none⟩ = some (.string (t.extract a (b + 1))) := World.cell?_setCell_same _ _ _ k0
  have hle : decide (((b + 1 - a : Nat) : Int) ≤ 80) = decide (b + 1 - a ≤ 80) := by rw [decide_eq_decide]; omega
  clear k0 k2
  go_wp2_with fail
  go_region_held_law (fun w' => w'.cell? ⟨g, m * 3, none⟩ = some (.string (t.extract a (b + 1)))) (go_keep) (fail)
  go_wp2_with fail
  go_ret2
  refine ⟨congrArg (fun x => Ending.returned (Value.tuple #[Value.slice (some ⟨g, 0, none⟩) (m + 1) cap, Value.bool x])) (decide_eq_decide.2 (by omega : b + 1 ≤ 80 + a ↔ b + 1 - a ≤ 80)), HS.out.1, ⟨HS.out.2.os, HS.out.2.tape, HS.out.2.output, HS.out.2.size, HS.out.2.block⟩⟩
end Go.Proofs.YtjoncbfaajcioaaGreatDoor

namespace Go.Proofs.YtjoncbfaajcioaaGreatDoor
open Go.Shelf Go.Proofs

def shlR : Ren := ⟨fun | 99 => 145 | 105 => 112 | 138 => 80 | 143 => 81 | 146 => 60 | 154 => 999999 | 155 => 999999 | 165 => 58 | 166 => 37 | 167 => 999999 | 169 => 39 | 170 => 146 | 195 => 96 | 197 => 97 | 206 => 161 | 212 => 144 | 217 => 123 | 218 => 98 | 219 => 99 | 221 => 70 | 224 => 125 | 225 => 124 | 240 => 57 | 241 => 69 | 260 => 122 | 263 => 160 | 264 => 127 | 266 => 153 | 267 => 126 | 268 => 79 | 276 => 68 | 277 => 78 | 314 => 154 | n => n, fun | 0 => 0 | 3 => 3 | 4 => 4 | 5 => 5 | 9 => 9 | 20 => 20 | 21 => 21 | 31 => 38 | 37 => 62 | 46 => 120 | 51 => 210 | 53 => 48 | 70 => 80 | 72 => 82 | 75 => 84 | 76 => 85 | 80 => 46 | 105 => 153 | 109 => 200 | 119 => 214 | 127 => 110 | 138 => 216 | 139 => 217 | 146 => 218 | 148 => 184 | 164 => 121 | n => n, fun | 1 => 1 | 3 => 5 | 4 => 6 | n => n⟩
theorem sh240 : Lays.n240 Tryz.prog shlR := {
  mixed := by kernel_rfl
  f240 := Tryz.func57.trans (congrArg some (by kernel_rfl))
  f276 := Tryz.func68.trans (congrArg some (by kernel_rfl))
  t0 := Tryz.underlying0
  a0 := Tryz.isAgg0
  z0 := Tryz.sizeOf0
  v0 := Tryz.zeroValue0
  t4 := Tryz.underlying4
  a4 := Tryz.isAgg4
  z4 := Tryz.sizeOf4
  v4 := Tryz.zeroValue4
  t9 := Tryz.underlying9
  a9 := Tryz.isAgg9
  z9 := Tryz.sizeOf9
  v9 := Tryz.zeroValue9
  t20 := Tryz.underlying20
  a20 := Tryz.isAgg20
  z20 := Tryz.sizeOf20
  v20 := Tryz.zeroValue20
  t70 := Tryz.underlying80
  a70 := Tryz.isAgg80
  z70 := Tryz.sizeOf80
  v70 := Tryz.zeroValue80
  t72 := Tryz.underlying82
  a72 := Tryz.isAgg82
  z72 := Tryz.sizeOf82
  v72 := Tryz.zeroValue82
  t164 := Tryz.underlying121
  a164 := Tryz.isAgg121
  z164 := Tryz.sizeOf121
  v164 := Tryz.zeroValue121 }
theorem sh166 : Lays.n166 Tryz.prog shlR := {
  mixed := by kernel_rfl
  f166 := Tryz.func37.trans (congrArg some (by kernel_rfl))
  f240 := Tryz.func57.trans (congrArg some (by kernel_rfl))
  f276 := Tryz.func68.trans (congrArg some (by kernel_rfl))
  t0 := Tryz.underlying0
  a0 := Tryz.isAgg0
  z0 := Tryz.sizeOf0
  v0 := Tryz.zeroValue0
  t3 := Tryz.underlying3
  a3 := Tryz.isAgg3
  z3 := Tryz.sizeOf3
  v3 := Tryz.zeroValue3
  t4 := Tryz.underlying4
  a4 := Tryz.isAgg4
  z4 := Tryz.sizeOf4
  v4 := Tryz.zeroValue4
  t9 := Tryz.underlying9
  a9 := Tryz.isAgg9
  z9 := Tryz.sizeOf9
  v9 := Tryz.zeroValue9
  t20 := Tryz.underlying20
  a20 := Tryz.isAgg20
  z20 := Tryz.sizeOf20
  v20 := Tryz.zeroValue20
  t37 := Tryz.underlying62
  a37 := Tryz.isAgg62
  z37 := Tryz.sizeOf62
  v37 := Tryz.zeroValue62
  t70 := Tryz.underlying80
  a70 := Tryz.isAgg80
  z70 := Tryz.sizeOf80
  v70 := Tryz.zeroValue80
  t72 := Tryz.underlying82
  a72 := Tryz.isAgg82
  z72 := Tryz.sizeOf82
  v72 := Tryz.zeroValue82
  t75 := Tryz.underlying84
  a75 := Tryz.isAgg84
  z75 := Tryz.sizeOf84
  v75 := Tryz.zeroValue84
  t164 := Tryz.underlying121
  a164 := Tryz.isAgg121
  z164 := Tryz.sizeOf121
  v164 := Tryz.zeroValue121 }
theorem sh169 : Lays.n169 Tryz.prog shlR := {
  mixed := by kernel_rfl
  f169 := Tryz.func39.trans (congrArg some (by kernel_rfl))
  t0 := Tryz.underlying0
  a0 := Tryz.isAgg0
  z0 := Tryz.sizeOf0
  v0 := Tryz.zeroValue0
  t3 := Tryz.underlying3
  a3 := Tryz.isAgg3
  z3 := Tryz.sizeOf3
  v3 := Tryz.zeroValue3
  t9 := Tryz.underlying9
  a9 := Tryz.isAgg9
  z9 := Tryz.sizeOf9
  v9 := Tryz.zeroValue9
  t37 := Tryz.underlying62
  a37 := Tryz.isAgg62
  z37 := Tryz.sizeOf62
  v37 := Tryz.zeroValue62
  t70 := Tryz.underlying80
  a70 := Tryz.isAgg80
  z70 := Tryz.sizeOf80
  v70 := Tryz.zeroValue80
  t72 := Tryz.underlying82
  a72 := Tryz.isAgg82
  z72 := Tryz.sizeOf82
  v72 := Tryz.zeroValue82
  t127 := Tryz.underlying110
  a127 := Tryz.isAgg110
  z127 := Tryz.sizeOf110
  v127 := Tryz.zeroValue110 }
theorem sh146 : Lays.n146 Tryz.prog shlR := {
  mixed := by kernel_rfl
  f138 := Tryz.func80.trans (congrArg some (by kernel_rfl))
  f143 := Tryz.func81.trans (congrArg some (by kernel_rfl))
  f146 := Tryz.func60.trans (congrArg some (by kernel_rfl))
  f195 := Tryz.func96.trans (congrArg some (by kernel_rfl))
  f197 := Tryz.func97.trans (congrArg some (by kernel_rfl))
  f217 := Tryz.func123.trans (congrArg some (by kernel_rfl))
  f218 := Tryz.func98.trans (congrArg some (by kernel_rfl))
  f219 := Tryz.func99.trans (congrArg some (by kernel_rfl))
  f221 := Tryz.func70.trans (congrArg some (by kernel_rfl))
  f224 := Tryz.func125.trans (congrArg some (by kernel_rfl))
  f225 := Tryz.func124.trans (congrArg some (by kernel_rfl))
  f260 := Tryz.func122.trans (congrArg some (by kernel_rfl))
  f266 := Tryz.func153.trans (congrArg some (by kernel_rfl))
  f267 := Tryz.func126.trans (congrArg some (by kernel_rfl))
  f268 := Tryz.func79.trans (congrArg some (by kernel_rfl))
  f314 := Tryz.func154.trans (congrArg some (by kernel_rfl))
  t0 := Tryz.underlying0
  a0 := Tryz.isAgg0
  z0 := Tryz.sizeOf0
  v0 := Tryz.zeroValue0
  t3 := Tryz.underlying3
  a3 := Tryz.isAgg3
  z3 := Tryz.sizeOf3
  v3 := Tryz.zeroValue3
  t4 := Tryz.underlying4
  a4 := Tryz.isAgg4
  z4 := Tryz.sizeOf4
  v4 := Tryz.zeroValue4
  t5 := Tryz.underlying5
  a5 := Tryz.isAgg5
  z5 := Tryz.sizeOf5
  v5 := Tryz.zeroValue5
  t9 := Tryz.underlying9
  a9 := Tryz.isAgg9
  z9 := Tryz.sizeOf9
  v9 := Tryz.zeroValue9
  t21 := Tryz.underlying21
  a21 := Tryz.isAgg21
  z21 := Tryz.sizeOf21
  v21 := Tryz.zeroValue21
  t31 := Tryz.underlying38
  a31 := Tryz.isAgg38
  z31 := Tryz.sizeOf38
  v31 := Tryz.zeroValue38
  t46 := Tryz.underlying120
  a46 := Tryz.isAgg120
  z46 := Tryz.sizeOf120
  v46 := Tryz.zeroValue120
  t51 := Tryz.underlying210
  a51 := Tryz.isAgg210
  z51 := Tryz.sizeOf210
  v51 := Tryz.zeroValue210
  t105 := Tryz.underlying153
  a105 := Tryz.isAgg153
  z105 := Tryz.sizeOf153
  v105 := Tryz.zeroValue153
  t119 := Tryz.underlying214
  a119 := Tryz.isAgg214
  z119 := Tryz.sizeOf214
  t138 := Tryz.underlying216
  a138 := Tryz.isAgg216
  z138 := Tryz.sizeOf216
  v138 := Tryz.zeroValue216
  t139 := Tryz.underlying217
  a139 := Tryz.isAgg217
  z139 := Tryz.sizeOf217
  v139 := Tryz.zeroValue217
  t146 := Tryz.underlying218
  a146 := Tryz.isAgg218
  z146 := Tryz.sizeOf218
  v146 := Tryz.zeroValue218
  g1 := by kernel_rfl
  g3 := by kernel_rfl
  g4 := by kernel_rfl }
theorem sh105 : Lays.n105 Tryz.prog shlR := {
  mixed := by kernel_rfl
  f99 := Tryz.func145.trans (congrArg some (by kernel_rfl))
  f105 := Tryz.func112.trans (congrArg some (by kernel_rfl))
  f165 := Tryz.func58.trans (congrArg some (by kernel_rfl))
  f166 := Tryz.func37.trans (congrArg some (by kernel_rfl))
  f169 := Tryz.func39.trans (congrArg some (by kernel_rfl))
  f170 := Tryz.func146.trans (congrArg some (by kernel_rfl))
  f206 := Tryz.func161.trans (congrArg some (by kernel_rfl))
  f212 := Tryz.func144.trans (congrArg some (by kernel_rfl))
  f240 := Tryz.func57.trans (congrArg some (by kernel_rfl))
  f241 := Tryz.func69.trans (congrArg some (by kernel_rfl))
  f263 := Tryz.func160.trans (congrArg some (by kernel_rfl))
  f264 := Tryz.func127.trans (congrArg some (by kernel_rfl))
  f276 := Tryz.func68.trans (congrArg some (by kernel_rfl))
  f277 := Tryz.func78.trans (congrArg some (by kernel_rfl))
  t0 := Tryz.underlying0
  a0 := Tryz.isAgg0
  z0 := Tryz.sizeOf0
  v0 := Tryz.zeroValue0
  t3 := Tryz.underlying3
  a3 := Tryz.isAgg3
  z3 := Tryz.sizeOf3
  v3 := Tryz.zeroValue3
  t4 := Tryz.underlying4
  a4 := Tryz.isAgg4
  z4 := Tryz.sizeOf4
  v4 := Tryz.zeroValue4
  t5 := Tryz.underlying5
  a5 := Tryz.isAgg5
  z5 := Tryz.sizeOf5
  v5 := Tryz.zeroValue5
  t9 := Tryz.underlying9
  a9 := Tryz.isAgg9
  z9 := Tryz.sizeOf9
  v9 := Tryz.zeroValue9
  t20 := Tryz.underlying20
  a20 := Tryz.isAgg20
  z20 := Tryz.sizeOf20
  v20 := Tryz.zeroValue20
  t37 := Tryz.underlying62
  a37 := Tryz.isAgg62
  z37 := Tryz.sizeOf62
  v37 := Tryz.zeroValue62
  t46 := Tryz.underlying120
  a46 := Tryz.isAgg120
  z46 := Tryz.sizeOf120
  v46 := Tryz.zeroValue120
  t51 := Tryz.underlying210
  a51 := Tryz.isAgg210
  z51 := Tryz.sizeOf210
  v51 := Tryz.zeroValue210
  t53 := Tryz.underlying48
  a53 := Tryz.isAgg48
  z53 := Tryz.sizeOf48
  v53 := Tryz.zeroValue48
  t70 := Tryz.underlying80
  a70 := Tryz.isAgg80
  z70 := Tryz.sizeOf80
  v70 := Tryz.zeroValue80
  t72 := Tryz.underlying82
  a72 := Tryz.isAgg82
  z72 := Tryz.sizeOf82
  v72 := Tryz.zeroValue82
  t75 := Tryz.underlying84
  a75 := Tryz.isAgg84
  z75 := Tryz.sizeOf84
  v75 := Tryz.zeroValue84
  t76 := Tryz.underlying85
  a76 := Tryz.isAgg85
  z76 := Tryz.sizeOf85
  v76 := Tryz.zeroValue85
  t109 := Tryz.underlying200
  a109 := Tryz.isAgg200
  z109 := Tryz.sizeOf200
  v109 := Tryz.zeroValue200
  t127 := Tryz.underlying110
  a127 := Tryz.isAgg110
  z127 := Tryz.sizeOf110
  v127 := Tryz.zeroValue110
  t146 := Tryz.underlying218
  a146 := Tryz.isAgg218
  z146 := Tryz.sizeOf218
  v146 := Tryz.zeroValue218
  t148 := Tryz.underlying184
  a148 := Tryz.isAgg184
  z148 := Tryz.sizeOf184
  v148 := Tryz.zeroValue184
  t164 := Tryz.underlying121
  a164 := Tryz.isAgg121
  z164 := Tryz.sizeOf121
  v164 := Tryz.zeroValue121 }
theorem shX : Builder.Extra Tryz.prog shlR := {
  sizeBuilder := by kernel_rfl
  liesBuilder := by kernel_rfl
  t5 := Tryz.underlying5
  a5 := Tryz.isAgg5
  z5 := Tryz.sizeOf5
  v5 := Tryz.zeroValue5
  infoByte := by kernel_rfl
  cellsByte := by kernel_rfl
  sizeByte := by kernel_rfl
  neB5 := by decide }
theorem shI : (Tryz.prog.info? 9).map (fun i => (i.zero, i.size, i.bytes)) = some (some (.string ByteArray.empty), 1, 16) := by kernel_rfl
end Go.Proofs.YtjoncbfaajcioaaGreatDoor

namespace Go.Proofs.YtjoncbfaajcioaaGreatDoor
open RowKit Joins
set_option linter.unusedVariables false

theorem pcs_no {s : ByteArray} : ∀ {n i f : Nat}, (∀ j, i ≤ j → j < i + n → bty s j ≠ 10) → pcs s n i f = [(f, i + n)] := by
  intro n
  induction n with
  | zero => intro i f _; rfl
  | succ n ih =>
    intro i f h
    unfold pcs
    rw [if_neg (h i (Nat.le_refl _) (by omega)), ih (fun j h1 h2 => h j (by omega) (by omega))]
    congr 2; omega
theorem pcs_hit {s : ByteArray} : ∀ {m n i f : Nat}, (∀ j, i ≤ j → j < i + m → bty s j ≠ 10) → bty s (i + m) = 10 → m < n → pcs s n i f = (f, i + m) :: pcs s (n - m - 1) (i + m + 1) (i + m + 1) := by
  intro m
  induction m with
  | zero =>
    intro n i f _ h hn
    obtain ⟨n, rfl⟩ : ∃ k, n = k + 1 := ⟨n - 1, by omega⟩
    show (if bty s i = 10 then (f, i) :: pcs s n (i + 1) (i + 1) else pcs s n (i + 1) f) = _
    rw [if_pos (by simpa using h)]
    simp
  | succ m ih =>
    intro n i f h1 h2 hn
    obtain ⟨n, rfl⟩ : ∃ k, n = k + 1 := ⟨n - 1, by omega⟩
    show (if bty s i = 10 then (f, i) :: pcs s n (i + 1) (i + 1) else pcs s n (i + 1) f) = _
    rw [if_neg (h1 i (Nat.le_refl _) (by omega)), ih (n := n) (i := i + 1) (fun j q1 q2 => h1 j (by omega) (by omega)) (by rw [show i + 1 + m = i + (m + 1) by omega]; exact h2) (by omega)]
    rw [show i + 1 + m = i + (m + 1) by omega, show n - m - 1 = n + 1 - (m + 1) - 1 by omega]

def nlB : ByteArray := ⟨#[10]⟩
theorem occ_yes {s : ByteArray} {i : Nat} (h : Lib.occAt s.data.toList nlB.data.toList i = true) : i < s.size ∧ bty s i = 10 := by
  have := Lib.occAt_head (c := 10) (t := []) rfl h
  have h1 : s.data[i]? = some 10 := by simpa using this
  have h2 : i < s.data.size := by
    rcases Nat.lt_or_ge i s.data.size with q | q
    · exact q
    · rw [Array.getElem?_eq_none q] at h1; cases h1
  refine ⟨h2, ?_⟩
  show (s.data.getD i 0).toNat = 10
  rw [Array.getD_eq_getD_getElem?, h1]; rfl
theorem occ_no {s : ByteArray} {i : Nat} (hi : i < s.size) (h : Lib.occAt s.data.toList nlB.data.toList i = false) : bty s i ≠ 10 := by
  have h2 : i < s.data.size := hi
  intro q
  have q1 : (s.data[i]'h2).toNat = 10 := by
    have := bty_get hi; rw [q] at this; exact this
  have q2 : s.data[i]'h2 = 10 := UInt8.toNat_inj.1 q1
  rw [Lib.occAt_iff_take _ _ _ (by have : nlB.data.toList.length = 1 := rfl; rw [this, ← Lib.size_eq]; omega)] at h
  have e : (s.data.toList.drop i).take nlB.data.toList.length = [10] := by
    have : nlB.data.toList.length = 1 := rfl
    rw [this]
    rw [List.take_one, List.head?_drop]
    simp [Array.getElem?_eq_getElem h2, q2]
  rw [e] at h
  exact absurd h (by decide)

theorem split_pcs (s : ByteArray) : ∀ k p, p ≤ s.size → s.size - p = k →
    Lib.splitB nlB 0 (Lib.countB (s.extract p s.size) nlB) (s.extract p s.size) = cuT s (pcs s (s.size - p) p p) := by
  intro k
  induction k using Nat.strongRecOn with
  | _ k ih =>
    intro p hp hk
    have hts : (s.extract p s.size).size = s.size - p := ex_size (Nat.le_refl _)
    rcases Lib.index_spec (s.extract p s.size).data.toList nlB.data.toList with ⟨h1, h2⟩ | ⟨i, h1, h2, h3, h4⟩
    · have e1 : Lib.indexB (s.extract p s.size) nlB = -1 := h1
      rw [Lib.splitB_miss _ _ _ _ e1, pcs_no]
      · show _ = [s.extract p (p + (s.size - p))]
        rw [show p + (s.size - p) = s.size by omega]
      · intro j q1 q2
        have := occ_no (s := s.extract p s.size) (i := j - p) (by rw [hts]; omega) (h2 _ (by rw [← Lib.size_eq, hts]; omega))
        rwa [bty_ex (Nat.le_refl _) (by omega), show p + (j - p) = j by omega] at this
    · have e1 : Lib.indexB (s.extract p s.size) nlB = i := h1
      obtain ⟨y1, y2⟩ := occ_yes h3
      rw [hts] at y1
      rw [bty_ex (Nat.le_refl _) (by omega)] at y2
      have hsz : nlB.size = 1 := rfl
      have e2 : (s.extract p s.size).extract (i + 1) (s.extract p s.size).size = s.extract (p + i + 1) s.size := by
        rw [hts, ex_ex (by omega)]; congr 1; omega
      rw [Lib.countB_hit _ _ i (by decide) e1, hsz, e2, Nat.add_comm 1, Lib.splitB_hit _ _ _ _ i e1, hsz, e2, ih (s.size - (p + i + 1)) (by omega) _ (by omega) rfl]
      rw [pcs_hit (m := i) ?_ y2 (by omega)]
      · rw [ex_ex (by omega)]
        show _ = s.extract p (p + i) :: _
        rw [show s.size - p - i - 1 = s.size - (p + i + 1) by omega]
        congr 1
      · intro j q1 q2
        have := occ_no (s := s.extract p s.size) (i := j - p) (by rw [hts]; omega) (h4 _ (by omega))
        rwa [bty_ex (Nat.le_refl _) (by omega), show p + (j - p) = j by omega] at this
theorem split_all (s : ByteArray) : Lib.splitB nlB 0 (Lib.countB s nlB) s = cuT s (alP s) := by
  have h := split_pcs s s.size 0 (Nat.zero_le _) (by omega)
  have e : s.extract 0 s.size = s := by simp
  rw [e] at h
  exact h
theorem split_len (s : ByteArray) : Lib.countB s nlB + 1 = (alP s).length := by
  have := Lib.splitB_all nlB (by decide) 0 _ s rfl
  rw [split_all] at this
  rw [← this]; unfold cuT; simp

/-- what strings.Split at the byte 10 hands back -/
theorem split_any (s : ByteArray) (m : Int) (w : World) (hs : s.size < 4294967281) (hm : w.cell? ⟨1, 0, none⟩ = some (.int .i64 m)) :
    Calls Tryz.prog 60 #[.string s, .string ⟨#[10]⟩] w fun e w' =>
      e = .returned (.slice (some ⟨w.heap.size, 0, none⟩) (alP s).length (alP s).length) ∧ w' = w.alloc (.cells ((cuT s (alP s)).map Value.string).toArray 9) := by
  have h := Any.strings_Split sh146 shI s nlB m w hs hm (by decide)
  rw [split_all, split_len] at h
  exact h
theorem cuT_len (s : ByteArray) (l : List (Nat × Nat)) : (cuT s l).length = l.length := by unfold cuT; simp
theorem liT_len (s : ByteArray) : (liT s).length = (liP s).length := cuT_len _ _
theorem alP_pos (s : ByteArray) : 0 < (alP s).length := List.length_pos_iff.2 (pcs_ne s _ _ _)
theorem alP_len (s : ByteArray) : (alP s).length ≤ s.size + 1 := pcs_len s s.size 0 0
/-- the last piece -/
theorem alP_last (s : ByteArray) : ∃ g, g ≤ s.size ∧ (alP s)[(alP s).length - 1]? = some (g, s.size) := by
  obtain ⟨g, h1, h2⟩ := pcs_last s s.size 0 0 (by omega) (Nat.le_refl _)
  refine ⟨g, h1, ?_⟩
  rw [← h2, List.getLast?_eq_getElem?]; rfl
theorem str_cell {w : World} {B j : Nat} {l : List ByteArray} {t : TypeId} {u : ByteArray} (h : w.heap[B]? = some (.cells (l.map Value.string).toArray t)) (hj : l[j]? = some u) : w.cell? ⟨B, j, none⟩ = some (.string u) := by
  rw [cell_of_row w B j _ t (0, 0) h]
  simp [hj]
theorem ex_empty {s : ByteArray} {g : Nat} (hg : g ≤ s.size) : (s.extract g s.size).toList.isEmpty = decide (g = s.size) := by
  rw [ByteArray.toList_eq]
  by_cases h : g = s.size
  · subst h
    rw [decide_eq_true rfl]
    have : s.extract s.size s.size = ByteArray.empty := by simp
    rw [this]; rfl
  · rw [decide_eq_false h, List.isEmpty_eq_false_iff]
    intro e
    have : (s.extract g s.size).data.toList.length = 0 := by rw [e]; rfl
    rw [← Lib.size_eq, ex_size (Nat.le_refl _)] at this
    omega
theorem liP_drop {s : ByteArray} (h : (alP s)[(alP s).length - 1]? = some (s.size, s.size)) : liP s = (alP s).dropLast := by
  unfold liP; rw [if_pos (by rw [List.getLast?_eq_getElem?]; exact h)]
theorem liP_all {s : ByteArray} {g : Nat} (h : (alP s)[(alP s).length - 1]? = some (g, s.size)) (hg : g ≠ s.size) : liP s = alP s := by
  unfold liP; rw [if_neg (by rw [List.getLast?_eq_getElem?, h]; simp; exact hg)]

set_option maxHeartbeats 1000000 in
set_option maxRecDepth 100000 in
/-- what linesOf hands back: all pieces in a block of its own, and the slice of the lines -/
theorem linesOf_any (s : ByteArray) (m : Int) (w : World) (hs : s.size ≤ 65536) (hm : w.cell? ⟨1, 0, none⟩ = some (.int .i64 m)) :
    Calls Tryz.prog 42 #[.string s] w fun e w' =>
      e = .returned (.slice (some ⟨w.heap.size, 0, none⟩) (liP s).length (alP s).length) ∧ w' = w.alloc (.cells ((cuT s (alP s)).map Value.string).toArray 9) := by
  obtain ⟨g, hg, hl⟩ := alP_last s
  have hpos := alP_pos s
  have hlen := alP_len s
  have hcl : (cuT s (alP s))[(alP s).length - 1]? = some (s.extract g s.size) := by unfold cuT; rw [List.getElem?_map, hl]; rfl
  have hcell : (w.alloc (.cells ((cuT s (alP s)).map Value.string).toArray 9)).cell? ⟨w.heap.size, (alP s).length - 1, none⟩ = some (.string (s.extract g s.size)) := str_cell (heap_alloc_new _ _) hcl
  have hem := ex_empty hg
  have hli : (liP s).length = if g = s.size then (alP s).length - 1 else (alP s).length := by
    by_cases q : g = s.size
    · subst q; rw [liP_drop hl, if_pos rfl, List.length_dropLast]
    · rw [liP_all hl q, if_neg q]
  have hc := split_any s m w (by omega) hm
  generalize ((cuT s (alP s)).map Value.string).toArray = X at hcell hc ⊢
  obtain ⟨n, hn⟩ : ∃ n, (alP s).length = n + 1 := ⟨(alP s).length - 1, by omega⟩
  rw [hn] at hlen hli hc hcell
  rw [hn]
  simp only [Nat.add_sub_cancel] at hcell hli
  generalize hE : s.extract g s.size = E at hcell hem
  have hix : (n : Int) < (n : Int) + 1 := by omega
  clear hcl hl hn hpos
  by_cases q : g = s.size
  · rw [decide_eq_true q] at hem
    rw [if_pos q] at hli
    rw [hli]
    clear q hli hE
    go_enter Tryz.func42, Tryz.ntmps42
    go_wp2_with (go_at_call 60; (with_reducible refine hc.mono ?_); rintro e w' ⟨rfl, rfl⟩)
    go_ret
    exact ⟨rfl, rfl⟩
  · rw [decide_eq_false q] at hem
    rw [if_neg q] at hli
    rw [hli]
    clear q hli hE
    go_enter Tryz.func42, Tryz.ntmps42
    go_wp2_with (go_at_call 60; (with_reducible refine hc.mono ?_); rintro e w' ⟨rfl, rfl⟩)
    go_ret
    exact ⟨rfl, rfl⟩
end Go.Proofs.YtjoncbfaajcioaaGreatDoor

namespace Go.Proofs.YtjoncbfaajcioaaGreatDoor
open RowKit Joins Deep
set_option linter.unusedVariables false

/-- the rows of words: block BL holds N slices, slice j the words ts j, in a block of its own -/
structure Fam (w : World) (base BL N : Nat) (vs : Nat → Value) (ts : Nat → List Tok) : Prop where
  row : w.rowIs BL 70 N vs
  own : ∀ j, j < N → w.ownsRow base 100 3 (vs j) (ts j).length (tcs (ts j))
  far : ∀ j, j < N → (vs j).ownBlock ≠ some BL
  apart : ∀ j k g, j < N → k < N → j ≠ k → (vs j).ownBlock = some g → (vs k).ownBlock ≠ some g
theorem Fam.lt {w : World} {base BL N : Nat} {vs : Nat → Value} {ts : Nat → List Tok} (h : Fam w base BL N vs ts) : BL < w.heap.size := h.row.lt
theorem Fam.made {w : World} {base N : Nat} : Fam (w.alloc (.cells (madeCells #[.slice none 0 0] N) 70)) base w.heap.size N (fun _ => .slice none 0 0) (fun _ => []) where
  row := World.rowIs_made w _ N _
  own := fun j _ => World.ownsRow_nil _ _ _ _
  far := fun j _ h => by cases h
  apart := fun j k g _ _ _ h => by cases h
theorem Fam.kept {w w' : World} {base BL N : Nat} {vs : Nat → Value} {ts : Nat → List Tok} (h : Fam w base BL N vs ts) (hb : Below w.heap.size w w') : Fam w' base BL N vs ts where
  row := h.row.of_block (hb.block _ h.lt)
  own := fun j hj => by
    refine (h.own j hj).kept (row := none) ⟨hb.os, hb.tape, hb.output, hb.size, fun k hk _ => hb.block k hk⟩ ?_
    cases e : (vs j).ownBlock
    · exact .inl rfl
    · exact .inr (by simp)
  far := h.far
  apart := h.apart
theorem Fam.turn {w w1 : World} {base BL N n : Nat} {vs : Nat → Value} {ts : Nat → List Tok} (h : Fam w base BL N vs ts) (hn : n < N) {v' : Value} {l : List Tok}
    (hg : w.grownBy w1 (vs n).ownBlock) (hown : w1.ownsRow base 100 3 v' l.length (tcs l)) (hv : v'.ownBlock = (vs n).ownBlock ∨ ∃ g, v'.ownBlock = some g ∧ w.heap.size ≤ g) :
    Fam (w1.setCell ⟨BL, n, none⟩ v') base BL N (fun j => if j = n then v' else vs j) (fun j => if j = n then l else ts j) := by
  have hlt := h.lt
  have hnb : v'.ownBlock ≠ some BL := by
    rcases hv with e | ⟨g, e, hge⟩
    · rw [e]; exact h.far n hn
    · rw [e]; intro q; have := Option.some.inj q; omega
  have hr1 : w1.rowIs BL 70 N vs := h.row.of_block (hg.block BL hlt (fun e => h.far n hn e.symm))
  have hb : ∀ j, j < N → ∀ g, (vs j).ownBlock = some g → g < w.heap.size := fun j hj g e => ((h.own j hj).lt g e).2
  refine ⟨hr1.set n v', ?_, ?_, ?_⟩
  · intro j hj
    by_cases e : j = n
    · simp only [e, if_true]
      exact hown.kept (row := some BL) grown_set (.inr hnb)
    · simp only [e, if_false]
      have h1 := (h.own j hj).kept hg (by
        cases q : (vs j).ownBlock with
        | none => exact .inl rfl
        | some g => exact .inr (fun q2 => h.apart j n g hj hn e q q2.symm))
      exact h1.kept (row := some BL) grown_set (.inr (h.far j hj))
  · intro j hj
    by_cases e : j = n
    · simp only [e, if_true]; exact hnb
    · simp only [e, if_false]; exact h.far j hj
  · intro j k g hj hk hjk
    by_cases e : j = n
    · have e2 : k ≠ n := fun q => hjk (by omega)
      simp only [e, if_true, e2, if_false]
      intro q1 q2
      rcases hv with e3 | ⟨g2, e3, hge⟩
      · exact h.apart n k g hn hk (fun q => e2 q.symm) (e3.symm.trans q1) q2
      · rw [e3] at q1; have := Option.some.inj q1; have := hb k hk g q2; omega
    · by_cases e2 : k = n
      · simp only [e, if_false, e2, if_true]
        intro q1 q2
        rcases hv with e3 | ⟨g2, e3, hge⟩
        · exact h.apart j n g hj hn e q1 (e3.symm.trans q2)
        · rw [e3] at q2; have := Option.some.inj q2; have := hb j hj g q1; omega
      · simp only [e, e2, if_false]; exact h.apart j k g hj hk hjk

/-- what is known while Cut goes on: it stands at line n, of which the words l are laid -/
structure Civ (s : ByteArray) (w wr : World) (n : Nat) (l : List Tok) : Prop where
  bel : Below w.heap.size w wr
  fc : wr.heap[w.heap.size]? = some (.cells #[.int .i64 0, .int .i64 0] 25 (0, 0))
  tx : wr.heap[w.heap.size + 1]? = some (.cells ((cuT s (alP s)).map Value.string).toArray 9)
  fam : ∃ vs ts, Fam wr (w.heap.size + 3) (w.heap.size + 2) (liP s).length vs ts ∧ (∀ j u, j < n → (liT s)[j]? = some u → ts j = tkl j u) ∧ ts n = l ∧ ∀ j, n < j → ts j = []
  ok : ∀ j u, j < n → (liT s)[j]? = some u → bdE u = 0
theorem Civ.next {s : ByteArray} {w wr : World} {n : Nat} {t : ByteArray} (h : Civ s w wr n (tkl n t)) (ht : (liT s)[n]? = some t) (hb : bdE t = 0) : Civ s w wr (n + 1) [] := by
  obtain ⟨vs, ts, hf, h1, h2, h3⟩ := h.fam
  refine ⟨h.bel, h.fc, h.tx, ⟨vs, ts, hf, ?_, h3 _ (by omega), fun j hj => h3 j (by omega)⟩, ?_⟩
  · intro j u hj hu
    rcases Nat.lt_succ_iff_lt_or_eq.1 hj with q | rfl
    · exact h1 j u q hu
    · rw [ht] at hu; cases hu; exact h2
  · intro j u hj hu
    rcases Nat.lt_succ_iff_lt_or_eq.1 hj with q | rfl
    · exact h.ok j u q hu
    · rw [ht] at hu; cases hu; exact hb
theorem liT_get {s : ByteArray} {n : Nat} (h : n < (liP s).length) : ∃ p ∈ liP s, (liP s)[n]? = some p ∧ (liT s)[n]? = some (s.extract p.1 p.2) := by
  refine ⟨(liP s)[n], List.getElem_mem h, List.getElem?_eq_getElem h, ?_⟩
  unfold liT cuT
  rw [List.getElem?_map, List.getElem?_eq_getElem h]; rfl
theorem liP_pre {s : ByteArray} {n : Nat} {p : Nat × Nat} (h : (liP s)[n]? = some p) : (alP s)[n]? = some p := by
  unfold liP at h
  split at h
  · rw [List.getElem?_dropLast] at h
    split at h
    · exact h
    · cases h
  · exact h
theorem Civ.text {s : ByteArray} {w wr : World} {n : Nat} {l : List Tok} (h : Civ s w wr n l) {t : ByteArray} {k : Nat} (hk : (liT s)[k]? = some t) : wr.cell? ⟨w.heap.size + 1, k, none⟩ = some (.string t) := by
  refine str_cell h.tx ?_
  have hk2 : (cuT s (liP s))[k]? = some t := hk
  unfold cuT at hk2 ⊢
  rw [List.getElem?_map] at hk2 ⊢
  cases e : (liP s)[k]? with
  | none => rw [e] at hk2; cases hk2
  | some p => rw [e] at hk2; rw [liP_pre e]; exact hk2
theorem Civ.lays {s : ByteArray} {w wr w1 : World} {n : Nat} {l l2 : List Tok} (h : Civ s w wr n l) (hn : n < (liP s).length) {vs : Nat → Value} {ts : Nat → List Tok}
    (hf : Fam wr (w.heap.size + 3) (w.heap.size + 2) (liP s).length vs ts) (h1 : ∀ j u, j < n → (liT s)[j]? = some u → ts j = tkl j u) (h3 : ∀ j, n < j → ts j = [])
    {v' : Value} (hg : wr.grownBy w1 (vs n).ownBlock) (hown : w1.ownsRow (w.heap.size + 3) 100 3 v' l2.length (tcs l2)) (hv : v'.ownBlock = (vs n).ownBlock ∨ ∃ g, v'.ownBlock = some g ∧ wr.heap.size ≤ g) :
    Civ s w (w1.setCell ⟨w.heap.size + 2, n, none⟩ v') n l2 := by
  have hlt := hf.lt
  have hb0 : ∀ g, (vs n).ownBlock = some g → w.heap.size + 3 ≤ g := fun g e => ((hf.own n hn).lt g e).1
  have hblk : ∀ k, k < w.heap.size + 3 → k ≠ w.heap.size + 2 → (w1.setCell ⟨w.heap.size + 2, n, none⟩ v').heap[k]? = wr.heap[k]? := by
    intro k hk hk2
    rw [Below.heap_setCell _ _ _ _ (by intro e; exact hk2 (by simpa using e)), hg.block k (by omega) (by intro e; have := hb0 k e.symm; omega)]
  refine ⟨?_, ?_, ?_, ⟨_, _, hf.turn hn hg hown hv, ?_, by simp, ?_⟩, h.ok⟩
  · refine h.bel.trans ⟨hg.os, hg.tape, hg.output, ?_, fun k hk => hblk k (by omega) (by omega)⟩
    have := hg.size
    simp [World.setCell]; have := h.bel.size; omega
  · rw [hblk _ (by omega) (by omega)]; exact h.fc
  · rw [hblk _ (by omega) (by omega)]; exact h.tx
  · intro j u hj hu
    simp only [show j ≠ n by omega, if_false]; exact h1 j u hj hu
  · intro j hj
    simp only [show j ≠ n by omega, if_false]; exact h3 j hj
theorem Civ.drew {s : ByteArray} {w wr : World} {n : Nat} {l : List Tok} (h : Civ s w wr n l) : Civ s w wr.drew n l :=
  ⟨h.bel.drew, h.fc, h.tx, h.fam.imp fun vs q => q.imp fun ts q => ⟨⟨q.1.row, q.1.own, q.1.far, q.1.apart⟩, q.2⟩, h.ok⟩
theorem Fam.put {w : World} {base BL N : Nat} {vs : Nat → Value} {ts : Nat → List Tok} (h : Fam w base BL N vs ts) {b i : Nat} (hb : b < base) (hne : BL ≠ b) (x : Value) : Fam (w.setCell ⟨b, i, none⟩ x) base BL N vs ts :=
  ⟨h.row.setOther hne x, fun j hj => ownsRow_setCell_below (h.own j hj) hb x, h.far, h.apart⟩
/-- two cells of a block that is known whole -/
theorem two_c {w : World} {B : Nat} {a b : Value} {T : TypeId} (h : w.heap[B]? = some (.cells #[a, b] T (0, 0))) : w.cell? ⟨B, 0, none⟩ = some a ∧ w.cell? ⟨B, 1, none⟩ = some b ∧ w.frozen? ⟨B, 0, none⟩ = false ∧ w.frozen? ⟨B, 1, none⟩ = false :=
  ⟨by rw [cell_of_row w B 0 _ T (0, 0) h]; rfl, by rw [cell_of_row w B 1 _ T (0, 0) h]; rfl, frozen_of_row w B 0 _ T h, frozen_of_row w B 1 _ T h⟩
theorem two_set {w : World} {B : Nat} {a b : Value} {T : TypeId} (h : w.heap[B]? = some (.cells #[a, b] T (0, 0))) (x y : Value) :
    ((w.setCell ⟨B, 0, none⟩ x).setCell ⟨B, 1, none⟩ y).cell? ⟨B, 0, none⟩ = some x ∧ ((w.setCell ⟨B, 0, none⟩ x).setCell ⟨B, 1, none⟩ y).cell? ⟨B, 1, none⟩ = some y := by
  obtain ⟨c0, c1, _, _⟩ := two_c h
  constructor
  · rw [World.cell?_setCell_other _ _ _ _ (by simp)]
    exact World.cell?_setCell_same _ _ _ c0
  · refine World.cell?_setCell_same _ _ _ (u := b) ?_
    rw [World.cell?_setCell_other _ _ _ _ (by simp)]; exact c1
theorem below_two {w w' : World} {f n : Nat} (h : Below n w w') (hf : n ≤ f) (x y : Value) : Below n w ((w'.setCell ⟨f, 0, none⟩ x).setCell ⟨f, 1, none⟩ y) :=
  (h.setCell (p := ⟨f, 0, none⟩) hf _).setCell (p := ⟨f, 1, none⟩) hf _
/-- Cut begins -/
theorem Civ.start {s : ByteArray} {w : World} {N : Nat} (hN : (liP s).length = N) :
    Civ s w (((w.alloc (.cells #[.int .i64 0, .int .i64 0] 25)).alloc (.cells ((cuT s (alP s)).map Value.string).toArray 9)).alloc (.cells (madeCells #[.slice none 0 0] N) 70)) 0 [] := by
  have hf := Fam.made (w := (w.alloc (.cells #[.int .i64 0, .int .i64 0] 25)).alloc (.cells ((cuT s (alP s)).map Value.string).toArray 9)) (base := w.heap.size + 3) (N := N)
  rw [show ((w.alloc (.cells #[.int .i64 0, .int .i64 0] 25)).alloc (.cells ((cuT s (alP s)).map Value.string).toArray 9)).heap.size = w.heap.size + 2 by simp] at hf
  refine ⟨(((Below.refl _ _).alloc (Nat.le_refl _) _).alloc (by simp) _).alloc (by simp; omega) _, ?_, ?_, ⟨_, _, by rw [hN]; exact hf, fun j u hj => absurd hj (by omega), rfl, fun _ _ => rfl⟩, fun j u hj => absurd hj (by omega)⟩
  · rw [blk_alloc_lt _ _ _ (by simp; omega), blk_alloc_lt _ _ _ (by simp)]; exact heap_alloc_new _ _
  · rw [blk_alloc_lt _ _ _ (by simp)]
    have := heap_alloc_new (w.alloc (.cells #[.int .i64 0, .int .i64 0] 25)) (.cells ((cuT s (alP s)).map Value.string).toArray 9)
    simpa using this
end Go.Proofs.YtjoncbfaajcioaaGreatDoor

namespace Go.Proofs.YtjoncbfaajcioaaGreatDoor
open RowKit Joins Deep
set_option linter.unusedVariables false

theorem Tryz.infoRow : (Tryz.prog.info? 70).map (fun i => (i.zero, i.size, i.bytes)) = some (some (.slice none 0 0), 1, 24) := by kernel_rfl
/-- the fault as a value -/
abbrev fltV (e a : Int) : Value := .agg #[.int .i64 e, .int .i64 a]
set_option maxRecDepth 100000 in
theorem cut_long (s : ByteArray) (w : World) (hs : 65536 < s.size) :
    Calls Tryz.prog 25 #[.string s] w fun e w' => e = .returned (.tuple #[.slice none 0 0, fltV 3 (-1)]) ∧ Below w.heap.size w w' := by
  go_enter Tryz.func25, Tryz.ntmps25
  go_wp2_with fail
  go_step3
  go_wp2_with fail
  try rw [Exit.noGoto_ret]
  refine bodyPost_ret (by simp [results, Tryz.results25, go_sem]; try rfl) rfl ?_
  exact ⟨rfl, (Below.refl _ w).alloc (Nat.le_refl _) _⟩

set_option maxHeartbeats 4000000 in
set_option maxRecDepth 100000 in
theorem cut_any (s : ByteArray) (m : Int) (w : World) (hs : s.size ≤ 65536) (hm : w.cell? ⟨1, 0, none⟩ = some (.int .i64 m)) :
    Calls Tryz.prog 25 #[.string s] w fun e w' => Below w.heap.size w w' ∧ ∃ v, e = .returned (.tuple #[v, fltV (erL 0 (liT s)).1 (erL 0 (liT s)).2]) ∧
      (((erL 0 (liT s)).1 = 0 ∧ (erL 0 (liT s)).2 = 0 ∧ v = .slice (some ⟨w.heap.size + 2, 0, none⟩) (liP s).length (liP s).length ∧ ∃ vs ts, Fam w' (w.heap.size + 3) (w.heap.size + 2) (liP s).length vs ts ∧ ∀ j u, (liT s)[j]? = some u → ts j = tkl j u)
        ∨ ((erL 0 (liT s)).1 ≠ 0 ∧ v = .slice none 0 0)) := by
  have hlen := liP_len s
  obtain ⟨N, hN⟩ : ∃ N, (liP s).length = N := ⟨_, rfl⟩
  have hmk := run_make_row' (P := Tryz.prog) 64 70 (.slice none 0 0) 24 Tryz.underlying64 Tryz.infoRow rfl .i64 .i64 N (by omega) (by omega)
  have hlo : ∀ F, Calls Tryz.prog 42 #[.string s] (w.alloc F) fun e w' =>
      e = .returned (.slice (some ⟨w.heap.size + 1, 0, none⟩) N (alP s).length) ∧ w' = (w.alloc F).alloc (.cells ((cuT s (alP s)).map Value.string).toArray 9) := by
    intro F
    have := linesOf_any s m (w.alloc F) hs (by rw [World.cell?_alloc_lt _ _ _ (World.block_lt_of_cell? w _ hm)]; exact hm)
    rw [hN] at this
    simpa using this
  have HC : Hid (∀ F, F = Obj.cells #[.int .i64 0, .int .i64 0] 25 → Civ s w (((w.alloc F).alloc (.cells ((cuT s (alP s)).map Value.string).toArray 9)).alloc (.cells (madeCells #[.slice none 0 0] N) 70)) 0 []) := by
    rintro F rfl
    exact Civ.start hN
  generalize ((cuT s (alP s)).map Value.string).toArray = X at hlo HC
  go_enter Tryz.func25, Tryz.ntmps25
  go_wp2_with fail
  go_step3
  go_wp2_with (go_at_call 42; (with_reducible refine (hlo _).mono ?_); rintro e w' ⟨rfl, rfl⟩)
  go_step3
  go_wp2_with fail
  go_loopg [23] N (fun g iv wr => ∃ n : Nat, n + g = N ∧ iv = .int .i64 n ∧ Hid (Civ s w wr n []))
  case atStart => exact ⟨0, by omega, rfl, HC.out _ rfl⟩
  case round =>
    obtain ⟨n, hng, rfl, HV⟩ := hrel
    cases gk with
    | zero =>
      have hnn : ¬ ((n : Int) < (N : Int)) := by omega
      obtain rfl : n = N := by omega
      have hfc := HV.out.fc
      obtain ⟨c0, c1, f0, f1⟩ := two_c hfc
      have rr := two_set hfc (.int .i64 0) (.int .i64 0)
      clear hfc
      go_wp2_with fail
      try rw [Exit.noGoto_ret]
      refine bodyPost_ret (by simp [results, Tryz.results25, go_sem, rr.1, rr.2]; try rfl) rfl ?_
      have hz : erL 0 (liT s) = (0, 0) := erL_ok fun t ht => by
        obtain ⟨j, hj⟩ := List.getElem?_of_mem ht
        refine HV.out.ok j t ?_ hj
        have := (List.getElem?_eq_some_iff.1 hj).1
        rw [liT_len] at this; omega
      obtain ⟨vs, ts, hf, h1, _, _⟩ := HV.out.fam
      rw [hz]
      refine ⟨below_two HV.out.bel (Nat.le_refl _) _ _, _, rfl, .inl ⟨rfl, rfl, by rw [hN], vs, ts, (hf.put (by omega) (by omega) _).put (by omega) (by omega) _, fun j u hu => h1 j u ?_ hu⟩⟩
      have := (List.getElem?_eq_some_iff.1 hu).1
      rw [liT_len] at this; omega
    | succ g =>
      have hnn : (n : Int) < (N : Int) := by omega
      obtain ⟨p, hp, hpl, ht⟩ := liT_get (s := s) (n := n) (by omega)
      have hp2 := (liP_in hp).2
      obtain ⟨t, htt⟩ : ∃ t, s.extract p.1 p.2 = t := ⟨_, rfl⟩
      have hts : t.size ≤ 65536 := by rw [← htt, ex_size hp2]; omega
      rw [htt] at ht
      clear htt hpl hp hp2
      have HT : Hid ((liT s)[n]? = some t) := ht
      have hcell := HV.out.text ht
      clear ht
      go_wp2_with fail
      go_loopg [30] t.size (fun g2 iv wr2 => ∃ (i : Nat) (L : List (Nat × Nat)), i + g2 = t.size ∧ iv = .int .i64 i ∧ Hid (scn t i = (0, L)) ∧ Hid (Civ s w wr2 n (wtk t n L)))
      case atStart => exact ⟨0, [], by omega, rfl, rfl, HV.out⟩
      case round =>
        obtain ⟨i, L, hig, rfl, HS, HV2⟩ := hrel
        cases gk with
        | zero =>
          have hii : ¬ ((i : Int) < (t.size : Int)) := by omega
          obtain rfl : i = t.size := by omega
          go_wp2_with fail
          go_roundg g
          case measure => omega
          case rel =>
            refine ⟨n + 1, by omega, by go_num, ?_⟩
            refine Civ.next (t := t) ?_ HT.out (bd_ok (.inl (by rw [HS.out])))
            have := HV2.out
            rw [tkl_wtk, HS.out]
            exact this
        | succ g2 =>
          have hii : (i : Int) < (t.size : Int) := by omega
          have hit : i < t.size := by omega
          have hg := bty_get hit
          have hcl := bty_lt t i
          obtain ⟨c, hc⟩ : ∃ c, c = bty t i := ⟨_, rfl⟩
          rw [← hc] at hg hcl
          have HCc : Hid (c = bty t i) := hc
          clear hc
          have hfc := HV2.out.fc
          obtain ⟨c0, c1, f0, f1⟩ := two_c hfc
          have rr240 := two_set hfc (.int .i64 240) (.int .i64 n)
          have rr3 := two_set hfc (.int .i64 3) (.int .i64 n)
          clear hfc
          rcases (show (c = 42 ∨ c = 59) ∨ (c = 32 ∨ c = 9 ∨ c = 13) ∨ (¬ (c = 42 ∨ c = 59) ∧ ¬ (c = 32 ∨ c = 9 ∨ c = 13) ∧ (c < 33 ∨ 126 < c)) ∨ (¬ (c = 42 ∨ c = 59) ∧ ¬ (c = 32 ∨ c = 9 ∨ c = 13) ∧ ¬ (c < 33 ∨ 126 < c)) from by omega) with hq | hq | hq | hq
          · have hfin : scn t t.size = (1, L) := by
              have h1 := scn_rem HS.out (by rw [← HCc.out]; exact hq)
              rw [scn_stays (s := t) (i := i + 1) (by rw [h1]; simp) t.size (by omega), h1]
            have HF : Hid (scn t t.size = (1, L)) := hfin
            clear hfin
            rcases hq with rfl | rfl
            all_goals
              go_wp2_with fail
              go_roundg g
              case measure => omega
              case rel =>
                refine ⟨n + 1, by omega, by go_num, ?_⟩
                refine Civ.next (t := t) ?_ HT.out (bd_ok (.inr (by rw [HF.out])))
                have := HV2.out
                rw [tkl_wtk, HF.out]
                exact this
          · have HN : Hid (scn t (i + 1) = (0, L)) := scn_blk HS.out (by rw [← HCc.out]; exact hq)
            rcases hq with rfl | rfl | rfl
            all_goals
              go_wp2_with fail
              go_roundg g2
              case measure => omega
              case rel => exact ⟨i + 1, L, by omega, by go_num, HN.out, HV2.out⟩
          · obtain ⟨q1, q2, q3⟩ := hq
            have hfin : scn t t.size = (2, L) := by
              have h1 := scn_bad HS.out (by rw [← HCc.out]; exact q1) (by rw [← HCc.out]; exact q2) (by rw [← HCc.out]; exact q3)
              rw [scn_stays (s := t) (i := i + 1) (by rw [h1]; simp) t.size (by omega), h1]
            have HF : Hid (scn t t.size = (2, L)) := hfin
            clear hfin
            have n1 : ((c : Int) == 42) = false := by simp; omega
            have n2 : ((c : Int) == 59) = false := by simp; omega
            have n3 : ((c : Int) == 32) = false := by simp; omega
            have n4 : ((c : Int) == 9) = false := by simp; omega
            have n5 : ((c : Int) == 13) = false := by simp; omega
            clear q1 q2
            rcases q3 with q | q
            · have n6 : decide ((c : Int) < 33) = true := by simp; omega
              go_wp2_with fail
              try rw [Exit.noGoto_ret]
              refine bodyPost_ret (by simp [results, Tryz.results25, go_sem, rr240.1, rr240.2]; try rfl) rfl ?_
              have hb : bdE t = 240 := bd_2 (by rw [HF.out])
              have hz : erL 0 (liT s) = (240, n) := by rw [erL_at (n := 0) HT.out HV2.out.ok (by rw [hb]; decide), hb, Nat.zero_add]
              rw [hz]
              exact ⟨below_two HV2.out.bel (Nat.le_refl _) _ _, _, rfl, .inr ⟨by simp, rfl⟩⟩
            · have n6 : decide ((c : Int) < 33) = false := by simp; omega
              have n7 : decide ((126 : Int) < (c : Int)) = true := by simp; omega
              go_wp2_with fail
              try rw [Exit.noGoto_ret]
              refine bodyPost_ret (by simp [results, Tryz.results25, go_sem, rr240.1, rr240.2]; try rfl) rfl ?_
              have hb : bdE t = 240 := bd_2 (by rw [HF.out])
              have hz : erL 0 (liT s) = (240, n) := by rw [erL_at (n := 0) HT.out HV2.out.ok (by rw [hb]; decide), hb, Nat.zero_add]
              rw [hz]
              exact ⟨below_two HV2.out.bel (Nat.le_refl _) _ _, _, rfl, .inr ⟨by simp, rfl⟩⟩
          · obtain ⟨q1, q2, q3⟩ := hq
            have n1 : ((c : Int) == 42) = false := by simp; omega
            have n2 : ((c : Int) == 59) = false := by simp; omega
            have n3 : ((c : Int) == 32) = false := by simp; omega
            have n4 : ((c : Int) == 9) = false := by simp; omega
            have n5 : ((c : Int) == 13) = false := by simp; omega
            have n6 : decide ((c : Int) < 33) = false := by simp; omega
            have n7 : decide ((126 : Int) < (c : Int)) = false := by simp; omega
            have HQ : Hid ((¬ (bty t i = 42 ∨ bty t i = 59)) ∧ ¬ blk (bty t i) ∧ ¬ (bty t i < 33 ∨ 126 < bty t i)) := by rw [← HCc.out]; exact ⟨q1, q2, q3⟩
            clear q1 q2 q3
            obtain ⟨vs, ts, hf, h1, h2, h3⟩ := HV2.out.fam
            have hnl : n < (liP s).length := by omega
            have hwf : Wfw i L := by have := scn_wf t i; rw [HS.out] at this; exact this
            have hbase : w.heap.size + 3 ≤ wr.heap.size := hf.lt
            have hown : wr.ownsRow (w.heap.size + 3) 100 3 (vs n) L.length (tcs (wtk t n L)) := by
              have := hf.own n hnl
              rw [h2, wtk_len] at this; exact this
            have hcl2 : wr.cell? ⟨w.heap.size + 2, n, none⟩ = some (vs n) := hf.row.cell hnl
            have hfz2 := hf.row.frozen n
            have hne := hf.far n hnl
            have HCL : Hid (∀ w3 : World, wr.grownBy w3 (vs n).ownBlock → w3.cell? ⟨w.heap.size + 2, n, none⟩ = some (vs n) ∧ w3.frozen? ⟨w.heap.size + 2, n, none⟩ = false) := fun w3 hg =>
              ⟨(hg.cell_far _ (by simpa using hf.lt) (fun e => hne e.symm)).trans hcl2, (hg.frozen_far _ (by simpa using hf.lt) (fun e => hne e.symm)).trans hfz2⟩
            have HST : Hid (∀ (w3 : World) (v' : Value) (l2 : List Tok), wr.grownBy w3 (vs n).ownBlock → w3.ownsRow (w.heap.size + 3) 100 3 v' l2.length (tcs l2) → (v'.ownBlock = (vs n).ownBlock ∨ ∃ g, v'.ownBlock = some g ∧ wr.heap.size ≤ g) → Civ s w (w3.setCell ⟨w.heap.size + 2, n, none⟩ v') n l2) :=
              fun w3 v' l2 a1 a2 a3 => HV2.out.lays hnl hf h1 h3 a1 a2 a3
            have HFT : Hid (∀ w3 : World, wr.grownBy w3 (vs n).ownBlock → w3.heap[w.heap.size]? = some (.cells #[.int .i64 0, .int .i64 0] 25 (0, 0)) ∧ Below w.heap.size w w3) := fun w3 hg => by
              have hb0 : ∀ g, (vs n).ownBlock = some g → w.heap.size + 3 ≤ g := fun g e => ((hf.own n hnl).lt g e).1
              refine ⟨(hg.block _ (by omega) (fun e => by have := hb0 _ e.symm; omega)).trans HV2.out.fc, HV2.out.bel.trans ⟨hg.os, hg.tape, hg.output, by have := hg.size; omega, fun k hk => hg.block k (by omega) (fun e => by have := hb0 k e.symm; omega)⟩⟩
            clear hf h1 h2 h3 hne
            generalize vs n = v at hown hcl2 HCL HST HFT
            by_cases hnew : ∀ a b r, L = (a, b) :: r → b < i
            · have HN : Hid (scn t (i + 1) = (0, (i, i + 1) :: L)) := scn_new HS.out HQ.out.1 HQ.out.2.1 HQ.out.2.2 hnew
              have HL : Hid (Calls Tryz.prog 43 #[v, .string t, .int .i64 n, .int .i64 i] wr _) := lay_new wr (w.heap.size + 3) v t n i L hbase (by omega) hit hts hwf hnew hown
              clear hnew hwf hown
              go_wp2_with (go_at_call 43; (with_reducible refine HL.out.mono ?_); rintro e w3 ⟨v', rfl, ho, hgr, hv⟩; (obtain ⟨g3, cap3, rfl, _, _⟩ := ho.form (by omega)); (obtain ⟨y1, y2⟩ := HCL.out w3 hgr); (have HO : Hid _ := HST.out w3 _ (wtk t n ((i, i + 1) :: L)) hgr (by rw [wtk_len]; exact ho) hv); clear ho hgr hv)
              go_roundg g2
              case measure => omega
              case rel => exact ⟨i + 1, _, by omega, by go_num, HN.out, HO.out⟩
            · obtain ⟨a, b, r, rfl, hb⟩ : ∃ a b r, L = (a, b) :: r ∧ ¬ b < i := by
                match L, hnew with
                | [], hnew => exact absurd (fun a b r h => by cases h) hnew
                | (a, b) :: r, hnew => exact ⟨a, b, r, rfl, fun hb => hnew fun a' b' r' h => by cases h; exact hb⟩
              clear hnew
              have hx := scn_ext HS.out HQ.out.1 HQ.out.2.1 HQ.out.2.2 hb
              have HL := lay_ext wr (w.heap.size + 3) v t n i a b r hbase (by omega) hit hts hwf hb hown
              have hown2 : wr.ownsRow (w.heap.size + 3) 100 3 v (r.length + 1) (tcs (wtk t n ((a, b) :: r))) := hown
              clear hown
              obtain ⟨g0, cap0, rfl, _, _⟩ := hown2.form (by omega)
              by_cases h80 : i + 1 - a ≤ 80
              · rw [if_pos h80] at hx
                rw [decide_eq_true h80] at HL
                have HN : Hid (scn t (i + 1) = (0, (a, i + 1) :: r)) := hx
                have HLL : Hid (Calls Tryz.prog 43 _ wr _) := HL
                clear hx hwf hown2 hb HL
                go_wp2_with (go_at_call 43; (with_reducible refine HLL.out.mono ?_); rintro e w3 ⟨rfl, ho, hgr⟩; (obtain ⟨y1, y2⟩ := HCL.out w3 hgr); (have HO : Hid _ := HST.out w3 _ (wtk t n ((a, i + 1) :: r)) hgr (by rw [wtk_len]; exact ho) (.inl rfl)); clear ho hgr)
                go_roundg g2
                case measure => omega
                case rel => exact ⟨i + 1, _, by omega, by go_num, HN.out, HO.out⟩
              · rw [if_neg h80] at hx
                rw [decide_eq_false h80] at HL
                have hfin : scn t t.size = (3, (a, b) :: r) := by rw [scn_stays (s := t) (i := i + 1) (by rw [hx]; simp) t.size (by omega), hx]
                have HF : Hid (scn t t.size = (3, (a, b) :: r)) := hfin
                have HLL : Hid (Calls Tryz.prog 43 _ wr _) := HL
                clear hx hwf hown2 hb HL hfin c0 c1 f0 f1
                go_wp2_with (go_at_call 43; (with_reducible refine HLL.out.mono ?_); rintro e w3 ⟨rfl, ho, hgr⟩; (obtain ⟨y3, hb3⟩ := HFT.out w3 hgr); (have HB3 : Hid (Below w.heap.size w w3) := hb3); (obtain ⟨c0, c1, f0, f1⟩ := two_c y3); (have rr3' := two_set y3 (.int .i64 3) (.int .i64 n)); clear ho hgr hb3 y3)
                try rw [Exit.noGoto_ret]
                refine bodyPost_ret (by simp [results, Tryz.results25, go_sem, rr3'.1, rr3'.2]; try rfl) rfl ?_
                have hb : bdE t = 3 := bd_3 (by rw [HF.out])
                have hz : erL 0 (liT s) = (3, n) := by rw [erL_at (n := 0) HT.out HV2.out.ok (by rw [hb]; decide), hb, Nat.zero_add]
                rw [hz]
                exact ⟨below_two HB3.out (Nat.le_refl _) _ _, _, rfl, .inr ⟨by simp, rfl⟩⟩
end Go.Proofs.YtjoncbfaajcioaaGreatDoor

namespace Go.Proofs.YtjoncbfaajcioaaGreatDoor
open RowKit Joins Deep
set_option linter.unusedVariables false

/-- the value v reads as the words ts -/
def RdT (w : World) (v : Value) (ts : List Tok) : Prop :=
  ts.length ≤ 4611686018427387904 ∧ ∃ A c, v = .slice A ts.length c ∧ (ts = [] ∨ ∃ b, A = some ⟨b, 0, none⟩ ∧ ∀ (k : Nat) (p : Tok), ts[k]? = some p → w.cell? ⟨b, k * 3, none⟩ = some (.string p.1) ∧ w.cell? ⟨b, k * 3 + 1, none⟩ = some (.int .i64 p.2.1) ∧ w.cell? ⟨b, k * 3 + 2, none⟩ = some (.int .i64 p.2.2))
/-- the value v reads as the lists ls -/
def RdL (w : World) (v : Value) (ls : List (List Tok)) : Prop :=
  ls.length ≤ 4611686018427387904 ∧ ∃ A c, v = .slice A ls.length c ∧ (ls = [] ∨ ∃ b, A = some ⟨b, 0, none⟩ ∧ ∀ (k : Nat) (ts : List Tok), ls[k]? = some ts → ∃ u, w.cell? ⟨b, k, none⟩ = some u ∧ RdT w u ts)
theorem RdT.kept {w w' : World} {v : Value} {ts : List Tok} (h : RdT w v ts) (hb : Below w.heap.size w w') : RdT w' v ts := by
  obtain ⟨h0, A, c, h1, h2⟩ := h
  refine ⟨h0, A, c, h1, h2.imp id ?_⟩
  rintro ⟨b, h3, h4⟩
  refine ⟨b, h3, fun k p hk => ?_⟩
  obtain ⟨q0, q1, q2⟩ := h4 k p hk
  exact ⟨(hb.cell (World.block_lt_of_cell? w _ q0)).trans q0, (hb.cell (World.block_lt_of_cell? w _ q1)).trans q1, (hb.cell (World.block_lt_of_cell? w _ q2)).trans q2⟩
theorem RdL.kept {w w' : World} {v : Value} {ls : List (List Tok)} (h : RdL w v ls) (hb : Below w.heap.size w w') : RdL w' v ls := by
  obtain ⟨h0, A, c, h1, h2⟩ := h
  refine ⟨h0, A, c, h1, h2.imp id ?_⟩
  rintro ⟨b, h3, h4⟩
  refine ⟨b, h3, fun k p hk => ?_⟩
  obtain ⟨u, q0, q1⟩ := h4 k p hk
  exact ⟨u, (hb.cell (World.block_lt_of_cell? w _ q0)).trans q0, q1.kept hb⟩
theorem RdT.of {w : World} {base : Nat} {v : Value} {ts : List Tok} (h : w.ownsRow base 100 3 v ts.length (tcs ts)) (hl : ts.length ≤ 4611686018427387904) : RdT w v ts := by
  refine ⟨hl, ?_⟩
  rcases ownsRow_forms h with ⟨rfl, h0⟩ | ⟨g, cap, rfl⟩
  · rw [h0]; exact ⟨none, 0, rfl, .inl (List.length_eq_zero_iff.1 h0)⟩
  · refine ⟨_, cap, rfl, .inr ⟨g, rfl, fun k p hk => ?_⟩⟩
    have hlt := (List.getElem?_eq_some_iff.1 hk).1
    obtain ⟨q0, q1, q2⟩ := tcs_get hk
    exact ⟨by rw [h.cellAt _ (by omega)]; exact q0, by rw [h.cellAt _ (by omega)]; exact q1, by rw [h.cellAt _ (by omega)]; exact q2⟩
theorem tkl_len (n : Nat) (t : ByteArray) : (tkl n t).length ≤ t.size := by
  rw [tkl_wtk, wtk_len]; exact (scn_wf t t.size).len
theorem liT_size {s : ByteArray} {k : Nat} {t : ByteArray} (h : (liT s)[k]? = some t) : t.size ≤ s.size := by
  obtain ⟨p, hp, _, ht⟩ := liT_get (s := s) (n := k) (by have := (List.getElem?_eq_some_iff.1 h).1; rw [liT_len] at this; exact this)
  rw [h] at ht
  cases ht
  rw [ex_size (liP_in hp).2]; have := (liP_in hp).2; omega
theorem tkL_inv {l : List ByteArray} {k : Nat} {ts : List Tok} (h : (tkL 0 l)[k]? = some ts) : ∃ t, l[k]? = some t ∧ ts = tkl k t := by
  have hlt := (List.getElem?_eq_some_iff.1 h).1
  rw [tkL_len] at hlt
  refine ⟨l[k], List.getElem?_eq_getElem hlt, ?_⟩
  rw [tkL_get (List.getElem?_eq_getElem hlt), Nat.zero_add] at h
  exact (Option.some.inj h).symm
/-- what Cut hands back, read -/
theorem RdL.fam {s : ByteArray} {w : World} {base BL : Nat} {vs : Nat → Value} {ts : Nat → List Tok} (hs : s.size ≤ 65536) (h : Fam w base BL (liP s).length vs ts) (ht : ∀ j u, (liT s)[j]? = some u → ts j = tkl j u) :
    RdL w (.slice (some ⟨BL, 0, none⟩) (liP s).length (liP s).length) (tkL 0 (liT s)) := by
  have hl := liP_len s
  refine ⟨by rw [tkL_len, liT_len]; omega, _, _, by rw [tkL_len, liT_len], .inr ⟨BL, rfl, fun k l hk => ?_⟩⟩
  obtain ⟨t, h1, rfl⟩ := tkL_inv hk
  have hlt := (List.getElem?_eq_some_iff.1 h1).1
  rw [liT_len] at hlt
  refine ⟨vs k, h.row.cell hlt, ?_⟩
  have := h.own k hlt
  rw [ht k t h1] at this
  exact RdT.of this (by have := tkl_len k t; have := liT_size h1; omega)
/-- a list of n lists lies above a place: its own block and its lists' blocks -/
def Abv (lo : Nat) (w : World) (v : Value) (n : Nat) : Prop :=
  ∃ A c, v = .slice A n c ∧ ∀ b, A = some ⟨b, 0, none⟩ → lo ≤ b ∧ ∀ k u g, k < n → w.cell? ⟨b, k, none⟩ = some u → u.ownBlock = some g → lo ≤ g
theorem Abv.kept {lo : Nat} {w w' : World} {v : Value} {ls : List (List Tok)} (h : Abv lo w v ls.length) (hr : RdL w v ls) (hb : Below w.heap.size w w') : Abv lo w' v ls.length := by
  obtain ⟨A, c, h1, h2⟩ := h
  refine ⟨A, c, h1, fun b hA => ⟨(h2 b hA).1, fun k u g hk hu hg => ?_⟩⟩
  obtain ⟨_, A', c', h1', h3⟩ := hr
  rw [h1] at h1'
  simp only [Value.slice.injEq] at h1'
  obtain ⟨rfl, _, rfl⟩ := h1'
  rcases h3 with h3 | ⟨b', h4, h5⟩
  · rw [h3] at hk; exact absurd hk (by simp)
  · rw [hA] at h4
    simp only [Option.some.injEq, Addr.mk.injEq, and_true] at h4
    subst h4
    obtain ⟨u', q1, _⟩ := h5 k _ (List.getElem?_eq_getElem hk)
    have := (hb.cell (World.block_lt_of_cell? w _ q1)).trans q1
    rw [this] at hu; cases hu
    exact (h2 b hA).2 k _ g hk q1 hg
theorem Abv.mono {lo lo' : Nat} {w : World} {v : Value} {n : Nat} (h : Abv lo w v n) (hl : lo' ≤ lo) : Abv lo' w v n := by
  obtain ⟨A, c, h1, h2⟩ := h
  exact ⟨A, c, h1, fun b hA => ⟨by have := (h2 b hA).1; omega, fun k u g hk hu hg => by have := (h2 b hA).2 k u g hk hu hg; omega⟩⟩
theorem RdT.move {lo : Nat} {w w' : World} {v : Value} {ts : List Tok} (h : RdT w v ts) (hl : ∀ g, v.ownBlock = some g → lo ≤ g) (hb : ∀ k, lo ≤ k → k < w.heap.size → w'.heap[k]? = w.heap[k]?) : RdT w' v ts := by
  obtain ⟨h0, A, c, h1, h2⟩ := h
  refine ⟨h0, A, c, h1, h2.imp id ?_⟩
  rintro ⟨b, h3, h4⟩
  refine ⟨b, h3, fun k p hk => ?_⟩
  obtain ⟨q0, q1, q2⟩ := h4 k p hk
  have hlo : lo ≤ b := hl b (by rw [h1, h3]; rfl)
  have e : w'.heap[b]? = w.heap[b]? := hb b hlo (World.block_lt_of_cell? w _ q0)
  exact ⟨(World.cell?_of_block (a := ⟨b, k * 3, none⟩) e).trans q0, (World.cell?_of_block (a := ⟨b, k * 3 + 1, none⟩) e).trans q1, (World.cell?_of_block (a := ⟨b, k * 3 + 2, none⟩) e).trans q2⟩
theorem RdL.move {lo : Nat} {w w' : World} {v : Value} {ls : List (List Tok)} (h : RdL w v ls) (ha : Abv lo w v ls.length) (hb : ∀ k, lo ≤ k → k < w.heap.size → w'.heap[k]? = w.heap[k]?) : RdL w' v ls := by
  obtain ⟨h0, A, c, h1, h2⟩ := h
  obtain ⟨A', c', h1', ha⟩ := ha
  rw [h1] at h1'
  simp only [Value.slice.injEq] at h1'
  obtain ⟨rfl, _, rfl⟩ := h1'
  refine ⟨h0, A, c, h1, h2.imp id ?_⟩
  rintro ⟨b, h3, h4⟩
  obtain ⟨hlo, har⟩ := ha b h3
  refine ⟨b, h3, fun k p hk => ?_⟩
  obtain ⟨u, q0, q1⟩ := h4 k p hk
  have e : w'.heap[b]? = w.heap[b]? := hb b hlo (World.block_lt_of_cell? w _ q0)
  refine ⟨u, (World.cell?_of_block (a := ⟨b, k, none⟩) e).trans q0, q1.move (lo := lo) (fun g hg => har k u g ?_ q0 hg) hb⟩
  exact (List.getElem?_eq_some_iff.1 hk).1
theorem Abv.fam {w : World} {base BL N lo : Nat} {vs : Nat → Value} {ts : Nat → List Tok} (h : Fam w base BL N vs ts) (h1 : lo ≤ base) (h2 : lo ≤ BL) : Abv lo w (.slice (some ⟨BL, 0, none⟩) N N) N := by
  refine ⟨_, _, rfl, fun b hb => ?_⟩
  simp only [Option.some.injEq, Addr.mk.injEq, and_true] at hb
  subst hb
  refine ⟨h2, fun k u g hk hu hg => ?_⟩
  rw [h.row.cell hk] at hu
  cases hu
  have := ((h.own k hk).lt g hg).1
  omega
theorem Abv.none (lo : Nat) (w : World) : Abv lo w (.slice none 0 0) 0 := ⟨_, _, rfl, fun b hb => by cases hb⟩
theorem RdL.none (w : World) : RdL w (.slice none 0 0) [] := ⟨by simp, _, _, rfl, .inl rfl⟩
end Go.Proofs.YtjoncbfaajcioaaGreatDoor

namespace Go.Proofs.YtjoncbfaajcioaaGreatDoor
open RowKit Joins Deep
set_option linter.unusedVariables false

theorem ba_ext {a b : ByteArray} (h : a.toList = b.toList) : a = b := by
  rw [ByteArray.toList_eq, ByteArray.toList_eq] at h
  cases a; cases b; congr 1; exact Array.ext' h
/-- do two lists agree up to a place? -/
def agr {α : Type} (a b : List α) (n : Nat) : Prop := ∀ j, j < n → a[j]? = b[j]?
theorem agr_eq {α : Type} {a b : List α} (hl : a.length = b.length) (h : agr a b a.length) : a = b := by
  apply List.ext_getElem? 
  intro i
  rcases Nat.lt_or_ge i a.length with q | q
  · exact h i q
  · rw [List.getElem?_eq_none q, List.getElem?_eq_none (by omega)]
theorem agr_ne {α : Type} {a b : List α} {i : Nat} (h : a[i]? ≠ b[i]?) : a ≠ b := fun e => h (by rw [e])
theorem agr_step {α : Type} {a b : List α} {i : Nat} (h : agr a b i) (h2 : a[i]? = b[i]?) : agr a b (i + 1) := by
  intro j hj
  rcases Nat.lt_succ_iff_lt_or_eq.1 hj with q | rfl
  · exact h j q
  · exact h2

end Go.Proofs.YtjoncbfaajcioaaGreatDoor

namespace Go.Proofs.YtjoncbfaajcioaaGreatDoor
open RowKit Joins Deep
set_option linter.unusedVariables false

/-- what is joined of words, from the place k on -/
def jnr : Nat → List Tok → List UInt8
  | _, [] => []
  | k, p :: r => (if k = 0 then [] else [32]) ++ (p.1.data.toList ++ jnr (k + 1) r)
/-- what is joined of lists of words -/
def jnL : List (List Tok) → List UInt8
  | [] => []
  | l :: r => jnr 0 l ++ (10 :: jnL r)
theorem jnr_drop {ts : List Tok} {k : Nat} {p : Tok} (h : ts[k]? = some p) : jnr k (ts.drop k) = (if k = 0 then [] else [32]) ++ (p.1.data.toList ++ jnr (k + 1) (ts.drop (k + 1))) := by
  have hl := (List.getElem?_eq_some_iff.1 h)
  rw [List.drop_eq_getElem_cons hl.1, hl.2]; rfl
theorem jnL_drop {ls : List (List Tok)} {i : Nat} {ts : List Tok} (h : ls[i]? = some ts) : jnL (ls.drop i) = jnr 0 ts ++ (10 :: jnL (ls.drop (i + 1))) := by
  have hl := (List.getElem?_eq_some_iff.1 h)
  rw [List.drop_eq_getElem_cons hl.1, hl.2]; rfl
theorem byc_app (a b : List UInt8) : Lib.byteCells (a ++ b) = Lib.byteCells a ++ Lib.byteCells b := by unfold Lib.byteCells; simp
theorem Oth.block {b : Nat} {w w' : World} (h : Lib.OthersKept 5 (some b) w w') {k : Nat} {c : Array Value} {e : TypeId} {fr : Nat × Nat} (hk : w.heap[k]? = some (.cells c e fr)) (hb : k ≠ b) (he : e ≠ 5) : w'.heap[k]? = some (.cells c e fr) :=
  h k _ hk (fun q => hb (Option.some.inj q)) (fun c' fz q => by
    simp only [Obj.cells.injEq] at q; exact he q.2.1)
theorem three_c {w : World} {B : Nat} {x y z : Value} {T : TypeId} (h : w.heap[B]? = some (.cells #[x, y, z] T (0, 0))) : w.cell? ⟨B, 0, none⟩ = some x ∧ w.cell? ⟨B, 1, none⟩ = some y ∧ w.cell? ⟨B, 2, none⟩ = some z :=
  ⟨by rw [cell_of_row w B 0 _ T (0, 0) h]; rfl, by rw [cell_of_row w B 1 _ T (0, 0) h]; rfl, by rw [cell_of_row w B 2 _ T (0, 0) h]; rfl⟩
/-- a Builder that holds the bytes D; nothing below has changed -/
structure Bld (w wr : World) (D : List UInt8) : Prop where
  is : Lib.IsBuilderF 82 5 w.heap.size w.heap.size (Lib.byteCells D) wr
  bel : Below w.heap.size w wr
theorem wstr_any {w wr : World} {D : List UInt8} (h : Bld w wr D) (t : ByteArray) (hl : D.length + t.size ≤ 140737488355328) :
    Calls Tryz.prog 37 #[.pointer (some ⟨w.heap.size, 0, none⟩), .string t] wr fun e w' => e = .returned (.tuple #[.int .i64 t.size, .nilIface]) ∧ Bld w w' (D ++ t.data.toList) := by
  refine (Any.Builder_WriteString_k sh166 shX w.heap.size w.heap.size (Lib.byteCells D) t wr h.is (by rw [Lib.byteCells_length]; exact hl) h.bel.size).mono ?_
  rintro e w' ⟨h1, h2, h3, h4⟩
  exact ⟨h1, ⟨by rw [byc_app]; exact .inr h2, h.bel.trans h3⟩⟩
theorem bstr_any {w wr : World} {D : List UInt8} (h : Bld w wr D) :
    Calls Tryz.prog 39 #[.pointer (some ⟨w.heap.size, 0, none⟩)] wr fun e w' => e = .returned (.string ⟨D.toArray⟩) ∧ Below w.heap.size w w' := by
  refine (Any.Builder_String_any_k sh169 shX w.heap.size w.heap.size D wr h.is h.bel.size).mono ?_
  rintro e w' ⟨h1, h2, h3, h4⟩
  exact ⟨h1, h.bel.trans h3⟩
theorem Bld.alloc {w wr : World} {D : List UInt8} (h : Bld w wr D) (o : Obj) : Bld w (wr.alloc o) D := ⟨h.is.alloc o, h.bel.alloc h.bel.size o⟩
theorem Bld.start (w : World) : Bld w (w.alloc (.cells #[.pointer none, .slice none 0 0] 82)) [] :=
  ⟨.inl ⟨Nat.le_refl _, _, heap_alloc_new _ _, World.ownsRowF_nil _ _ _ _, by simp [Value.ownBlock]⟩, (Below.refl _ _).alloc (Nat.le_refl _) _⟩
theorem Bld.lt {w wr : World} {D : List UInt8} (h : Bld w wr D) : w.heap.size < wr.heap.size := by
  rcases h.is with h | h
  · exact h.lt
  · exact h.lt

end Go.Proofs.YtjoncbfaajcioaaGreatDoor

namespace Go.Proofs.YtjoncbfaajcioaaGreatDoor
open RowKit Joins Deep
set_option linter.unusedVariables false

/-- the variable of the library that strings.Split names holds some number -/
def Mln (w : World) : Prop := ∃ m, w.cell? ⟨1, 0, none⟩ = some (.int .i64 m)
theorem Mln.kept {w w' : World} (h : Mln w) (hb : Below w.heap.size w w') : Mln w' := by
  obtain ⟨m, hm⟩ := h
  exact ⟨m, (hb.cell (World.block_lt_of_cell? w _ hm)).trans hm⟩
theorem cut_ok (s : ByteArray) (w : World) (hs : s.size ≤ 65536) (hm : Mln w) (he : erL 0 (liT s) = (0, 0)) :
    Calls Tryz.prog 25 #[.string s] w fun e w' => ∃ v, e = .returned (.tuple #[v, fltV 0 0]) ∧ RdL w' v (tkL 0 (liT s)) ∧ Below w.heap.size w w' := by
  obtain ⟨m, hm⟩ := hm
  refine (cut_any s m w hs hm).mono ?_
  rintro e w' ⟨hb, v, h1, h2⟩
  rw [he] at h1 h2
  rcases h2 with ⟨_, _, rfl, vs, ts, hf, ht⟩ | ⟨h, _⟩
  · exact ⟨_, h1, RdL.fam hs hf ht, hb⟩
  · exact absurd rfl h
theorem cut_bad (s : ByteArray) (w : World) (hs : s.size ≤ 65536) (hm : Mln w) {a b : Nat} (he : erL 0 (liT s) = (a, b)) (ha : a ≠ 0) :
    Calls Tryz.prog 25 #[.string s] w fun e w' => e = .returned (.tuple #[.slice none 0 0, fltV a b]) ∧ Below w.heap.size w w' := by
  obtain ⟨m, hm⟩ := hm
  refine (cut_any s m w hs hm).mono ?_
  rintro e w' ⟨hb, v, h1, h2⟩
  rw [he] at h1 h2
  rcases h2 with ⟨h, _⟩ | ⟨_, rfl⟩
  · exact absurd h ha
  · exact ⟨h1, hb⟩

def lvS : ByteArray := ⟨#[82, 49, 32, 97, 32, 48, 32, 52, 46, 55, 107, 32, 42, 32, 108, 111, 97, 100]⟩
def lvT : List (List Tok) := [[(⟨#[82, 49]⟩, 0, 0), (⟨#[97]⟩, 0, 3), (⟨#[48]⟩, 0, 5), (⟨#[52, 46, 55, 107]⟩, 0, 7)]]
set_option maxRecDepth 100000 in
theorem lv_er : erL 0 (liT lvS) = (0, 0) := by kernel_rfl
set_option maxRecDepth 100000 in
theorem lv_tk : tkL 0 (liT lvS) = lvT := by kernel_rfl
set_option maxRecDepth 100000 in
theorem lv_jn : jnL lvT = [82, 49, 32, 97, 32, 48, 32, 52, 46, 55, 107, 10] := by kernel_rfl
/-- a list of words laid as a literal -/
theorem RdT.lit {w : World} {B : Nat} {ts : List Tok} {cs : Array Value} {c : Nat} (h : w.heap[B]? = some (.cells cs 100 (0, 0))) (hc : cs.toList = tcs ts) (hl : ts.length ≤ 4611686018427387904) : RdT w (.slice (some ⟨B, 0, none⟩) ts.length c) ts := by
  refine ⟨hl, _, _, rfl, .inr ⟨B, rfl, fun k p hk => ?_⟩⟩
  obtain ⟨q0, q1, q2⟩ := tcs_get hk
  rw [← hc] at q0 q1 q2
  refine ⟨?_, ?_, ?_⟩
  · rw [cell_of_row w B _ _ _ (0, 0) h]; simpa using q0
  · rw [cell_of_row w B _ _ _ (0, 0) h]; simpa using q1
  · rw [cell_of_row w B _ _ _ (0, 0) h]; simpa using q2
theorem lv_rd (w : World) (B1 B2 : Nat) (h1 : w.heap[B1]? = some (.cells #[.string ⟨#[82, 49]⟩, .int .i64 0, .int .i64 0, .string ⟨#[97]⟩, .int .i64 0, .int .i64 3, .string ⟨#[48]⟩, .int .i64 0, .int .i64 5, .string ⟨#[52, 46, 55, 107]⟩, .int .i64 0, .int .i64 7] 100 (0, 0)))
    (h2 : w.cell? ⟨B2, 0, none⟩ = some (.slice (some ⟨B1, 0, none⟩) 4 4)) : RdL w (.slice (some ⟨B2, 0, none⟩) 1 1) lvT := by
  refine ⟨by decide, _, _, rfl, .inr ⟨B2, rfl, fun k ts hk => ?_⟩⟩
  have hk0 : k = 0 := by have := (List.getElem?_eq_some_iff.1 hk).1; have e : lvT.length = 1 := rfl; omega
  subst hk0
  cases hk
  exact ⟨_, h2, RdT.lit (ts := [(⟨#[82, 49]⟩, 0, 0), (⟨#[97]⟩, 0, 3), (⟨#[48]⟩, 0, 5), (⟨#[52, 46, 55, 107]⟩, 0, 7)]) h1 rfl (by decide)⟩

theorem below_3 (w : World) (a b c : Obj) : Below w.heap.size w (((w.alloc a).alloc b).alloc c) := (((Below.refl _ w).alloc (Nat.le_refl _) a).alloc (by simp) b).alloc (by simp; omega) c
theorem below_dn {n : Nat} {w w' : World} (h : Below n w w') (q : Nat) : Below n w (w'.drewN q) := by
  induction q with
  | zero => exact h
  | succ q ih => exact ih.drew
end Go.Proofs.YtjoncbfaajcioaaGreatDoor
