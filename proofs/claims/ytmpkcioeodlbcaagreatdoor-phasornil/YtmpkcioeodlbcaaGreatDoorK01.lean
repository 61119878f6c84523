/-
  Several texts in one: Shc Tka Tkb Shl Tkc Tkd Tke Tkr Tkj Nma Nmb Nst Sha Shk Qfu Gn Qn Gc Gs Qa Qap Qb Qc Qd Qe Qf Qr Qs Qt Gm Gh Ql Qm Qu Qv Qw Tfr.
-/
import Derived.Test.YtmpkcioeodlbcaaGreatDoorProg
import Derived.Shelf.Strconv.Clone
import Derived.Test.YtmpkcioeodlbcaaGreatDoorChecked
import Derived.WalkKit
import Derived.Below
import Derived.RowKit3
import Derived.Laws.OwnMore
import Derived.Deep.AppendLies
import Derived.Deep.RegionHeldLaw
import Derived.Deep.QuietTactic
import Derived.Lib.SmallJoins
import Derived.Shelf.Strings.Builder1
import Derived.Shelf.Strings.BuilderF
import Derived.Shelf.Strings.BuilderK
import Derived.Shelf.Strings.Split
import Derived.Shelf.Strings.Repeat
import Derived.Shelf.Strings.Replace
import Derived.Lib.IndexMore
import Derived.Deep.OwnRows
import Derived.WalkMore
import Derived.Deep.LoopGhost
import Derived.Deep.RegionWith
import Derived.Maps.OwnSet
import Derived.Maps.Own
import Derived.OwnWalk
import Derived.Shelf.Strconv.AtoiAll
import Derived.Shelf.Strconv.Itoa3
import Derived.BigCall
import Derived.BigGuard
import Derived.Lib.AppendIntMem
import Derived.WalkLawsBesides
import Derived.BigQuiet
import Derived.Laws.AppendOwn
import Derived.Lib.Mul64
import Derived.Laws.Bits64b
import Derived.Laws.Externs
import Derived.Laws.Cover3
import Derived.Handy
import Derived.Lib.BitFns
import Derived.Test.YtmpkcioeodlbcaaGreatDoorRows
import Derived.Shelf.Vars
import Derived.SizedLaws
import Derived.ShutString
namespace Go.Proofs.YtmpkcioeodlbcaaGreatDoor
open Go.Shelf Go.Proofs
def scR : Ren := ⟨fun | 316 => 197 | n => n, fun | 0 => 0 | 3 => 3 | 4 => 4 | 5 => 5 | 9 => 9 | 37 => 298 | 127 => 299 | n => n, fun  | n => n⟩
theorem sc316 : Lays.n316 Tryz.prog scR := {
  mixed := by kernel_rfl
  f316 := Tryz.func197.trans (congrArg some (by kernel_rfl))
  t0 := Tryz.underlying0
  a0 := Tryz.isAgg0
  z0 := Tryz.sizeOf0
  v0 := Tryz.zeroValue0
  t3 := Tryz.underlying3
  a3 := Tryz.isAgg3
  z3 := Tryz.sizeOf3
  v3 := Tryz.zeroValue3
  t4 := Tryz.underlying4
  a4 := Tryz.isAgg4
  z4 := Tryz.sizeOf4
  v4 := Tryz.zeroValue4
  t9 := Tryz.underlying9
  a9 := Tryz.isAgg9
  z9 := Tryz.sizeOf9
  v9 := Tryz.zeroValue9
  t37 := Tryz.underlying298
  a37 := Tryz.isAgg298
  z37 := Tryz.sizeOf298
  v37 := Tryz.zeroValue298
  t127 := Tryz.underlying299
  a127 := Tryz.isAgg299
  z127 := Tryz.sizeOf299
  v127 := Tryz.zeroValue299 }
theorem scM316 : LaysM.n316 Tryz.prog scR := { sc316 with
  t5 := Tryz.underlying5
  a5 := Tryz.isAgg5
  z5 := Tryz.sizeOf5
  v5 := Tryz.zeroValue5
  i0 := by kernel_rfl
  i3 := by kernel_rfl
  i4 := by kernel_rfl
  i5 := by kernel_rfl
  i9 := by kernel_rfl
  i37 := by kernel_rfl
  i127 := by kernel_rfl }
end Go.Proofs.YtmpkcioeodlbcaaGreatDoor
namespace Go.Proofs.YtmpkcioeodlbcaaGreatDoor
open RowKit
set_option linter.unusedVariables false
/-- a byte of a text (0 outside it) -/
def bty (s : ByteArray) (i : Nat) : Nat := (s.data.getD i 0).toNat
theorem bty_get {s : ByteArray} {i : Nat} (h : i < s.size) : (s[i]'h).toNat = bty s i := by
  have h2 : i < s.data.size := h
  show (s.data[i]'h2).toNat = (s.data.getD i 0).toNat
  rw [Array.getD_eq_getD_getElem?, Array.getElem?_eq_getElem h2]; rfl
theorem bty_lt (s : ByteArray) (i : Nat) : bty s i < 256 := UInt8.toNat_lt _
theorem ex_size {s : ByteArray} {a b : Nat} (h : b ≤ s.size) : (s.extract a b).size = b - a := by simp; omega
theorem bty_ex {s : ByteArray} {a b i : Nat} (hb : b ≤ s.size) (h : i < b - a) : bty (s.extract a b) i = bty s (a + i) := by
  have h1 : i < (s.extract a b).size := by rw [ex_size hb]; exact h
  have h2 : a + i < s.size := by omega
  rw [← bty_get h1, ← bty_get h2, ByteArray.getElem_extract]
theorem ex_ex {s : ByteArray} {a b c d : Nat} (hd : a + d ≤ b) : (s.extract a b).extract c d = s.extract (a + c) (a + d) := by
  rw [ByteArray.extract_extract]
  congr 1
  exact Nat.min_eq_left (by omega)
/-- a byte between words -/
def blk (c : Nat) : Prop := c = 32 ∨ c = 9 ∨ c = 13
instance (c : Nat) : Decidable (blk c) := by unfold blk; infer_instance
/-- one byte further: how it stands (0: going on, 1: a remark, 2: a byte that may not be, 3: too long a word), and the words so far, the newest first -/
def stp_Tka (c i : Nat) (x : Nat × List (Nat × Nat)) : Nat × List (Nat × Nat) :=
  if x.1 ≠ 0 then x
  else if c = 42 ∨ c = 59 then (1, x.2)
  else if blk c then x
  else if c < 33 ∨ 126 < c then (2, x.2)
  else match x.2 with
    | [] => (0, [(i, i + 1)])
    | (a, b) :: r => if b < i then (0, (i, i + 1) :: (a, b) :: r) else if i + 1 - a ≤ 80 then (0, (a, i + 1) :: r) else (3, (a, b) :: r)
def scn (s : ByteArray) : Nat → Nat × List (Nat × Nat)
  | 0 => (0, [])
  | i + 1 => stp_Tka (bty s i) i (scn s i)
theorem stp_off {c i : Nat} {x : Nat × List (Nat × Nat)} (h : x.1 ≠ 0) : stp_Tka c i x = x := if_pos h
theorem scn_stays {s : ByteArray} {i : Nat} (h : (scn s i).1 ≠ 0) : ∀ n, i ≤ n → scn s n = scn s i := by
  intro n hn
  induction n with
  | zero =>
    obtain rfl : i = 0 := by omega
    rfl
  | succ n ih =>
    rcases Nat.lt_or_ge n i with h1 | h1
    · obtain rfl : i = n + 1 := by omega
      rfl
    · have e := ih h1
      show stp_Tka (bty s n) n (scn s n) = _
      rw [e, stp_off h]
theorem scn_rem {s : ByteArray} {i : Nat} {L : List (Nat × Nat)} (h : scn s i = (0, L)) (hc : bty s i = 42 ∨ bty s i = 59) : scn s (i + 1) = (1, L) := by
  show stp_Tka _ _ (scn s i) = _
  rw [h]; unfold stp_Tka
  rw [if_neg (by simp), if_pos hc]
theorem scn_blk {s : ByteArray} {i : Nat} {L : List (Nat × Nat)} (h : scn s i = (0, L)) (hc : blk (bty s i)) : scn s (i + 1) = (0, L) := by
  show stp_Tka _ _ (scn s i) = _
  rw [h]; unfold stp_Tka
  rw [if_neg (by simp), if_neg (by unfold blk at hc; omega), if_pos hc]
theorem scn_bad {s : ByteArray} {i : Nat} {L : List (Nat × Nat)} (h : scn s i = (0, L)) (h1 : ¬ (bty s i = 42 ∨ bty s i = 59)) (h2 : ¬ blk (bty s i)) (h3 : bty s i < 33 ∨ 126 < bty s i) : scn s (i + 1) = (2, L) := by
  show stp_Tka _ _ (scn s i) = _
  rw [h]; unfold stp_Tka
  rw [if_neg (by simp), if_neg h1, if_neg h2, if_pos h3]
theorem scn_new {s : ByteArray} {i : Nat} {L : List (Nat × Nat)} (h : scn s i = (0, L)) (h1 : ¬ (bty s i = 42 ∨ bty s i = 59)) (h2 : ¬ blk (bty s i)) (h3 : ¬ (bty s i < 33 ∨ 126 < bty s i)) (hL : ∀ a b r, L = (a, b) :: r → b < i) : scn s (i + 1) = (0, (i, i + 1) :: L) := by
  show stp_Tka _ _ (scn s i) = _
  rw [h]; unfold stp_Tka
  rw [if_neg (by simp), if_neg h1, if_neg h2, if_neg h3]
  match L, hL with
  | [], _ => rfl
  | (a, b) :: r, hL => exact if_pos (hL a b r rfl)
theorem scn_ext {s : ByteArray} {i a b : Nat} {r : List (Nat × Nat)} (h : scn s i = (0, (a, b) :: r)) (h1 : ¬ (bty s i = 42 ∨ bty s i = 59)) (h2 : ¬ blk (bty s i)) (h3 : ¬ (bty s i < 33 ∨ 126 < bty s i)) (hb : ¬ b < i) : scn s (i + 1) = if i + 1 - a ≤ 80 then (0, (a, i + 1) :: r) else (3, (a, b) :: r) := by
  show stp_Tka _ _ (scn s i) = _
  rw [h]; unfold stp_Tka
  rw [if_neg (by simp), if_neg h1, if_neg h2, if_neg h3]
  exact if_neg hb
/-- the words lie one behind the other, a byte between -/
def Wfw : Nat → List (Nat × Nat) → Prop
  | _, [] => True
  | i, (a, b) :: r => a < b ∧ b ≤ i ∧ Wfw (a - 1) r ∧ (r ≠ [] → 0 < a)
theorem Wfw.mono {i j : Nat} {L : List (Nat × Nat)} (h : Wfw i L) (hij : i ≤ j) : Wfw j L := by
  match L, h with
  | [], _ => exact trivial
  | (a, b) :: r, h => exact ⟨h.1, by have := h.2.1; omega, h.2.2⟩
theorem Wfw.len {i : Nat} {L : List (Nat × Nat)} (h : Wfw i L) : L.length ≤ i := by
  induction L generalizing i with
  | nil => exact Nat.zero_le _
  | cons p r ih =>
    obtain ⟨a, b⟩ := p
    obtain ⟨h1, h2, h3, _⟩ := h
    have := ih h3
    simp only [List.length_cons]; omega
theorem Wfw.mem {i : Nat} {L : List (Nat × Nat)} (h : Wfw i L) : ∀ p ∈ L, p.1 < p.2 ∧ p.2 ≤ i := by
  induction L generalizing i with
  | nil => intro p hp; cases hp
  | cons q r ih =>
    obtain ⟨a, b⟩ := q
    obtain ⟨h1, h2, h3, _⟩ := h
    intro p hp
    rcases List.mem_cons.1 hp with rfl | hp
    · exact ⟨h1, h2⟩
    · have := ih h3 p hp
      exact ⟨this.1, by omega⟩
theorem scn_wf (s : ByteArray) : ∀ i, Wfw i (scn s i).2 := by
  intro i
  induction i with
  | zero => exact trivial
  | succ i ih =>
    show Wfw _ (stp_Tka _ _ (scn s i)).2
    generalize scn s i = x at ih
    obtain ⟨k, L⟩ := x
    unfold stp_Tka
    have ih2 : Wfw i L := ih
    split
    · exact ih2.mono (by omega)
    · split
      · exact ih2.mono (by omega)
      · split
        · exact ih2.mono (by omega)
        · split
          · exact ih2.mono (by omega)
          · match L, ih2 with
            | [], _ => exact ⟨by omega, Nat.le_refl _, trivial, fun h => absurd rfl h⟩
            | (a, b) :: r, ih2 =>
              show Wfw _ (if b < i then (0, (i, i + 1) :: (a, b) :: r) else if i + 1 - a ≤ 80 then (0, (a, i + 1) :: r) else (3, (a, b) :: r) : Nat × List (Nat × Nat)).2
              obtain ⟨q1, q2, q3, q4⟩ := ih2
              split
              · exact ⟨by omega, Nat.le_refl _, ⟨q1, by omega, q3, q4⟩, fun _ => by omega⟩
              · split
                · exact ⟨by omega, Nat.le_refl _, q3, q4⟩
                · exact ⟨q1, by omega, q3, q4⟩

/-- a line's words -/
def wds (t : ByteArray) : List (Nat × Nat) := (scn t t.size).2.reverse
/-- the number of what is wrong with a line (0: nothing) -/
def bdE (t : ByteArray) : Nat := if (scn t t.size).1 = 2 then 240 else if (scn t t.size).1 = 3 then 3 else 0
theorem bd_ok {t : ByteArray} (h : (scn t t.size).1 = 0 ∨ (scn t t.size).1 = 1) : bdE t = 0 := by unfold bdE; rw [if_neg (by omega), if_neg (by omega)]
theorem bd_2 {t : ByteArray} (h : (scn t t.size).1 = 2) : bdE t = 240 := if_pos h
theorem bd_3 {t : ByteArray} (h : (scn t t.size).1 = 3) : bdE t = 3 := by unfold bdE; rw [if_neg (by omega), if_pos h]

/-- a token: text, line, column -/
abbrev Tok := ByteArray × Int × Int
def tkl (n : Nat) (t : ByteArray) : List Tok := (wds t).map fun p => (t.extract p.1 p.2, (n : Int), (p.1 : Int))
/-- the first line that may not be: its number's error and its place; (0, 0): none -/
def erL : Nat → List ByteArray → Nat × Nat
  | _, [] => (0, 0)
  | n, t :: r => if bdE t ≠ 0 then (bdE t, n) else erL (n + 1) r
def tkL : Nat → List ByteArray → List (List Tok)
  | _, [] => []
  | n, t :: r => tkl n t :: tkL (n + 1) r
theorem tkL_len (l : List ByteArray) : ∀ n, (tkL n l).length = l.length := by
  induction l with
  | nil => intro n; rfl
  | cons t r ih => intro n; show (tkL (n + 1) r).length + 1 = r.length + 1; rw [ih]
theorem tkL_get {l : List ByteArray} : ∀ {n k : Nat} {t : ByteArray}, l[k]? = some t → (tkL n l)[k]? = some (tkl (n + k) t) := by
  induction l with
  | nil => intro n k t h; simp at h
  | cons u r ih =>
    intro n k t h
    cases k with
    | zero => simp at h; subst h; rfl
    | succ k =>
      simp only [List.getElem?_cons_succ] at h
      have := ih (n := n + 1) h
      show (tkL (n + 1) r)[k]? = _
      rw [this]; congr 2; omega
theorem erL_ok {l : List ByteArray} : ∀ {n : Nat}, (∀ t ∈ l, bdE t = 0) → erL n l = (0, 0) := by
  induction l with
  | nil => intro n _; rfl
  | cons u r ih =>
    intro n h
    show (if bdE u ≠ 0 then (bdE u, n) else erL (n + 1) r) = _
    rw [if_neg (by simp [h u (by simp)])]
    exact ih fun t ht => h t (List.mem_cons_of_mem _ ht)
theorem erL_at {l : List ByteArray} : ∀ {n k : Nat} {t : ByteArray}, l[k]? = some t → (∀ j u, j < k → l[j]? = some u → bdE u = 0) → bdE t ≠ 0 → erL n l = (bdE t, n + k) := by
  induction l with
  | nil => intro n k t h; simp at h
  | cons u r ih =>
    intro n k t h hj hb
    show (if bdE u ≠ 0 then (bdE u, n) else erL (n + 1) r) = _
    cases k with
    | zero =>
      simp at h; subst h
      rw [if_pos hb]; rfl
    | succ k =>
      simp only [List.getElem?_cons_succ] at h
      rw [if_neg (by simp [hj 0 u (by omega) rfl])]
      rw [ih (n := n + 1) h (fun j v hjk hv => hj (j + 1) v (by omega) (by simpa using hv)) hb]
      congr 1; omega

/-- the pieces of a text between its bytes 10, from a place on -/
def pcs (s : ByteArray) : Nat → Nat → Nat → List (Nat × Nat)
  | 0, i, f => [(f, i)]
  | n + 1, i, f => if bty s i = 10 then (f, i) :: pcs s n (i + 1) (i + 1) else pcs s n (i + 1) f
theorem pcs_ne (s : ByteArray) : ∀ n i f, pcs s n i f ≠ [] := by
  intro n
  induction n with
  | zero => intro i f h; cases h
  | succ n ih =>
    intro i f
    unfold pcs
    split
    · intro h; cases h
    · exact ih _ _
/-- all pieces -/
def alP (s : ByteArray) : List (Nat × Nat) := pcs s s.size 0 0
/-- the pieces as texts -/
def cuT (s : ByteArray) (l : List (Nat × Nat)) : List ByteArray := l.map fun p => s.extract p.1 p.2
/-- a text's lines: all pieces, but for a last one without a byte -/
def liP (s : ByteArray) : List (Nat × Nat) := if (alP s).getLast? = some (s.size, s.size) then (alP s).dropLast else alP s
def liT (s : ByteArray) : List ByteArray := cuT s (liP s)
theorem pcs_last (s : ByteArray) : ∀ n i f, i + n = s.size → f ≤ i → ∃ g, g ≤ s.size ∧ (pcs s n i f).getLast? = some (g, s.size) := by
  intro n
  induction n with
  | zero => intro i f h hf; exact ⟨f, by omega, by show some (f, i) = _; rw [show i = s.size by omega]⟩
  | succ n ih =>
    intro i f h hf
    unfold pcs
    split
    · obtain ⟨g, h1, h2⟩ := ih (i + 1) (i + 1) (by omega) (Nat.le_refl _)
      refine ⟨g, h1, ?_⟩
      rw [List.getLast?_cons, h2]; rfl
    · exact ih _ _ (by omega) (by omega)
/-- every piece lies in the text -/
theorem pcs_in (s : ByteArray) : ∀ n i f, i + n = s.size → f ≤ i → ∀ p ∈ pcs s n i f, p.1 ≤ p.2 ∧ p.2 ≤ s.size := by
  intro n
  induction n with
  | zero => intro i f h hf p hp; rcases List.mem_singleton.1 hp with rfl; exact ⟨hf, by omega⟩
  | succ n ih =>
    intro i f h hf p hp
    unfold pcs at hp
    split at hp
    · rcases List.mem_cons.1 hp with rfl | hp
      · exact ⟨hf, by omega⟩
      · exact ih _ _ (by omega) (Nat.le_refl _) p hp
    · exact ih _ _ (by omega) (by omega) p hp
theorem pcs_len (s : ByteArray) : ∀ n i f, (pcs s n i f).length ≤ n + 1 := by
  intro n
  induction n with
  | zero => intro i f; exact Nat.le_refl _
  | succ n ih =>
    intro i f
    unfold pcs
    split
    · have := ih (i + 1) (i + 1); simp only [List.length_cons]; omega
    · have := ih (i + 1) f; omega
theorem liP_sub {s : ByteArray} {p : Nat × Nat} (h : p ∈ liP s) : p ∈ alP s := by
  unfold liP at h
  split at h
  · exact List.dropLast_subset _ h
  · exact h
theorem liP_in {s : ByteArray} {p : Nat × Nat} (h : p ∈ liP s) : p.1 ≤ p.2 ∧ p.2 ≤ s.size := pcs_in s s.size 0 0 (by omega) (Nat.le_refl _) p (liP_sub h)
theorem liP_len (s : ByteArray) : (liP s).length ≤ s.size + 1 := by
  have := pcs_len s s.size 0 0
  unfold liP
  split
  · rw [List.length_dropLast]; have : (alP s).length ≤ s.size + 1 := this; omega
  · exact this
end Go.Proofs.YtmpkcioeodlbcaaGreatDoor
namespace Go.Proofs.YtmpkcioeodlbcaaGreatDoor
open RowKit Joins
set_option linter.unusedVariables false
theorem Tryz.infoTok : (Tryz.prog.info? 225).map (fun i => (i.zero, i.size, i.bytes)) = some (some (.agg #[.string ByteArray.empty, .int .i64 0, .int .i64 0]), 3, 32) := by kernel_rfl
/-- tokens as cells -/
def tcs : List Tok → List Value
  | [] => []
  | p :: r => .string p.1 :: .int .i64 p.2.1 :: .int .i64 p.2.2 :: tcs r
theorem tcs_app (a b : List Tok) : tcs (a ++ b) = tcs a ++ tcs b := by
  induction a with
  | nil => rfl
  | cons p r ih => show _ :: _ :: _ :: tcs (r ++ b) = _; rw [ih]; rfl
theorem tcs_len (a : List Tok) : (tcs a).length = a.length * 3 := by
  induction a with
  | nil => rfl
  | cons p r ih => show (tcs r).length + 3 = (r.length + 1) * 3; rw [ih]; omega
theorem tcs_get {a : List Tok} : ∀ {k : Nat} {p : Tok}, a[k]? = some p → (tcs a)[k * 3]? = some (.string p.1) ∧ (tcs a)[k * 3 + 1]? = some (.int .i64 p.2.1) ∧ (tcs a)[k * 3 + 2]? = some (.int .i64 p.2.2) := by
  induction a with
  | nil => intro k p h; simp at h
  | cons q r ih =>
    intro k p h
    cases k with
    | zero => simp at h; subst h; exact ⟨rfl, rfl, rfl⟩
    | succ k =>
      have := ih (k := k) (p := p) (by simpa using h)
      exact ⟨by rw [show (k + 1) * 3 = k * 3 + 3 by omega]; exact this.1, by rw [show (k + 1) * 3 + 1 = k * 3 + 1 + 3 by omega]; exact this.2.1, by rw [show (k + 1) * 3 + 2 = k * 3 + 2 + 3 by omega]; exact this.2.2⟩
/-- the words so far (the newest first), as tokens of line n -/
def wtk (t : ByteArray) (n : Nat) (L : List (Nat × Nat)) : List Tok := L.reverse.map fun p => (t.extract p.1 p.2, (n : Int), (p.1 : Int))
theorem wtk_cons (t : ByteArray) (n : Nat) (p : Nat × Nat) (L : List (Nat × Nat)) : wtk t n (p :: L) = wtk t n L ++ [(t.extract p.1 p.2, (n : Int), (p.1 : Int))] := by
  unfold wtk; simp
theorem wtk_len (t : ByteArray) (n : Nat) (L : List (Nat × Nat)) : (wtk t n L).length = L.length := by unfold wtk; simp
theorem tkl_wtk (t : ByteArray) (n : Nat) : tkl n t = wtk t n (scn t t.size).2 := rfl

theorem sub_run (t : ByteArray) (a b : Nat) (B : Int) (hB : B = (b : Int)) (h1 : a ≤ b) (h2 : b ≤ t.size) : ∀ w : World, (Instr.slice 9 (.string t) (some (.int .i64 a)) (some (.int .i64 B)) none).run Tryz.prog w = .ok (.string (t.extract a b)) w := by
  intro w
  subst hB
  rw [run_slice_string (P := Tryz.prog) w 9 t .i64 .i64 a b Tryz.underlying9 (by omega) (by omega) (by omega)]
  simp
/-- nothing but the row itself, and new memory -/
theorem grown_set {w : World} {g j : Nat} {u : Value} : w.grownBy (w.setCell ⟨g, j, none⟩ u) (some g) :=
  ⟨rfl, rfl, rfl, by simp [World.setCell], fun k _ hk => Below.heap_setCell _ _ _ _ (fun e => hk (by simp [e]))⟩

theorem grown_al {w w2 : World} {o : Obj} {row : Option Nat} (h : (w.alloc o).drew.grownBy w2 row) : w.grownBy w2 row :=
  ⟨h.os, h.tape, h.output, Nat.le_trans (by simp) h.size, fun k hk hr => (h.block k (by simp; omega) hr).trans (Deep.blk_alloc_lt _ _ _ hk)⟩
theorem ob_or {v : Value} {g cap n H B : Nat} (h : v.ownBlock = some g ∨ g = H) (hH : B ≤ H) : (Value.slice (some ⟨g, 0, none⟩) n cap).ownBlock = v.ownBlock ∨ ∃ q, (Value.slice (some ⟨g, 0, none⟩) n cap).ownBlock = some q ∧ B ≤ q := by
  rcases h with h | h
  · exact .inl h.symm
  · exact .inr ⟨g, rfl, by omega⟩

set_option maxHeartbeats 4000000 in
set_option maxRecDepth 100000 in
/-- a word begins -/
theorem lay_new (w : World) (base : Nat) (v : Value) (t : ByteArray) (n i : Nat) (L : List (Nat × Nat)) (hb : base ≤ w.heap.size) (hn : n ≤ 65536) (hi : i < t.size) (ht : t.size ≤ 65536)
    (hwf : Wfw i L) (hL : ∀ a b r, L = (a, b) :: r → b < i) (hown : w.ownsRow base 225 3 v L.length (tcs (wtk t n L))) :
    Calls Tryz.prog 146 #[v, .string t, .int .i64 n, .int .i64 i] w fun e w' => ∃ v', e = .returned (.tuple #[v', .bool true]) ∧
      w'.ownsRow base 225 3 v' (L.length + 1) (tcs (wtk t n ((i, i + 1) :: L))) ∧ w.grownBy w' v.ownBlock ∧ (v'.ownBlock = v.ownBlock ∨ ∃ g, v'.ownBlock = some g ∧ w.heap.size ≤ g) := by
  have hlen := hwf.len
  obtain ⟨i0, hi0, hz0, hz1, hz2⟩ := info_parts Tryz.infoTok
  have e1 : tcs (wtk t n ((i, i + 1) :: L)) = tcs (wtk t n L) ++ [.string (t.extract i (i + 1)), .int .i64 n, .int .i64 i] := by rw [wtk_cons, tcs_app]; rfl
  rw [e1]
  rcases L with _ | ⟨⟨a, b⟩, r⟩
  · obtain ⟨A, cap, rfl⟩ : ∃ A cap, v = .slice A 0 cap := by
      rcases ownsRow_forms hown with ⟨rfl, _⟩ | ⟨g, cap, rfl⟩
      · exact ⟨_, _, rfl⟩
      · exact ⟨_, _, rfl⟩
    have hown0 : w.ownsRow base 225 3 (.slice A 0 cap) 0 [] := hown
    have hsl := sub_run t i (i + 1) ((i : Int) + 1) (by omega) (by omega) (by omega)
    go_enter Tryz.func146, Tryz.ntmps146
    go_wp2_with fail
    go_region
    go_wp2_with (at_builtin; refine wpList_append_lies _ (by rfl) _ _ 161 (by rfl) base 225 i0 (.agg #[.string ByteArray.empty, .int .i64 0, .int .i64 0]) 3 32 Tryz.underlying161 hi0 hz0 hz1 hz2 (by rfl) (by decide) _ _ _ (by rfl) (hown0.alloc _) ⟨_, 0, none⟩ 1 1 [.string (t.extract i (i + 1)), .int .i64 n, .int .i64 i] (by rfl) (by rfl) ?c1 ?c2 (by decide) ?c3 ?c4 ?c5 _ rfl ?next)
    case c1 => exact World.news_of_block (fr := (0, 0)) (t := 225) (cs := #[.string (t.extract i (i + 1)), .int .i64 n, .int .i64 i]) (heap_alloc_new _ _)
    case c2 => intro u hu; simp at hu; rcases hu with rfl | rfl | rfl <;> rfl
    case c3 => unfold maxLen; omega
    case c4 => omega
    case c5 => simp; omega
    case next =>
      intro g2 cap2 w2 hown2 hgrow hat hlt
      go_wp2_with fail
      go_ret2
      exact ⟨_, rfl, hown2, grown_al hgrow, ob_or hat (by simp)⟩
  · have hbi : b < i := hL a b r rfl
    simp only [List.length_cons] at hlen
    obtain ⟨g, cap, rfl, hgb, hglt⟩ := hown.form (by simp)
    have hown0 : w.ownsRow base 225 3 (.slice (some ⟨g, 0, none⟩) (r.length + 1) cap) (r.length + 1) (tcs (wtk t n ((a, b) :: r))) := hown
    have hgt : (wtk t n ((a, b) :: r))[r.length]? = some (t.extract a b, (n : Int), (a : Int)) := by
      rw [wtk_cons, List.getElem?_append_right (by rw [wtk_len]; omega), wtk_len]; simp
    obtain ⟨k0, k1, k2⟩ := tcs_get hgt
    rw [← hown0.cellAt _ (by omega)] at k0 k2
    have hwf1 := hwf.1
    have hwf2 := hwf.2.1
    have hsz : (t.extract a b).size = b - a := ex_size (by omega)
    have hsl := sub_run t i (i + 1) ((i : Int) + 1) (by omega) (by omega) (by omega)
    show Calls Tryz.prog 146 #[.slice (some ⟨g, 0, none⟩) (r.length + 1) cap, .string t, .int .i64 n, .int .i64 i] w fun e w' => ∃ v', e = .returned (.tuple #[v', .bool true]) ∧
      w'.ownsRow base 225 3 v' (r.length + 1 + 1) _ ∧ w.grownBy w' (Value.slice (some ⟨g, 0, none⟩) (r.length + 1) cap).ownBlock ∧ (v'.ownBlock = (Value.slice (some ⟨g, 0, none⟩) (r.length + 1) cap).ownBlock ∨ ∃ g, v'.ownBlock = some g ∧ w.heap.size ≤ g)
    have HO : Hid (w.ownsRow base 225 3 (.slice (some ⟨g, 0, none⟩) (r.length + 1) cap) (r.length + 1) (tcs (wtk t n ((a, b) :: r)))) := hown0
    clear hown hown0 hgt k1 e1 hwf hL
    generalize tcs (wtk t n ((a, b) :: r)) = XS at HO ⊢
    generalize r.length = m at HO k0 k2 hlen ⊢
    have hneg : decide ((m : Int) < 0) = false := by simp
    have hwr : IntKind.i64.wrap ((a : Int) + ((b - a : Nat) : Int)) = (b : Int) := by
      rw [show (a : Int) + ((b - a : Nat) : Int) = (b : Int) by omega, IntKind.wrap_i64]; omega
    have hix : (m : Int) < (m : Int) + 1 := by omega
    have hbi2 : decide ((b : Int) < (i : Int)) = true := by simp; omega
    go_enter Tryz.func146, Tryz.ntmps146
    go_wp2_with fail
    go_region_held_law (fun w' => w'.cell? ⟨g, m * 3, none⟩ = some (.string (t.extract a b)) ∧ w'.cell? ⟨g, m * 3 + 2, none⟩ = some (.int .i64 a)) (go_keep) (fail)
    go_wp2_with (at_builtin; refine wpList_append_lies _ (by rfl) _ _ 161 (by rfl) base 225 i0 (.agg #[.string ByteArray.empty, .int .i64 0, .int .i64 0]) 3 32 Tryz.underlying161 hi0 hz0 hz1 hz2 (by rfl) (by decide) _ _ _ (by rfl) (HO.out.alloc _) ⟨_, 0, none⟩ 1 1 [.string (t.extract i (i + 1)), .int .i64 n, .int .i64 i] (by rfl) (by rfl) ?c1 ?c2 (by decide) ?c3 ?c4 ?c5 _ rfl ?next)
    case c1 => exact World.news_of_block (fr := (0, 0)) (t := 225) (cs := #[.string (t.extract i (i + 1)), .int .i64 n, .int .i64 i]) (heap_alloc_new _ _)
    case c2 => intro u hu; simp at hu; rcases hu with rfl | rfl | rfl <;> rfl
    case c3 => unfold maxLen; omega
    case c4 => omega
    case c5 => simp; omega
    case next =>
      intro g2 cap2 w2 hown2 hgrow hat hlt
      go_wp2_with fail
      go_ret2
      exact ⟨_, rfl, hown2, grown_al hgrow, ob_or hat (by simp)⟩

set_option maxHeartbeats 4000000 in
set_option maxRecDepth 100000 in
/-- the last word goes on -/
theorem lay_ext (w : World) (base : Nat) (v : Value) (t : ByteArray) (n i a b : Nat) (r : List (Nat × Nat)) (hb : base ≤ w.heap.size) (hn : n ≤ 65536) (hi : i < t.size) (ht : t.size ≤ 65536)
    (hwf : Wfw i ((a, b) :: r)) (hL : ¬ b < i) (hown : w.ownsRow base 225 3 v (r.length + 1) (tcs (wtk t n ((a, b) :: r)))) :
    Calls Tryz.prog 146 #[v, .string t, .int .i64 n, .int .i64 i] w fun e w' => e = .returned (.tuple #[v, .bool (decide (i + 1 - a ≤ 80))]) ∧
      w'.ownsRow base 225 3 v (r.length + 1) (tcs (wtk t n ((a, i + 1) :: r))) ∧ w.grownBy w' v.ownBlock := by
  have hlen := hwf.len
  simp only [List.length_cons] at hlen
  obtain ⟨g, cap, rfl, hgb, hglt⟩ := hown.form (by simp)
  have hgt : (wtk t n ((a, b) :: r))[r.length]? = some (t.extract a b, (n : Int), (a : Int)) := by
    rw [wtk_cons, List.getElem?_append_right (by rw [wtk_len]; omega), wtk_len]; simp
  obtain ⟨k0, k1, k2⟩ := tcs_get hgt
  rw [← hown.cellAt _ (by omega)] at k0 k2
  have hwf1 := hwf.1
  have hwf2 := hwf.2.1
  obtain rfl : b = i := by omega
  have hfz := hown.frozenAt (r.length * 3)
  have HS : Hid (((w.setCell ⟨g, r.length * 3, none⟩ (.string (t.extract a (b + 1)))).ownsRow base 225 3 (.slice (some ⟨g, 0, none⟩) (r.length + 1) cap) (r.length + 1) (tcs (wtk t n ((a, b + 1) :: r)))) ∧ w.grownBy (w.setCell ⟨g, r.length * 3, none⟩ (.string (t.extract a (b + 1)))) (some g)) := by
    have hs := hown.stored (r.length * 3) (.string (t.extract a (b + 1)))
    refine ⟨?_, hs.2⟩
    have he : tcs (wtk t n ((a, b + 1) :: r)) = (tcs (wtk t n ((a, b) :: r))).set (r.length * 3) (.string (t.extract a (b + 1))) := by
      rw [wtk_cons, wtk_cons, tcs_app, tcs_app, List.set_append_right _ _ (by rw [tcs_len, wtk_len]; omega), tcs_len, wtk_len, Nat.sub_self]
      rfl
    rw [he]; exact hs.1
  have hsz : (t.extract a b).size = b - a := ex_size (by omega)
  have hsz2 : (t.extract a (b + 1)).size = b + 1 - a := ex_size (by omega)
  have hsl := sub_run t a (b + 1) ((b : Int) + 1) (by omega) (by omega) (by omega)
  clear hown hgt k1 hwf
  generalize tcs (wtk t n ((a, b + 1) :: r)) = XS at HS ⊢
  generalize r.length = m at HS k0 k2 hlen hfz ⊢
  have hneg : decide ((m : Int) < 0) = false := by simp
  have hwr : IntKind.i64.wrap ((a : Int) + ((b - a : Nat) : Int)) = (b : Int) := by
    rw [show (a : Int) + ((b - a : Nat) : Int) = (b : Int) by omega, IntKind.wrap_i64]; omega
  have hix : (m : Int) < (m : Int) + 1 := by omega
  have hbi2 : decide ((b : Int) < (b : Int)) = false := by simp
  go_enter Tryz.func146, Tryz.ntmps146
  go_wp2_with fail
  go_region_held_law (fun w' => w'.cell? ⟨g, m * 3, none⟩ = some (.string (t.extract a b)) ∧ w'.cell? ⟨g, m * 3 + 2, none⟩ = some (.int .i64 a)) (go_keep) (fail)
  have kc : (w.setCell ⟨g, m * 3, none⟩ (.string (t.extract a (b + 1)))).cell? ⟨g, m * 3, none⟩ = some (.string (t.extract a (b + 1))) := World.cell?_setCell_same _ _ _ k0
  have hle : decide (((b + 1 - a : Nat) : Int) ≤ 80) = decide (b + 1 - a ≤ 80) := by rw [decide_eq_decide]; omega
  clear k0 k2
  go_wp2_with fail
  go_region_held_law (fun w' => w'.cell? ⟨g, m * 3, none⟩ = some (.string (t.extract a (b + 1)))) (go_keep) (fail)
  go_wp2_with fail
  go_ret2
  refine ⟨congrArg (fun x => Ending.returned (Value.tuple #[Value.slice (some ⟨g, 0, none⟩) (m + 1) cap, Value.bool x])) (decide_eq_decide.2 (by omega : b + 1 ≤ 80 + a ↔ b + 1 - a ≤ 80)), HS.out.1, ⟨HS.out.2.os, HS.out.2.tape, HS.out.2.output, HS.out.2.size, HS.out.2.block⟩⟩
end Go.Proofs.YtmpkcioeodlbcaaGreatDoor
namespace Go.Proofs.YtmpkcioeodlbcaaGreatDoor
open Go.Shelf Go.Proofs
def shlR : Ren := ⟨fun | 99 => 305 | 105 => 272 | 138 => 237 | 143 => 238 | 146 => 192 | 154 => 999999 | 155 => 999999 | 165 => 306 | 166 => 307 | 167 => 999999 | 169 => 309 | 170 => 308 | 195 => 256 | 197 => 257 | 206 => 323 | 212 => 206 | 217 => 285 | 218 => 258 | 219 => 259 | 221 => 217 | 224 => 287 | 225 => 286 | 240 => 324 | 241 => 325 | 260 => 284 | 263 => 229 | 264 => 230 | 266 => 316 | 267 => 288 | 268 => 236 | 276 => 332 | 277 => 333 | 314 => 317 | n => n, fun | 0 => 0 | 3 => 3 | 4 => 4 | 5 => 5 | 9 => 9 | 20 => 20 | 21 => 21 | 31 => 61 | 37 => 298 | 46 => 227 | 51 => 303 | 53 => 47 | 70 => 376 | 72 => 378 | 75 => 295 | 76 => 296 | 80 => 379 | 105 => 330 | 109 => 275 | 119 => 389 | 127 => 299 | 138 => 391 | 139 => 392 | 146 => 304 | 148 => 306 | 164 => 401 | n => n, fun | 1 => 1 | 3 => 5 | 4 => 6 | n => n⟩
theorem sh146 : Lays.n146 Tryz.prog shlR := {
  mixed := by kernel_rfl
  f138 := Tryz.func237.trans (congrArg some (by kernel_rfl))
  f143 := Tryz.func238.trans (congrArg some (by kernel_rfl))
  f146 := Tryz.func192.trans (congrArg some (by kernel_rfl))
  f195 := Tryz.func256.trans (congrArg some (by kernel_rfl))
  f197 := Tryz.func257.trans (congrArg some (by kernel_rfl))
  f217 := Tryz.func285.trans (congrArg some (by kernel_rfl))
  f218 := Tryz.func258.trans (congrArg some (by kernel_rfl))
  f219 := Tryz.func259.trans (congrArg some (by kernel_rfl))
  f221 := Tryz.func217.trans (congrArg some (by kernel_rfl))
  f224 := Tryz.func287.trans (congrArg some (by kernel_rfl))
  f225 := Tryz.func286.trans (congrArg some (by kernel_rfl))
  f260 := Tryz.func284.trans (congrArg some (by kernel_rfl))
  f266 := Tryz.func316.trans (congrArg some (by kernel_rfl))
  f267 := Tryz.func288.trans (congrArg some (by kernel_rfl))
  f268 := Tryz.func236.trans (congrArg some (by kernel_rfl))
  f314 := Tryz.func317.trans (congrArg some (by kernel_rfl))
  t0 := Tryz.underlying0
  a0 := Tryz.isAgg0
  z0 := Tryz.sizeOf0
  v0 := Tryz.zeroValue0
  t3 := Tryz.underlying3
  a3 := Tryz.isAgg3
  z3 := Tryz.sizeOf3
  v3 := Tryz.zeroValue3
  t4 := Tryz.underlying4
  a4 := Tryz.isAgg4
  z4 := Tryz.sizeOf4
  v4 := Tryz.zeroValue4
  t5 := Tryz.underlying5
  a5 := Tryz.isAgg5
  z5 := Tryz.sizeOf5
  v5 := Tryz.zeroValue5
  t9 := Tryz.underlying9
  a9 := Tryz.isAgg9
  z9 := Tryz.sizeOf9
  v9 := Tryz.zeroValue9
  t21 := Tryz.underlying21
  a21 := Tryz.isAgg21
  z21 := Tryz.sizeOf21
  v21 := Tryz.zeroValue21
  t31 := Tryz.underlying61
  a31 := Tryz.isAgg61
  z31 := Tryz.sizeOf61
  v31 := Tryz.zeroValue61
  t46 := Tryz.underlying227
  a46 := Tryz.isAgg227
  z46 := Tryz.sizeOf227
  v46 := Tryz.zeroValue227
  t51 := Tryz.underlying303
  a51 := Tryz.isAgg303
  z51 := Tryz.sizeOf303
  v51 := Tryz.zeroValue303
  t105 := Tryz.underlying330
  a105 := Tryz.isAgg330
  z105 := Tryz.sizeOf330
  v105 := Tryz.zeroValue330
  t119 := Tryz.underlying389
  a119 := Tryz.isAgg389
  z119 := Tryz.sizeOf389
  t138 := Tryz.underlying391
  a138 := Tryz.isAgg391
  z138 := Tryz.sizeOf391
  v138 := Tryz.zeroValue391
  t139 := Tryz.underlying392
  a139 := Tryz.isAgg392
  z139 := Tryz.sizeOf392
  v139 := Tryz.zeroValue392
  t146 := Tryz.underlying304
  a146 := Tryz.isAgg304
  z146 := Tryz.sizeOf304
  v146 := Tryz.zeroValue304
  g1 := by kernel_rfl
  g3 := by kernel_rfl
  g4 := by kernel_rfl }
theorem shI : (Tryz.prog.info? 9).map (fun i => (i.zero, i.size, i.bytes)) = some (some (.string ByteArray.empty), 1, 16) := by kernel_rfl
end Go.Proofs.YtmpkcioeodlbcaaGreatDoor
namespace Go.Proofs.YtmpkcioeodlbcaaGreatDoor
open RowKit Joins
set_option linter.unusedVariables false
theorem pcs_no {s : ByteArray} : ∀ {n i f : Nat}, (∀ j, i ≤ j → j < i + n → bty s j ≠ 10) → pcs s n i f = [(f, i + n)] := by
  intro n
  induction n with
  | zero => intro i f _; rfl
  | succ n ih =>
    intro i f h
    unfold pcs
    rw [if_neg (h i (Nat.le_refl _) (by omega)), ih (fun j h1 h2 => h j (by omega) (by omega))]
    congr 2; omega
theorem pcs_hit {s : ByteArray} : ∀ {m n i f : Nat}, (∀ j, i ≤ j → j < i + m → bty s j ≠ 10) → bty s (i + m) = 10 → m < n → pcs s n i f = (f, i + m) :: pcs s (n - m - 1) (i + m + 1) (i + m + 1) := by
  intro m
  induction m with
  | zero =>
    intro n i f _ h hn
    obtain ⟨n, rfl⟩ : ∃ k, n = k + 1 := ⟨n - 1, by omega⟩
    show (if bty s i = 10 then (f, i) :: pcs s n (i + 1) (i + 1) else pcs s n (i + 1) f) = _
    rw [if_pos (by simpa using h)]
    simp
  | succ m ih =>
    intro n i f h1 h2 hn
    obtain ⟨n, rfl⟩ : ∃ k, n = k + 1 := ⟨n - 1, by omega⟩
    show (if bty s i = 10 then (f, i) :: pcs s n (i + 1) (i + 1) else pcs s n (i + 1) f) = _
    rw [if_neg (h1 i (Nat.le_refl _) (by omega)), ih (n := n) (i := i + 1) (fun j q1 q2 => h1 j (by omega) (by omega)) (by rw [show i + 1 + m = i + (m + 1) by omega]; exact h2) (by omega)]
    rw [show i + 1 + m = i + (m + 1) by omega, show n - m - 1 = n + 1 - (m + 1) - 1 by omega]

def nlB : ByteArray := ⟨#[10]⟩
theorem occ_yes {s : ByteArray} {i : Nat} (h : Lib.occAt s.data.toList nlB.data.toList i = true) : i < s.size ∧ bty s i = 10 := by
  have := Lib.occAt_head (c := 10) (t := []) rfl h
  have h1 : s.data[i]? = some 10 := by simpa using this
  have h2 : i < s.data.size := by
    rcases Nat.lt_or_ge i s.data.size with q | q
    · exact q
    · rw [Array.getElem?_eq_none q] at h1; cases h1
  refine ⟨h2, ?_⟩
  show (s.data.getD i 0).toNat = 10
  rw [Array.getD_eq_getD_getElem?, h1]; rfl
theorem occ_no {s : ByteArray} {i : Nat} (hi : i < s.size) (h : Lib.occAt s.data.toList nlB.data.toList i = false) : bty s i ≠ 10 := by
  have h2 : i < s.data.size := hi
  intro q
  have q1 : (s.data[i]'h2).toNat = 10 := by
    have := bty_get hi; rw [q] at this; exact this
  have q2 : s.data[i]'h2 = 10 := UInt8.toNat_inj.1 q1
  rw [Lib.occAt_iff_take _ _ _ (by have : nlB.data.toList.length = 1 := rfl; rw [this, ← Lib.size_eq]; omega)] at h
  have e : (s.data.toList.drop i).take nlB.data.toList.length = [10] := by
    have : nlB.data.toList.length = 1 := rfl
    rw [this]
    rw [List.take_one, List.head?_drop]
    simp [Array.getElem?_eq_getElem h2, q2]
  rw [e] at h
  exact absurd h (by decide)

theorem split_pcs (s : ByteArray) : ∀ k p, p ≤ s.size → s.size - p = k →
    Lib.splitB nlB 0 (Lib.countB (s.extract p s.size) nlB) (s.extract p s.size) = cuT s (pcs s (s.size - p) p p) := by
  intro k
  induction k using Nat.strongRecOn with
  | _ k ih =>
    intro p hp hk
    have hts : (s.extract p s.size).size = s.size - p := ex_size (Nat.le_refl _)
    rcases Lib.index_spec (s.extract p s.size).data.toList nlB.data.toList with ⟨h1, h2⟩ | ⟨i, h1, h2, h3, h4⟩
    · have e1 : Lib.indexB (s.extract p s.size) nlB = -1 := h1
      rw [Lib.splitB_miss _ _ _ _ e1, pcs_no]
      · show _ = [s.extract p (p + (s.size - p))]
        rw [show p + (s.size - p) = s.size by omega]
      · intro j q1 q2
        have := occ_no (s := s.extract p s.size) (i := j - p) (by rw [hts]; omega) (h2 _ (by rw [← Lib.size_eq, hts]; omega))
        rwa [bty_ex (Nat.le_refl _) (by omega), show p + (j - p) = j by omega] at this
    · have e1 : Lib.indexB (s.extract p s.size) nlB = i := h1
      obtain ⟨y1, y2⟩ := occ_yes h3
      rw [hts] at y1
      rw [bty_ex (Nat.le_refl _) (by omega)] at y2
      have hsz : nlB.size = 1 := rfl
      have e2 : (s.extract p s.size).extract (i + 1) (s.extract p s.size).size = s.extract (p + i + 1) s.size := by
        rw [hts, ex_ex (by omega)]; congr 1; omega
      rw [Lib.countB_hit _ _ i (by decide) e1, hsz, e2, Nat.add_comm 1, Lib.splitB_hit _ _ _ _ i e1, hsz, e2, ih (s.size - (p + i + 1)) (by omega) _ (by omega) rfl]
      rw [pcs_hit (m := i) ?_ y2 (by omega)]
      · rw [ex_ex (by omega)]
        show _ = s.extract p (p + i) :: _
        rw [show s.size - p - i - 1 = s.size - (p + i + 1) by omega]
        congr 1
      · intro j q1 q2
        have := occ_no (s := s.extract p s.size) (i := j - p) (by rw [hts]; omega) (h4 _ (by omega))
        rwa [bty_ex (Nat.le_refl _) (by omega), show p + (j - p) = j by omega] at this
theorem split_all (s : ByteArray) : Lib.splitB nlB 0 (Lib.countB s nlB) s = cuT s (alP s) := by
  have h := split_pcs s s.size 0 (Nat.zero_le _) (by omega)
  have e : s.extract 0 s.size = s := by simp
  rw [e] at h
  exact h
theorem split_len (s : ByteArray) : Lib.countB s nlB + 1 = (alP s).length := by
  have := Lib.splitB_all nlB (by decide) 0 _ s rfl
  rw [split_all] at this
  rw [← this]; unfold cuT; simp

/-- what strings.Split at the byte 10 hands back -/
theorem split_any (s : ByteArray) (m : Int) (w : World) (hs : s.size < 4294967281) (hm : w.cell? ⟨1, 0, none⟩ = some (.int .i64 m)) :
    Calls Tryz.prog 192 #[.string s, .string ⟨#[10]⟩] w fun e w' =>
      e = .returned (.slice (some ⟨w.heap.size, 0, none⟩) (alP s).length (alP s).length) ∧ w' = w.alloc (.cells ((cuT s (alP s)).map Value.string).toArray 9) := by
  have h := Any.strings_Split sh146 shI s nlB m w hs hm (by decide)
  rw [split_all, split_len] at h
  exact h
theorem cuT_len (s : ByteArray) (l : List (Nat × Nat)) : (cuT s l).length = l.length := by unfold cuT; simp
theorem liT_len (s : ByteArray) : (liT s).length = (liP s).length := cuT_len _ _
theorem alP_pos (s : ByteArray) : 0 < (alP s).length := List.length_pos_iff.2 (pcs_ne s _ _ _)
theorem alP_len (s : ByteArray) : (alP s).length ≤ s.size + 1 := pcs_len s s.size 0 0
/-- the last piece -/
theorem alP_last (s : ByteArray) : ∃ g, g ≤ s.size ∧ (alP s)[(alP s).length - 1]? = some (g, s.size) := by
  obtain ⟨g, h1, h2⟩ := pcs_last s s.size 0 0 (by omega) (Nat.le_refl _)
  refine ⟨g, h1, ?_⟩
  rw [← h2, List.getLast?_eq_getElem?]; rfl
theorem str_cell {w : World} {B j : Nat} {l : List ByteArray} {t : TypeId} {u : ByteArray} (h : w.heap[B]? = some (.cells (l.map Value.string).toArray t)) (hj : l[j]? = some u) : w.cell? ⟨B, j, none⟩ = some (.string u) := by
  rw [cell_of_row w B j _ t (0, 0) h]
  simp [hj]
theorem ex_empty {s : ByteArray} {g : Nat} (hg : g ≤ s.size) : (s.extract g s.size).toList.isEmpty = decide (g = s.size) := by
  rw [ByteArray.toList_eq]
  by_cases h : g = s.size
  · subst h
    rw [decide_eq_true rfl]
    have : s.extract s.size s.size = ByteArray.empty := by simp
    rw [this]; rfl
  · rw [decide_eq_false h, List.isEmpty_eq_false_iff]
    intro e
    have : (s.extract g s.size).data.toList.length = 0 := by rw [e]; rfl
    rw [← Lib.size_eq, ex_size (Nat.le_refl _)] at this
    omega
theorem liP_drop {s : ByteArray} (h : (alP s)[(alP s).length - 1]? = some (s.size, s.size)) : liP s = (alP s).dropLast := by
  unfold liP; rw [if_pos (by rw [List.getLast?_eq_getElem?]; exact h)]
theorem liP_all {s : ByteArray} {g : Nat} (h : (alP s)[(alP s).length - 1]? = some (g, s.size)) (hg : g ≠ s.size) : liP s = alP s := by
  unfold liP; rw [if_neg (by rw [List.getLast?_eq_getElem?, h]; simp; exact hg)]

set_option maxHeartbeats 1000000 in
set_option maxRecDepth 100000 in
/-- what linesOf hands back: all pieces in a block of its own, and the slice of the lines -/
theorem linesOf_any (s : ByteArray) (m : Int) (w : World) (hs : s.size ≤ 65536) (hm : w.cell? ⟨1, 0, none⟩ = some (.int .i64 m)) :
    Calls Tryz.prog 145 #[.string s] w fun e w' =>
      e = .returned (.slice (some ⟨w.heap.size, 0, none⟩) (liP s).length (alP s).length) ∧ w' = w.alloc (.cells ((cuT s (alP s)).map Value.string).toArray 9) := by
  obtain ⟨g, hg, hl⟩ := alP_last s
  have hpos := alP_pos s
  have hlen := alP_len s
  have hcl : (cuT s (alP s))[(alP s).length - 1]? = some (s.extract g s.size) := by unfold cuT; rw [List.getElem?_map, hl]; rfl
  have hcell : (w.alloc (.cells ((cuT s (alP s)).map Value.string).toArray 9)).cell? ⟨w.heap.size, (alP s).length - 1, none⟩ = some (.string (s.extract g s.size)) := str_cell (heap_alloc_new _ _) hcl
  have hem := ex_empty hg
  have hli : (liP s).length = if g = s.size then (alP s).length - 1 else (alP s).length := by
    by_cases q : g = s.size
    · subst q; rw [liP_drop hl, if_pos rfl, List.length_dropLast]
    · rw [liP_all hl q, if_neg q]
  have hc := split_any s m w (by omega) hm
  generalize ((cuT s (alP s)).map Value.string).toArray = X at hcell hc ⊢
  obtain ⟨n, hn⟩ : ∃ n, (alP s).length = n + 1 := ⟨(alP s).length - 1, by omega⟩
  rw [hn] at hlen hli hc hcell
  rw [hn]
  simp only [Nat.add_sub_cancel] at hcell hli
  generalize hE : s.extract g s.size = E at hcell hem
  have hix : (n : Int) < (n : Int) + 1 := by omega
  clear hcl hl hn hpos
  by_cases q : g = s.size
  · rw [decide_eq_true q] at hem
    rw [if_pos q] at hli
    rw [hli]
    clear q hli hE
    go_enter Tryz.func145, Tryz.ntmps145
    go_wp2_with (go_at_call 192; (with_reducible refine hc.mono ?_); rintro e w' ⟨rfl, rfl⟩)
    go_ret
    exact ⟨rfl, rfl⟩
  · rw [decide_eq_false q] at hem
    rw [if_neg q] at hli
    rw [hli]
    clear q hli hE
    go_enter Tryz.func145, Tryz.ntmps145
    go_wp2_with (go_at_call 192; (with_reducible refine hc.mono ?_); rintro e w' ⟨rfl, rfl⟩)
    go_ret
    exact ⟨rfl, rfl⟩
end Go.Proofs.YtmpkcioeodlbcaaGreatDoor
namespace Go.Proofs.YtmpkcioeodlbcaaGreatDoor
open RowKit Joins Deep
set_option linter.unusedVariables false
/-- the rows of words: block BL holds N slices, slice j the words ts j, in a block of its own -/
structure Fam (w : World) (base BL N : Nat) (vs : Nat → Value) (ts : Nat → List Tok) : Prop where
  row : w.rowIs BL 161 N vs
  own : ∀ j, j < N → w.ownsRow base 225 3 (vs j) (ts j).length (tcs (ts j))
  far : ∀ j, j < N → (vs j).ownBlock ≠ some BL
  apart : ∀ j k g, j < N → k < N → j ≠ k → (vs j).ownBlock = some g → (vs k).ownBlock ≠ some g
theorem Fam.lt {w : World} {base BL N : Nat} {vs : Nat → Value} {ts : Nat → List Tok} (h : Fam w base BL N vs ts) : BL < w.heap.size := h.row.lt
theorem Fam.made {w : World} {base N : Nat} : Fam (w.alloc (.cells (madeCells #[.slice none 0 0] N) 161)) base w.heap.size N (fun _ => .slice none 0 0) (fun _ => []) where
  row := World.rowIs_made w _ N _
  own := fun j _ => World.ownsRow_nil _ _ _ _
  far := fun j _ h => by cases h
  apart := fun j k g _ _ _ h => by cases h
theorem Fam.kept {w w' : World} {base BL N : Nat} {vs : Nat → Value} {ts : Nat → List Tok} (h : Fam w base BL N vs ts) (hb : Below w.heap.size w w') : Fam w' base BL N vs ts where
  row := h.row.of_block (hb.block _ h.lt)
  own := fun j hj => by
    refine (h.own j hj).kept (row := none) ⟨hb.os, hb.tape, hb.output, hb.size, fun k hk _ => hb.block k hk⟩ ?_
    cases e : (vs j).ownBlock
    · exact .inl rfl
    · exact .inr (by simp)
  far := h.far
  apart := h.apart
theorem Fam.turn {w w1 : World} {base BL N n : Nat} {vs : Nat → Value} {ts : Nat → List Tok} (h : Fam w base BL N vs ts) (hn : n < N) {v' : Value} {l : List Tok}
    (hg : w.grownBy w1 (vs n).ownBlock) (hown : w1.ownsRow base 225 3 v' l.length (tcs l)) (hv : v'.ownBlock = (vs n).ownBlock ∨ ∃ g, v'.ownBlock = some g ∧ w.heap.size ≤ g) :
    Fam (w1.setCell ⟨BL, n, none⟩ v') base BL N (fun j => if j = n then v' else vs j) (fun j => if j = n then l else ts j) := by
  have hlt := h.lt
  have hnb : v'.ownBlock ≠ some BL := by
    rcases hv with e | ⟨g, e, hge⟩
    · rw [e]; exact h.far n hn
    · rw [e]; intro q; have := Option.some.inj q; omega
  have hr1 : w1.rowIs BL 161 N vs := h.row.of_block (hg.block BL hlt (fun e => h.far n hn e.symm))
  have hb : ∀ j, j < N → ∀ g, (vs j).ownBlock = some g → g < w.heap.size := fun j hj g e => ((h.own j hj).lt g e).2
  refine ⟨hr1.set n v', ?_, ?_, ?_⟩
  · intro j hj
    by_cases e : j = n
    · simp only [e, if_true]
      exact hown.kept (row := some BL) grown_set (.inr hnb)
    · simp only [e, if_false]
      have h1 := (h.own j hj).kept hg (by
        cases q : (vs j).ownBlock with
        | none => exact .inl rfl
        | some g => exact .inr (fun q2 => h.apart j n g hj hn e q q2.symm))
      exact h1.kept (row := some BL) grown_set (.inr (h.far j hj))
  · intro j hj
    by_cases e : j = n
    · simp only [e, if_true]; exact hnb
    · simp only [e, if_false]; exact h.far j hj
  · intro j k g hj hk hjk
    by_cases e : j = n
    · have e2 : k ≠ n := fun q => hjk (by omega)
      simp only [e, if_true, e2, if_false]
      intro q1 q2
      rcases hv with e3 | ⟨g2, e3, hge⟩
      · exact h.apart n k g hn hk (fun q => e2 q.symm) (e3.symm.trans q1) q2
      · rw [e3] at q1; have := Option.some.inj q1; have := hb k hk g q2; omega
    · by_cases e2 : k = n
      · simp only [e, if_false, e2, if_true]
        intro q1 q2
        rcases hv with e3 | ⟨g2, e3, hge⟩
        · exact h.apart j n g hj hn e q1 (e3.symm.trans q2)
        · rw [e3] at q2; have := Option.some.inj q2; have := hb j hj g q1; omega
      · simp only [e, e2, if_false]; exact h.apart j k g hj hk hjk

/-- what is known while Cut goes on: it stands at line n, of which the words l are laid -/
structure Civ (s : ByteArray) (w wr : World) (n : Nat) (l : List Tok) : Prop where
  bel : Below w.heap.size w wr
  fc : wr.heap[w.heap.size]? = some (.cells #[.int .i64 0, .int .i64 0] 69 (0, 0))
  tx : wr.heap[w.heap.size + 1]? = some (.cells ((cuT s (alP s)).map Value.string).toArray 9)
  fam : ∃ vs ts, Fam wr (w.heap.size + 3) (w.heap.size + 2) (liP s).length vs ts ∧ (∀ j u, j < n → (liT s)[j]? = some u → ts j = tkl j u) ∧ ts n = l ∧ ∀ j, n < j → ts j = []
  ok : ∀ j u, j < n → (liT s)[j]? = some u → bdE u = 0
theorem Civ.next {s : ByteArray} {w wr : World} {n : Nat} {t : ByteArray} (h : Civ s w wr n (tkl n t)) (ht : (liT s)[n]? = some t) (hb : bdE t = 0) : Civ s w wr (n + 1) [] := by
  obtain ⟨vs, ts, hf, h1, h2, h3⟩ := h.fam
  refine ⟨h.bel, h.fc, h.tx, ⟨vs, ts, hf, ?_, h3 _ (by omega), fun j hj => h3 j (by omega)⟩, ?_⟩
  · intro j u hj hu
    rcases Nat.lt_succ_iff_lt_or_eq.1 hj with q | rfl
    · exact h1 j u q hu
    · rw [ht] at hu; cases hu; exact h2
  · intro j u hj hu
    rcases Nat.lt_succ_iff_lt_or_eq.1 hj with q | rfl
    · exact h.ok j u q hu
    · rw [ht] at hu; cases hu; exact hb
theorem liT_get {s : ByteArray} {n : Nat} (h : n < (liP s).length) : ∃ p ∈ liP s, (liP s)[n]? = some p ∧ (liT s)[n]? = some (s.extract p.1 p.2) := by
  refine ⟨(liP s)[n], List.getElem_mem h, List.getElem?_eq_getElem h, ?_⟩
  unfold liT cuT
  rw [List.getElem?_map, List.getElem?_eq_getElem h]; rfl
theorem liP_pre {s : ByteArray} {n : Nat} {p : Nat × Nat} (h : (liP s)[n]? = some p) : (alP s)[n]? = some p := by
  unfold liP at h
  split at h
  · rw [List.getElem?_dropLast] at h
    split at h
    · exact h
    · cases h
  · exact h
theorem Civ.text {s : ByteArray} {w wr : World} {n : Nat} {l : List Tok} (h : Civ s w wr n l) {t : ByteArray} {k : Nat} (hk : (liT s)[k]? = some t) : wr.cell? ⟨w.heap.size + 1, k, none⟩ = some (.string t) := by
  refine str_cell h.tx ?_
  have hk2 : (cuT s (liP s))[k]? = some t := hk
  unfold cuT at hk2 ⊢
  rw [List.getElem?_map] at hk2 ⊢
  cases e : (liP s)[k]? with
  | none => rw [e] at hk2; cases hk2
  | some p => rw [e] at hk2; rw [liP_pre e]; exact hk2
theorem Civ.lays {s : ByteArray} {w wr w1 : World} {n : Nat} {l l2 : List Tok} (h : Civ s w wr n l) (hn : n < (liP s).length) {vs : Nat → Value} {ts : Nat → List Tok}
    (hf : Fam wr (w.heap.size + 3) (w.heap.size + 2) (liP s).length vs ts) (h1 : ∀ j u, j < n → (liT s)[j]? = some u → ts j = tkl j u) (h3 : ∀ j, n < j → ts j = [])
    {v' : Value} (hg : wr.grownBy w1 (vs n).ownBlock) (hown : w1.ownsRow (w.heap.size + 3) 225 3 v' l2.length (tcs l2)) (hv : v'.ownBlock = (vs n).ownBlock ∨ ∃ g, v'.ownBlock = some g ∧ wr.heap.size ≤ g) :
    Civ s w (w1.setCell ⟨w.heap.size + 2, n, none⟩ v') n l2 := by
  have hlt := hf.lt
  have hb0 : ∀ g, (vs n).ownBlock = some g → w.heap.size + 3 ≤ g := fun g e => ((hf.own n hn).lt g e).1
  have hblk : ∀ k, k < w.heap.size + 3 → k ≠ w.heap.size + 2 → (w1.setCell ⟨w.heap.size + 2, n, none⟩ v').heap[k]? = wr.heap[k]? := by
    intro k hk hk2
    rw [Below.heap_setCell _ _ _ _ (by intro e; exact hk2 (by simpa using e)), hg.block k (by omega) (by intro e; have := hb0 k e.symm; omega)]
  refine ⟨?_, ?_, ?_, ⟨_, _, hf.turn hn hg hown hv, ?_, by simp, ?_⟩, h.ok⟩
  · refine h.bel.trans ⟨hg.os, hg.tape, hg.output, ?_, fun k hk => hblk k (by omega) (by omega)⟩
    have := hg.size
    simp [World.setCell]; have := h.bel.size; omega
  · rw [hblk _ (by omega) (by omega)]; exact h.fc
  · rw [hblk _ (by omega) (by omega)]; exact h.tx
  · intro j u hj hu
    simp only [show j ≠ n by omega, if_false]; exact h1 j u hj hu
  · intro j hj
    simp only [show j ≠ n by omega, if_false]; exact h3 j hj
theorem Civ.drew {s : ByteArray} {w wr : World} {n : Nat} {l : List Tok} (h : Civ s w wr n l) : Civ s w wr.drew n l :=
  ⟨h.bel.drew, h.fc, h.tx, h.fam.imp fun vs q => q.imp fun ts q => ⟨⟨q.1.row, q.1.own, q.1.far, q.1.apart⟩, q.2⟩, h.ok⟩
theorem Fam.put {w : World} {base BL N : Nat} {vs : Nat → Value} {ts : Nat → List Tok} (h : Fam w base BL N vs ts) {b i : Nat} (hb : b < base) (hne : BL ≠ b) (x : Value) : Fam (w.setCell ⟨b, i, none⟩ x) base BL N vs ts :=
  ⟨h.row.setOther hne x, fun j hj => ownsRow_setCell_below (h.own j hj) hb x, h.far, h.apart⟩
/-- two cells of a block that is known whole -/
theorem two_c {w : World} {B : Nat} {a b : Value} {T : TypeId} (h : w.heap[B]? = some (.cells #[a, b] T (0, 0))) : w.cell? ⟨B, 0, none⟩ = some a ∧ w.cell? ⟨B, 1, none⟩ = some b ∧ w.frozen? ⟨B, 0, none⟩ = false ∧ w.frozen? ⟨B, 1, none⟩ = false :=
  ⟨by rw [cell_of_row w B 0 _ T (0, 0) h]; rfl, by rw [cell_of_row w B 1 _ T (0, 0) h]; rfl, frozen_of_row w B 0 _ T h, frozen_of_row w B 1 _ T h⟩
theorem two_set {w : World} {B : Nat} {a b : Value} {T : TypeId} (h : w.heap[B]? = some (.cells #[a, b] T (0, 0))) (x y : Value) :
    ((w.setCell ⟨B, 0, none⟩ x).setCell ⟨B, 1, none⟩ y).cell? ⟨B, 0, none⟩ = some x ∧ ((w.setCell ⟨B, 0, none⟩ x).setCell ⟨B, 1, none⟩ y).cell? ⟨B, 1, none⟩ = some y := by
  obtain ⟨c0, c1, _, _⟩ := two_c h
  constructor
  · rw [World.cell?_setCell_other _ _ _ _ (by simp)]
    exact World.cell?_setCell_same _ _ _ c0
  · refine World.cell?_setCell_same _ _ _ (u := b) ?_
    rw [World.cell?_setCell_other _ _ _ _ (by simp)]; exact c1
theorem below_two {w w' : World} {f n : Nat} (h : Below n w w') (hf : n ≤ f) (x y : Value) : Below n w ((w'.setCell ⟨f, 0, none⟩ x).setCell ⟨f, 1, none⟩ y) :=
  (h.setCell (p := ⟨f, 0, none⟩) hf _).setCell (p := ⟨f, 1, none⟩) hf _
/-- Cut begins -/
theorem Civ.start {s : ByteArray} {w : World} {N : Nat} (hN : (liP s).length = N) :
    Civ s w (((w.alloc (.cells #[.int .i64 0, .int .i64 0] 69)).alloc (.cells ((cuT s (alP s)).map Value.string).toArray 9)).alloc (.cells (madeCells #[.slice none 0 0] N) 161)) 0 [] := by
  have hf := Fam.made (w := (w.alloc (.cells #[.int .i64 0, .int .i64 0] 69)).alloc (.cells ((cuT s (alP s)).map Value.string).toArray 9)) (base := w.heap.size + 3) (N := N)
  rw [show ((w.alloc (.cells #[.int .i64 0, .int .i64 0] 69)).alloc (.cells ((cuT s (alP s)).map Value.string).toArray 9)).heap.size = w.heap.size + 2 by simp] at hf
  refine ⟨(((Below.refl _ _).alloc (Nat.le_refl _) _).alloc (by simp) _).alloc (by simp; omega) _, ?_, ?_, ⟨_, _, by rw [hN]; exact hf, fun j u hj => absurd hj (by omega), rfl, fun _ _ => rfl⟩, fun j u hj => absurd hj (by omega)⟩
  · rw [blk_alloc_lt _ _ _ (by simp; omega), blk_alloc_lt _ _ _ (by simp)]; exact heap_alloc_new _ _
  · rw [blk_alloc_lt _ _ _ (by simp)]
    have := heap_alloc_new (w.alloc (.cells #[.int .i64 0, .int .i64 0] 69)) (.cells ((cuT s (alP s)).map Value.string).toArray 9)
    simpa using this
end Go.Proofs.YtmpkcioeodlbcaaGreatDoor
namespace Go.Proofs.YtmpkcioeodlbcaaGreatDoor
open RowKit Joins Deep
set_option linter.unusedVariables false
theorem Tryz.infoRow : (Tryz.prog.info? 161).map (fun i => (i.zero, i.size, i.bytes)) = some (some (.slice none 0 0), 1, 24) := by kernel_rfl
/-- the fault as a value -/
abbrev fltV (e a : Int) : Value := .agg #[.int .i64 e, .int .i64 a]
set_option maxHeartbeats 4000000 in
set_option maxRecDepth 100000 in
theorem cut_any (s : ByteArray) (m : Int) (w : World) (hs : s.size ≤ 65536) (hm : w.cell? ⟨1, 0, none⟩ = some (.int .i64 m)) :
    Calls Tryz.prog 104 #[.string s] w fun e w' => Below w.heap.size w w' ∧ ∃ v, e = .returned (.tuple #[v, fltV (erL 0 (liT s)).1 (erL 0 (liT s)).2]) ∧
      (((erL 0 (liT s)).1 = 0 ∧ (erL 0 (liT s)).2 = 0 ∧ v = .slice (some ⟨w.heap.size + 2, 0, none⟩) (liP s).length (liP s).length ∧ ∃ vs ts, Fam w' (w.heap.size + 3) (w.heap.size + 2) (liP s).length vs ts ∧ ∀ j u, (liT s)[j]? = some u → ts j = tkl j u)
        ∨ ((erL 0 (liT s)).1 ≠ 0 ∧ v = .slice none 0 0)) := by
  have hlen := liP_len s
  obtain ⟨N, hN⟩ : ∃ N, (liP s).length = N := ⟨_, rfl⟩
  have hmk := run_make_row' (P := Tryz.prog) 155 161 (.slice none 0 0) 24 Tryz.underlying155 Tryz.infoRow rfl .i64 .i64 N (by omega) (by omega)
  have hlo : ∀ F, Calls Tryz.prog 145 #[.string s] (w.alloc F) fun e w' =>
      e = .returned (.slice (some ⟨w.heap.size + 1, 0, none⟩) N (alP s).length) ∧ w' = (w.alloc F).alloc (.cells ((cuT s (alP s)).map Value.string).toArray 9) := by
    intro F
    have := linesOf_any s m (w.alloc F) hs (by rw [World.cell?_alloc_lt _ _ _ (World.block_lt_of_cell? w _ hm)]; exact hm)
    rw [hN] at this
    simpa using this
  have HC : Hid (∀ F, F = Obj.cells #[.int .i64 0, .int .i64 0] 69 → Civ s w (((w.alloc F).alloc (.cells ((cuT s (alP s)).map Value.string).toArray 9)).alloc (.cells (madeCells #[.slice none 0 0] N) 161)) 0 []) := by
    rintro F rfl
    exact Civ.start hN
  generalize ((cuT s (alP s)).map Value.string).toArray = X at hlo HC
  go_enter Tryz.func104, Tryz.ntmps104
  go_wp2_with fail
  go_step3
  go_wp2_with (go_at_call 145; (with_reducible refine (hlo _).mono ?_); rintro e w' ⟨rfl, rfl⟩)
  go_step3
  go_wp2_with fail
  go_loopg [23] N (fun g iv wr => ∃ n : Nat, n + g = N ∧ iv = .int .i64 n ∧ Hid (Civ s w wr n []))
  case atStart => exact ⟨0, by omega, rfl, HC.out _ rfl⟩
  case round =>
    obtain ⟨n, hng, rfl, HV⟩ := hrel
    cases gk with
    | zero =>
      have hnn : ¬ ((n : Int) < (N : Int)) := by omega
      obtain rfl : n = N := by omega
      have hfc := HV.out.fc
      obtain ⟨c0, c1, f0, f1⟩ := two_c hfc
      have rr := two_set hfc (.int .i64 0) (.int .i64 0)
      clear hfc
      go_wp2_with fail
      try rw [Exit.noGoto_ret]
      refine bodyPost_ret (by simp [results, Tryz.results104, go_sem, rr.1, rr.2]; try rfl) rfl ?_
      have hz : erL 0 (liT s) = (0, 0) := erL_ok fun t ht => by
        obtain ⟨j, hj⟩ := List.getElem?_of_mem ht
        refine HV.out.ok j t ?_ hj
        have := (List.getElem?_eq_some_iff.1 hj).1
        rw [liT_len] at this; omega
      obtain ⟨vs, ts, hf, h1, _, _⟩ := HV.out.fam
      rw [hz]
      refine ⟨below_two HV.out.bel (Nat.le_refl _) _ _, _, rfl, .inl ⟨rfl, rfl, by rw [hN], vs, ts, (hf.put (by omega) (by omega) _).put (by omega) (by omega) _, fun j u hu => h1 j u ?_ hu⟩⟩
      have := (List.getElem?_eq_some_iff.1 hu).1
      rw [liT_len] at this; omega
    | succ g =>
      have hnn : (n : Int) < (N : Int) := by omega
      obtain ⟨p, hp, hpl, ht⟩ := liT_get (s := s) (n := n) (by omega)
      have hp2 := (liP_in hp).2
      obtain ⟨t, htt⟩ : ∃ t, s.extract p.1 p.2 = t := ⟨_, rfl⟩
      have hts : t.size ≤ 65536 := by rw [← htt, ex_size hp2]; omega
      rw [htt] at ht
      clear htt hpl hp hp2
      have HT : Hid ((liT s)[n]? = some t) := ht
      have hcell := HV.out.text ht
      clear ht
      go_wp2_with fail
      go_loopg [30] t.size (fun g2 iv wr2 => ∃ (i : Nat) (L : List (Nat × Nat)), i + g2 = t.size ∧ iv = .int .i64 i ∧ Hid (scn t i = (0, L)) ∧ Hid (Civ s w wr2 n (wtk t n L)))
      case atStart => exact ⟨0, [], by omega, rfl, rfl, HV.out⟩
      case round =>
        obtain ⟨i, L, hig, rfl, HS, HV2⟩ := hrel
        cases gk with
        | zero =>
          have hii : ¬ ((i : Int) < (t.size : Int)) := by omega
          obtain rfl : i = t.size := by omega
          go_wp2_with fail
          go_roundg g
          case measure => omega
          case rel =>
            refine ⟨n + 1, by omega, by go_num, ?_⟩
            refine Civ.next (t := t) ?_ HT.out (bd_ok (.inl (by rw [HS.out])))
            have := HV2.out
            rw [tkl_wtk, HS.out]
            exact this
        | succ g2 =>
          have hii : (i : Int) < (t.size : Int) := by omega
          have hit : i < t.size := by omega
          have hg := bty_get hit
          have hcl := bty_lt t i
          obtain ⟨c, hc⟩ : ∃ c, c = bty t i := ⟨_, rfl⟩
          rw [← hc] at hg hcl
          have HCc : Hid (c = bty t i) := hc
          clear hc
          have hfc := HV2.out.fc
          obtain ⟨c0, c1, f0, f1⟩ := two_c hfc
          have rr240 := two_set hfc (.int .i64 240) (.int .i64 n)
          have rr3 := two_set hfc (.int .i64 3) (.int .i64 n)
          clear hfc
          rcases (show (c = 42 ∨ c = 59) ∨ (c = 32 ∨ c = 9 ∨ c = 13) ∨ (¬ (c = 42 ∨ c = 59) ∧ ¬ (c = 32 ∨ c = 9 ∨ c = 13) ∧ (c < 33 ∨ 126 < c)) ∨ (¬ (c = 42 ∨ c = 59) ∧ ¬ (c = 32 ∨ c = 9 ∨ c = 13) ∧ ¬ (c < 33 ∨ 126 < c)) from by omega) with hq | hq | hq | hq
          · have hfin : scn t t.size = (1, L) := by
              have h1 := scn_rem HS.out (by rw [← HCc.out]; exact hq)
              rw [scn_stays (s := t) (i := i + 1) (by rw [h1]; simp) t.size (by omega), h1]
            have HF : Hid (scn t t.size = (1, L)) := hfin
            clear hfin
            rcases hq with rfl | rfl
            all_goals
              go_wp2_with fail
              go_roundg g
              case measure => omega
              case rel =>
                refine ⟨n + 1, by omega, by go_num, ?_⟩
                refine Civ.next (t := t) ?_ HT.out (bd_ok (.inr (by rw [HF.out])))
                have := HV2.out
                rw [tkl_wtk, HF.out]
                exact this
          · have HN : Hid (scn t (i + 1) = (0, L)) := scn_blk HS.out (by rw [← HCc.out]; exact hq)
            rcases hq with rfl | rfl | rfl
            all_goals
              go_wp2_with fail
              go_roundg g2
              case measure => omega
              case rel => exact ⟨i + 1, L, by omega, by go_num, HN.out, HV2.out⟩
          · obtain ⟨q1, q2, q3⟩ := hq
            have hfin : scn t t.size = (2, L) := by
              have h1 := scn_bad HS.out (by rw [← HCc.out]; exact q1) (by rw [← HCc.out]; exact q2) (by rw [← HCc.out]; exact q3)
              rw [scn_stays (s := t) (i := i + 1) (by rw [h1]; simp) t.size (by omega), h1]
            have HF : Hid (scn t t.size = (2, L)) := hfin
            clear hfin
            have n1 : ((c : Int) == 42) = false := by simp; omega
            have n2 : ((c : Int) == 59) = false := by simp; omega
            have n3 : ((c : Int) == 32) = false := by simp; omega
            have n4 : ((c : Int) == 9) = false := by simp; omega
            have n5 : ((c : Int) == 13) = false := by simp; omega
            clear q1 q2
            rcases q3 with q | q
            · have n6 : decide ((c : Int) < 33) = true := by simp; omega
              go_wp2_with fail
              try rw [Exit.noGoto_ret]
              refine bodyPost_ret (by simp [results, Tryz.results104, go_sem, rr240.1, rr240.2]; try rfl) rfl ?_
              have hb : bdE t = 240 := bd_2 (by rw [HF.out])
              have hz : erL 0 (liT s) = (240, n) := by rw [erL_at (n := 0) HT.out HV2.out.ok (by rw [hb]; decide), hb, Nat.zero_add]
              rw [hz]
              exact ⟨below_two HV2.out.bel (Nat.le_refl _) _ _, _, rfl, .inr ⟨by simp, rfl⟩⟩
            · have n6 : decide ((c : Int) < 33) = false := by simp; omega
              have n7 : decide ((126 : Int) < (c : Int)) = true := by simp; omega
              go_wp2_with fail
              try rw [Exit.noGoto_ret]
              refine bodyPost_ret (by simp [results, Tryz.results104, go_sem, rr240.1, rr240.2]; try rfl) rfl ?_
              have hb : bdE t = 240 := bd_2 (by rw [HF.out])
              have hz : erL 0 (liT s) = (240, n) := by rw [erL_at (n := 0) HT.out HV2.out.ok (by rw [hb]; decide), hb, Nat.zero_add]
              rw [hz]
              exact ⟨below_two HV2.out.bel (Nat.le_refl _) _ _, _, rfl, .inr ⟨by simp, rfl⟩⟩
          · obtain ⟨q1, q2, q3⟩ := hq
            have n1 : ((c : Int) == 42) = false := by simp; omega
            have n2 : ((c : Int) == 59) = false := by simp; omega
            have n3 : ((c : Int) == 32) = false := by simp; omega
            have n4 : ((c : Int) == 9) = false := by simp; omega
            have n5 : ((c : Int) == 13) = false := by simp; omega
            have n6 : decide ((c : Int) < 33) = false := by simp; omega
            have n7 : decide ((126 : Int) < (c : Int)) = false := by simp; omega
            have HQ : Hid ((¬ (bty t i = 42 ∨ bty t i = 59)) ∧ ¬ blk (bty t i) ∧ ¬ (bty t i < 33 ∨ 126 < bty t i)) := by rw [← HCc.out]; exact ⟨q1, q2, q3⟩
            clear q1 q2 q3
            obtain ⟨vs, ts, hf, h1, h2, h3⟩ := HV2.out.fam
            have hnl : n < (liP s).length := by omega
            have hwf : Wfw i L := by have := scn_wf t i; rw [HS.out] at this; exact this
            have hbase : w.heap.size + 3 ≤ wr.heap.size := hf.lt
            have hown : wr.ownsRow (w.heap.size + 3) 225 3 (vs n) L.length (tcs (wtk t n L)) := by
              have := hf.own n hnl
              rw [h2, wtk_len] at this; exact this
            have hcl2 : wr.cell? ⟨w.heap.size + 2, n, none⟩ = some (vs n) := hf.row.cell hnl
            have hfz2 := hf.row.frozen n
            have hne := hf.far n hnl
            have HCL : Hid (∀ w3 : World, wr.grownBy w3 (vs n).ownBlock → w3.cell? ⟨w.heap.size + 2, n, none⟩ = some (vs n) ∧ w3.frozen? ⟨w.heap.size + 2, n, none⟩ = false) := fun w3 hg =>
              ⟨(hg.cell_far _ (by simpa using hf.lt) (fun e => hne e.symm)).trans hcl2, (hg.frozen_far _ (by simpa using hf.lt) (fun e => hne e.symm)).trans hfz2⟩
            have HST : Hid (∀ (w3 : World) (v' : Value) (l2 : List Tok), wr.grownBy w3 (vs n).ownBlock → w3.ownsRow (w.heap.size + 3) 225 3 v' l2.length (tcs l2) → (v'.ownBlock = (vs n).ownBlock ∨ ∃ g, v'.ownBlock = some g ∧ wr.heap.size ≤ g) → Civ s w (w3.setCell ⟨w.heap.size + 2, n, none⟩ v') n l2) :=
              fun w3 v' l2 a1 a2 a3 => HV2.out.lays hnl hf h1 h3 a1 a2 a3
            have HFT : Hid (∀ w3 : World, wr.grownBy w3 (vs n).ownBlock → w3.heap[w.heap.size]? = some (.cells #[.int .i64 0, .int .i64 0] 69 (0, 0)) ∧ Below w.heap.size w w3) := fun w3 hg => by
              have hb0 : ∀ g, (vs n).ownBlock = some g → w.heap.size + 3 ≤ g := fun g e => ((hf.own n hnl).lt g e).1
              refine ⟨(hg.block _ (by omega) (fun e => by have := hb0 _ e.symm; omega)).trans HV2.out.fc, HV2.out.bel.trans ⟨hg.os, hg.tape, hg.output, by have := hg.size; omega, fun k hk => hg.block k (by omega) (fun e => by have := hb0 k e.symm; omega)⟩⟩
            clear hf h1 h2 h3 hne
            generalize vs n = v at hown hcl2 HCL HST HFT
            by_cases hnew : ∀ a b r, L = (a, b) :: r → b < i
            · have HN : Hid (scn t (i + 1) = (0, (i, i + 1) :: L)) := scn_new HS.out HQ.out.1 HQ.out.2.1 HQ.out.2.2 hnew
              have HL : Hid (Calls Tryz.prog 146 #[v, .string t, .int .i64 n, .int .i64 i] wr _) := lay_new wr (w.heap.size + 3) v t n i L hbase (by omega) hit hts hwf hnew hown
              clear hnew hwf hown
              go_wp2_with (go_at_call 146; (with_reducible refine HL.out.mono ?_); rintro e w3 ⟨v', rfl, ho, hgr, hv⟩; (obtain ⟨g3, cap3, rfl, _, _⟩ := ho.form (by omega)); (obtain ⟨y1, y2⟩ := HCL.out w3 hgr); (have HO : Hid _ := HST.out w3 _ (wtk t n ((i, i + 1) :: L)) hgr (by rw [wtk_len]; exact ho) hv); clear ho hgr hv)
              go_roundg g2
              case measure => omega
              case rel => exact ⟨i + 1, _, by omega, by go_num, HN.out, HO.out⟩
            · obtain ⟨a, b, r, rfl, hb⟩ : ∃ a b r, L = (a, b) :: r ∧ ¬ b < i := by
                match L, hnew with
                | [], hnew => exact absurd (fun a b r h => by cases h) hnew
                | (a, b) :: r, hnew => exact ⟨a, b, r, rfl, fun hb => hnew fun a' b' r' h => by cases h; exact hb⟩
              clear hnew
              have hx := scn_ext HS.out HQ.out.1 HQ.out.2.1 HQ.out.2.2 hb
              have HL := lay_ext wr (w.heap.size + 3) v t n i a b r hbase (by omega) hit hts hwf hb hown
              have hown2 : wr.ownsRow (w.heap.size + 3) 225 3 v (r.length + 1) (tcs (wtk t n ((a, b) :: r))) := hown
              clear hown
              obtain ⟨g0, cap0, rfl, _, _⟩ := hown2.form (by omega)
              by_cases h80 : i + 1 - a ≤ 80
              · rw [if_pos h80] at hx
                rw [decide_eq_true h80] at HL
                have HN : Hid (scn t (i + 1) = (0, (a, i + 1) :: r)) := hx
                have HLL : Hid (Calls Tryz.prog 146 _ wr _) := HL
                clear hx hwf hown2 hb HL
                go_wp2_with (go_at_call 146; (with_reducible refine HLL.out.mono ?_); rintro e w3 ⟨rfl, ho, hgr⟩; (obtain ⟨y1, y2⟩ := HCL.out w3 hgr); (have HO : Hid _ := HST.out w3 _ (wtk t n ((a, i + 1) :: r)) hgr (by rw [wtk_len]; exact ho) (.inl rfl)); clear ho hgr)
                go_roundg g2
                case measure => omega
                case rel => exact ⟨i + 1, _, by omega, by go_num, HN.out, HO.out⟩
              · rw [if_neg h80] at hx
                rw [decide_eq_false h80] at HL
                have hfin : scn t t.size = (3, (a, b) :: r) := by rw [scn_stays (s := t) (i := i + 1) (by rw [hx]; simp) t.size (by omega), hx]
                have HF : Hid (scn t t.size = (3, (a, b) :: r)) := hfin
                have HLL : Hid (Calls Tryz.prog 146 _ wr _) := HL
                clear hx hwf hown2 hb HL hfin c0 c1 f0 f1
                go_wp2_with (go_at_call 146; (with_reducible refine HLL.out.mono ?_); rintro e w3 ⟨rfl, ho, hgr⟩; (obtain ⟨y3, hb3⟩ := HFT.out w3 hgr); (have HB3 : Hid (Below w.heap.size w w3) := hb3); (obtain ⟨c0, c1, f0, f1⟩ := two_c y3); (have rr3' := two_set y3 (.int .i64 3) (.int .i64 n)); clear ho hgr hb3 y3)
                try rw [Exit.noGoto_ret]
                refine bodyPost_ret (by simp [results, Tryz.results104, go_sem, rr3'.1, rr3'.2]; try rfl) rfl ?_
                have hb : bdE t = 3 := bd_3 (by rw [HF.out])
                have hz : erL 0 (liT s) = (3, n) := by rw [erL_at (n := 0) HT.out HV2.out.ok (by rw [hb]; decide), hb, Nat.zero_add]
                rw [hz]
                exact ⟨below_two HB3.out (Nat.le_refl _) _ _, _, rfl, .inr ⟨by simp, rfl⟩⟩
end Go.Proofs.YtmpkcioeodlbcaaGreatDoor
namespace Go.Proofs.YtmpkcioeodlbcaaGreatDoor
open RowKit Joins Deep
set_option linter.unusedVariables false
/-- the value v reads as the words ts -/
def RdT (w : World) (v : Value) (ts : List Tok) : Prop :=
  ts.length ≤ 4611686018427387904 ∧ ∃ A c, v = .slice A ts.length c ∧ (ts = [] ∨ ∃ b, A = some ⟨b, 0, none⟩ ∧ ∀ (k : Nat) (p : Tok), ts[k]? = some p → w.cell? ⟨b, k * 3, none⟩ = some (.string p.1) ∧ w.cell? ⟨b, k * 3 + 1, none⟩ = some (.int .i64 p.2.1) ∧ w.cell? ⟨b, k * 3 + 2, none⟩ = some (.int .i64 p.2.2))
/-- the value v reads as the lists ls -/
def RdL (w : World) (v : Value) (ls : List (List Tok)) : Prop :=
  ls.length ≤ 4611686018427387904 ∧ ∃ A c, v = .slice A ls.length c ∧ (ls = [] ∨ ∃ b, A = some ⟨b, 0, none⟩ ∧ ∀ (k : Nat) (ts : List Tok), ls[k]? = some ts → ∃ u, w.cell? ⟨b, k, none⟩ = some u ∧ RdT w u ts)
theorem RdT.kept {w w' : World} {v : Value} {ts : List Tok} (h : RdT w v ts) (hb : Below w.heap.size w w') : RdT w' v ts := by
  obtain ⟨h0, A, c, h1, h2⟩ := h
  refine ⟨h0, A, c, h1, h2.imp id ?_⟩
  rintro ⟨b, h3, h4⟩
  refine ⟨b, h3, fun k p hk => ?_⟩
  obtain ⟨q0, q1, q2⟩ := h4 k p hk
  exact ⟨(hb.cell (World.block_lt_of_cell? w _ q0)).trans q0, (hb.cell (World.block_lt_of_cell? w _ q1)).trans q1, (hb.cell (World.block_lt_of_cell? w _ q2)).trans q2⟩
theorem RdL.kept {w w' : World} {v : Value} {ls : List (List Tok)} (h : RdL w v ls) (hb : Below w.heap.size w w') : RdL w' v ls := by
  obtain ⟨h0, A, c, h1, h2⟩ := h
  refine ⟨h0, A, c, h1, h2.imp id ?_⟩
  rintro ⟨b, h3, h4⟩
  refine ⟨b, h3, fun k p hk => ?_⟩
  obtain ⟨u, q0, q1⟩ := h4 k p hk
  exact ⟨u, (hb.cell (World.block_lt_of_cell? w _ q0)).trans q0, q1.kept hb⟩
theorem RdT.of {w : World} {base : Nat} {v : Value} {ts : List Tok} (h : w.ownsRow base 225 3 v ts.length (tcs ts)) (hl : ts.length ≤ 4611686018427387904) : RdT w v ts := by
  refine ⟨hl, ?_⟩
  rcases ownsRow_forms h with ⟨rfl, h0⟩ | ⟨g, cap, rfl⟩
  · rw [h0]; exact ⟨none, 0, rfl, .inl (List.length_eq_zero_iff.1 h0)⟩
  · refine ⟨_, cap, rfl, .inr ⟨g, rfl, fun k p hk => ?_⟩⟩
    have hlt := (List.getElem?_eq_some_iff.1 hk).1
    obtain ⟨q0, q1, q2⟩ := tcs_get hk
    exact ⟨by rw [h.cellAt _ (by omega)]; exact q0, by rw [h.cellAt _ (by omega)]; exact q1, by rw [h.cellAt _ (by omega)]; exact q2⟩
theorem tkl_len (n : Nat) (t : ByteArray) : (tkl n t).length ≤ t.size := by
  rw [tkl_wtk, wtk_len]; exact (scn_wf t t.size).len
theorem liT_size {s : ByteArray} {k : Nat} {t : ByteArray} (h : (liT s)[k]? = some t) : t.size ≤ s.size := by
  obtain ⟨p, hp, _, ht⟩ := liT_get (s := s) (n := k) (by have := (List.getElem?_eq_some_iff.1 h).1; rw [liT_len] at this; exact this)
  rw [h] at ht
  cases ht
  rw [ex_size (liP_in hp).2]; have := (liP_in hp).2; omega
theorem tkL_inv {l : List ByteArray} {k : Nat} {ts : List Tok} (h : (tkL 0 l)[k]? = some ts) : ∃ t, l[k]? = some t ∧ ts = tkl k t := by
  have hlt := (List.getElem?_eq_some_iff.1 h).1
  rw [tkL_len] at hlt
  refine ⟨l[k], List.getElem?_eq_getElem hlt, ?_⟩
  rw [tkL_get (List.getElem?_eq_getElem hlt), Nat.zero_add] at h
  exact (Option.some.inj h).symm
/-- what Cut hands back, read -/
theorem RdL.fam {s : ByteArray} {w : World} {base BL : Nat} {vs : Nat → Value} {ts : Nat → List Tok} (hs : s.size ≤ 65536) (h : Fam w base BL (liP s).length vs ts) (ht : ∀ j u, (liT s)[j]? = some u → ts j = tkl j u) :
    RdL w (.slice (some ⟨BL, 0, none⟩) (liP s).length (liP s).length) (tkL 0 (liT s)) := by
  have hl := liP_len s
  refine ⟨by rw [tkL_len, liT_len]; omega, _, _, by rw [tkL_len, liT_len], .inr ⟨BL, rfl, fun k l hk => ?_⟩⟩
  obtain ⟨t, h1, rfl⟩ := tkL_inv hk
  have hlt := (List.getElem?_eq_some_iff.1 h1).1
  rw [liT_len] at hlt
  refine ⟨vs k, h.row.cell hlt, ?_⟩
  have := h.own k hlt
  rw [ht k t h1] at this
  exact RdT.of this (by have := tkl_len k t; have := liT_size h1; omega)
theorem RdL.none (w : World) : RdL w (.slice none 0 0) [] := ⟨by simp, _, _, rfl, .inl rfl⟩
end Go.Proofs.YtmpkcioeodlbcaaGreatDoor
namespace Go.Proofs.YtmpkcioeodlbcaaGreatDoor
open RowKit Joins Deep
set_option linter.unusedVariables false
/-- the variable of the library that strings.Split names holds some number -/
def Mln (w : World) : Prop := ∃ m, w.cell? ⟨1, 0, none⟩ = some (.int .i64 m)
theorem Mln.kept {w w' : World} (h : Mln w) (hb : Below w.heap.size w w') : Mln w' := by
  obtain ⟨m, hm⟩ := h
  exact ⟨m, (hb.cell (World.block_lt_of_cell? w _ hm)).trans hm⟩
theorem cut_ok (s : ByteArray) (w : World) (hs : s.size ≤ 65536) (hm : Mln w) (he : erL 0 (liT s) = (0, 0)) :
    Calls Tryz.prog 104 #[.string s] w fun e w' => ∃ v, e = .returned (.tuple #[v, fltV 0 0]) ∧ RdL w' v (tkL 0 (liT s)) ∧ Below w.heap.size w w' := by
  obtain ⟨m, hm⟩ := hm
  refine (cut_any s m w hs hm).mono ?_
  rintro e w' ⟨hb, v, h1, h2⟩
  rw [he] at h1 h2
  rcases h2 with ⟨_, _, rfl, vs, ts, hf, ht⟩ | ⟨h, _⟩
  · exact ⟨_, h1, RdL.fam hs hf ht, hb⟩
  · exact absurd rfl h
/-- a list of words laid as a literal -/
theorem RdT.lit {w : World} {B : Nat} {ts : List Tok} {cs : Array Value} {c : Nat} (h : w.heap[B]? = some (.cells cs 225 (0, 0))) (hc : cs.toList = tcs ts) (hl : ts.length ≤ 4611686018427387904) : RdT w (.slice (some ⟨B, 0, none⟩) ts.length c) ts := by
  refine ⟨hl, _, _, rfl, .inr ⟨B, rfl, fun k p hk => ?_⟩⟩
  obtain ⟨q0, q1, q2⟩ := tcs_get hk
  rw [← hc] at q0 q1 q2
  refine ⟨?_, ?_, ?_⟩
  · rw [cell_of_row w B _ _ _ (0, 0) h]; simpa using q0
  · rw [cell_of_row w B _ _ _ (0, 0) h]; simpa using q1
  · rw [cell_of_row w B _ _ _ (0, 0) h]; simpa using q2
end Go.Proofs.YtmpkcioeodlbcaaGreatDoor
namespace Go.Proofs.YtmpkcioeodlbcaaGreatDoor
open Go.Maps
/-- names are told by their bytes -/
abbrev kyS (s : List UInt8) : Lit := .string s
theorem kyS_inj {s t : List UInt8} (h : kyS s = kyS t) : s = t := Lit.string.inj h
/-- where a text stands in a list; 0 if it does not -/
def posL (xs : List (List UInt8)) (s : List UInt8) : Nat := if s ∈ xs then xs.idxOf s else 0
/-- the map says of each text whether it is on the list, and where -/
structure MdOk (D : DataW Unit) (xs : List (List UInt8)) : Prop where
  im : IsMap D
  hs : ∀ s, Maps.has D (kyS s) = decide (s ∈ xs)
  ak : ∀ s, D.atKey (kyS s) (.lit (.int .i64 0)) = .lit (.int .i64 (posL xs s))
theorem MdOk.empty : MdOk (.map []) [] := ⟨isMap_empty, fun s => by simp [has_eq], fun s => by simp [posL]; rfl⟩
theorem pos_old {xs : List (List UInt8)} {x s : List UInt8} (h : s ∈ xs) : posL (xs ++ [x]) s = posL xs s := by
  unfold posL
  rw [if_pos (List.mem_append_left _ h), if_pos h, List.idxOf_append, if_pos h]
theorem pos_new {xs : List (List UInt8)} {x : List UInt8} (h : x ∉ xs) : posL (xs ++ [x]) x = xs.length := by
  unfold posL
  rw [if_pos (by simp), List.idxOf_append, if_neg h]
  simp
theorem MdOk.push {D : DataW Unit} {xs : List (List UInt8)} {x : List UInt8} (h : MdOk D xs) (hx : x ∉ xs) : MdOk (D.put (kyS x) (.lit (.int .i64 xs.length))) (xs ++ [x]) := by
  refine ⟨h.im.put _ _, fun s => ?_, fun s => ?_⟩
  · by_cases e : s = x
    · subst e
      rw [has_put_same h.im (by trivial)]; simp
    · rw [has_put_other (fun q => e (kyS_inj q)), h.hs]
      simp [e]
  · by_cases e : s = x
    · subst e
      rw [atKey_put_same h.im (by trivial), pos_new hx]
    · rw [atKey_put_other (fun q => e (kyS_inj q)), h.ak]
      by_cases hm : s ∈ xs
      · rw [pos_old hm]
      · unfold posL
        rw [if_neg hm, if_neg (by simp [hm, e])]

end Go.Proofs.YtmpkcioeodlbcaaGreatDoor
namespace Go.Proofs.YtmpkcioeodlbcaaGreatDoor
open Go.Maps Go.RowKit
theorem lawS : Keyed Tryz.prog 9 := string_keyed Tryz.underlying9
theorem zeroI (w : World) : (zeroValue 3).run Tryz.prog w = .ok (.int .i64 0) w := by kernel_rfl
theorem key_s (l : List UInt8) (h : l.length ≤ 100000) : keyOf Tryz.prog 9 (.string ⟨l.toArray⟩) = some (kyS l) := by
  have := Go.WideMaps.keyOf_string_mk (P := Tryz.prog) (s := ⟨l.toArray⟩) Tryz.underlying9 (by unfold maxLen; simp [ByteArray.size]; omega)
  simpa using this
/-- the map of a row of names, in the block B -/
def Mp (w : World) (B : Nat) (xs : List (List UInt8)) : Prop := ∃ D : DataW Unit, w.ownsMap Tryz.prog 9 (plainElem Tryz.prog 3) B xs.length D ∧ MdOk D xs
theorem nplace_any (w : World) (p f B : Nat) (xs : List (List UInt8)) (l : List UInt8) (hl : l.length ≤ 100000) (hc : w.cell? ⟨p, f + 1, none⟩ = some (.map (some B))) (hm : Mp w B xs) :
    Calls Tryz.prog 82 #[.pointer (some ⟨p, f, none⟩), .string ⟨l.toArray⟩] w fun e w' => e = .returned (.tuple #[.int .i64 (posL xs l), .bool (decide (l ∈ xs))]) ∧ w' = w := by
  obtain ⟨D, hown, hD⟩ := hm
  have hkey := key_s l hl
  go_enter Tryz.func82, Tryz.ntmps82
  go_wp2_with (at_lookup; refine wpList_lookup_own_ok_int _ rfl _ _ 62 rfl 9 3 .i64 lawS Tryz.underlying62 Tryz.underlying3 (zeroI _) B xs.length D rfl hown _ _ rfl hkey ?_; intro c hat hwc)
  go_ret2
  rw [hD.ak l] at hat
  obtain rfl : ((posL xs l : Nat) : Int) = c := (Lit.int.inj (DataW.lit.inj hat)).2
  refine ⟨?_, rfl⟩
  show Ending.returned (.tuple #[.int .i64 ((posL xs l : Nat) : Int), .bool (has D (kyS l))]) = _
  rw [hD.hs l]

abbrev sv (l : List UInt8) : Value := .string ⟨l.toArray⟩
/-- a row of names in a struct: its list, its map -/
structure Rn (w : World) (base p f : Nat) (v : Value) (B : Nat) (xs : List (List UInt8)) : Prop where
  c0 : w.cell? ⟨p, f, none⟩ = some v
  c1 : w.cell? ⟨p, f + 1, none⟩ = some (.map (some B))
  fz : w.frozen? ⟨p, f, none⟩ = false
  row : w.ownsRow base 9 1 v xs.length (xs.map sv)
  mp : Mp w B xs
theorem map_ne {w : World} {B n : Nat} {D : DataW Unit} {R : Value → Option (DataW Unit × List MemPlace)} {k : TypeId} (h : w.ownsMap Tryz.prog k R B n D) {p f : Nat} {u : Value} (hc : w.cell? ⟨p, f, none⟩ = some u) : p ≠ B := by
  rintro rfl
  obtain ⟨es, clock, hb, _⟩ := h
  unfold World.cell? at hc
  simp [hb] at hc
theorem row_neB {w : World} {B n m base : Nat} {D : DataW Unit} {R : Value → Option (DataW Unit × List MemPlace)} {k e : TypeId} {v : Value} {xs : List Value} (h : w.ownsMap Tryz.prog k R B n D) (hr : w.ownsRow base e 1 v m xs) : v.ownBlock ≠ some B := by
  intro hv
  obtain ⟨es, clock, hb, _⟩ := h
  obtain ⟨_, ⟨rfl, _⟩ | ⟨g, cap, cur, rfl, _, h4, _⟩⟩ := hr
  · cases hv
  · simp [Value.ownBlock] at hv
    subst hv
    rw [hb] at h4; cases h4
theorem Tryz.infoS : (Tryz.prog.info? 9).map (fun i => (i.zero, i.size, i.bytes)) = some (some (.string ByteArray.empty), 1, 16) := by kernel_rfl
/-- what add may have turned: the struct's own cell, the map, the list's own row -/
structure Ad (w w' : World) (p f B : Nat) (v : Value) : Prop where
  os : w'.os = w.os
  tape : w'.tape = w.tape
  output : w'.output = w.output
  sz : w.heap.size ≤ w'.heap.size
  fr : ∀ k, k < w.heap.size → k ≠ p → k ≠ B → v.ownBlock ≠ some k → w'.heap[k]? = w.heap[k]?
  cl : ∀ j, j ≠ f → w'.cell? ⟨p, j, none⟩ = w.cell? ⟨p, j, none⟩
  fz : ∀ j, w'.frozen? ⟨p, j, none⟩ = w.frozen? ⟨p, j, none⟩
theorem grown_setN {w : World} {p f : Nat} {u : Value} : w.grownBy (w.setCell ⟨p, f, none⟩ u) (some p) :=
  ⟨rfl, rfl, rfl, by simp [World.setCell], fun i _ hne => heap_setCell_other w ⟨p, f, none⟩ i u (fun e => hne (by simp [e]))⟩
theorem add_old (w : World) (base p f B : Nat) (v : Value) (xs : List (List UInt8)) (l : List UInt8) (hl : l.length ≤ 100000) (h : Rn w base p f v B xs) (hm : l ∈ xs) :
    Calls Tryz.prog 112 #[.pointer (some ⟨p, f, none⟩), sv l] w fun e w' => e = .returned (.tuple #[]) ∧ w' = w := by
  obtain ⟨D, hown, hD⟩ := h.mp
  have hkey := key_s l hl
  have hc := h.c1
  have hh : has D (kyS l) = true := by rw [hD.hs l]; exact decide_eq_true hm
  go_enter Tryz.func112, Tryz.ntmps112
  go_wp2_with (at_lookup; refine wpList_lookup_own_ok_int _ rfl _ _ 62 rfl 9 3 .i64 lawS Tryz.underlying62 Tryz.underlying3 (zeroI _) B xs.length D rfl hown _ _ rfl hkey ?_; intro c hat hwc)
  (try simp only [Exit.inBlock, Exit.then])
  refine bodyPost_ret (results_none rfl _ _ _) rfl ?_
  exact ⟨rfl, rfl⟩
theorem add_new (w : World) (base p f B : Nat) (v : Value) (xs : List (List UInt8)) (l : List UInt8) (hl : l.length ≤ 100000) (hx : xs.length ≤ 100000) (h : Rn w base p f v B xs) (hm : l ∉ xs) (hbp : ∀ g, v.ownBlock = some g → g ≠ p) (hb : base ≤ w.heap.size) :
    Calls Tryz.prog 112 #[.pointer (some ⟨p, f, none⟩), sv l] w fun e w' => e = .returned (.tuple #[]) ∧ ∃ v', Rn w' base p f v' B (xs ++ [l]) ∧ Ad w w' p f B v ∧ ∀ g, v'.ownBlock = some g → v.ownBlock = some g ∨ w.heap.size ≤ g := by
  obtain ⟨D, hown, hD⟩ := h.mp
  have hkey := key_s l hl
  have hc0 := h.c0
  have hc1 := h.c1
  have hh : has D (kyS l) = false := by rw [hD.hs l]; exact decide_eq_false hm
  obtain ⟨A, cap, rfl⟩ : ∃ A cap, v = .slice A xs.length cap := by
    obtain ⟨_, ⟨h1, h2⟩ | ⟨g, cap, cur, h1, _⟩⟩ := h.row
    · exact ⟨none, 0, by rw [h1, h2]⟩
    · exact ⟨_, _, h1⟩
  obtain ⟨w2, hrun, own2, grow2⟩ := hown.drew.update lawS Tryz.underlying62 (by unfold maxLen; omega) hkey (plainElem_int (H := Unit) Tryz.underlying3 (a := (xs.length : Int)) (WalkArith.wf_i64 (by omega)))
  go_enter Tryz.func112, Tryz.ntmps112
  go_wp2_with (at_lookup; refine wpList_lookup_own_ok_int _ rfl _ _ 62 rfl 9 3 .i64 lawS Tryz.underlying62 Tryz.underlying3 (zeroI _) B xs.length D rfl hown _ _ rfl hkey ?_; intro c hat hwc)
  have hpB : p ≠ B := map_ne hown hc0
  have k0 : w2.cell? ⟨p, f, none⟩ = some (.slice A xs.length cap) := grow2.cell hc0 (by simpa using hpB)
  have k1 : w2.cell? ⟨p, f + 1, none⟩ = some (.map (some B)) := grow2.cell hc1 (by simpa using hpB)
  have hrB := row_neB hown h.row
  have row2 := h.row.kept (w' := w2) ⟨grow2.os, grow2.tape, grow2.output, grow2.size, grow2.block⟩ (Or.inr hrB)
  have hp2 : p < w.heap.size := World.block_lt_of_cell? w ⟨p, f, none⟩ hc0
  have kf : w2.frozen? ⟨p, f, none⟩ = false := (grow2.frozen_far ⟨p, f, none⟩ hp2 (by simpa using hpB)).trans h.fz
  have hb2 : base ≤ w2.heap.size := Nat.le_trans hb grow2.size
  obtain ⟨i0, hi0, hz0, hz1, hz2⟩ := info_parts Tryz.infoS
  go_region_held_law (fun W => W.cell? ⟨p, f, none⟩ = some (.slice A xs.length cap) ∧ W.cell? ⟨p, f + 1, none⟩ = some (.map (some B))) (first | exact ⟨k0, k1⟩ | go_keep) (fail)
  go_wp2_with (at_builtin; refine wpList_append_lies _ (by rfl) _ _ 61 (by rfl) base 9 i0 (.string ByteArray.empty) 1 16 Tryz.underlying61 hi0 hz0 hz1 hz2 (by rfl) (by decide) _ _ _ (by rfl) (row2.alloc _) ⟨w2.heap.size, 0, none⟩ 1 1 [sv l] (by rfl) (by rfl) ?c1 ?c2 (by decide) ?c3 ?c4 ?c5 _ rfl ?next)
  case c1 => exact World.news_of_block (fr := (0, 0)) (t := 9) (cs := #[sv l]) (heap_alloc_new _ _)
  case c2 => intro u hu; simp at hu; subst hu; rfl
  case c3 => unfold maxLen; omega
  case c4 => omega
  case c5 => simp; omega
  case next =>
    intro g2 cap2 w4 hown4 hgrow hat4 hlt4
    have hp3 : p < (w2.alloc (.cells #[sv l] 9)).heap.size := by have := grow2.size; simp; simp at this; omega
    have hvp : some p ≠ (Value.slice A xs.length cap).ownBlock := fun e => hbp p e.symm rfl
    have k4 : w4.cell? ⟨p, f, none⟩ = some (.slice A xs.length cap) := hgrow.cell (by rw [World.cell?_alloc_lt _ _ _ (World.block_lt_of_cell? w2 _ k0)]; exact k0) hvp
    have kf4 : w4.frozen? ⟨p, f, none⟩ = false := by
      rw [hgrow.frozen_far ⟨p, f, none⟩ hp3 hvp, World.frozen?_alloc_old (h := Nat.ne_of_lt (World.block_lt_of_cell? w2 _ k0))]; exact kf
    go_wp2_with fail
    go_end0
    have hs2 : w.heap.size ≤ w2.heap.size := grow2.size
    have hs4 : w2.heap.size + 1 ≤ w4.heap.size := by have := hgrow.size; simpa using this
    have gp : g2 ≠ p := by
      rcases hat4 with h1 | h1
      · exact hbp g2 h1
      · omega
    have G := grown_setN (w := w4) (p := p) (f := f) (u := .slice (some ⟨g2, 0, none⟩) (xs.length + 1) cap2)
    have q1 : w4.cell? ⟨p, f + 1, none⟩ = some (.map (some B)) := hgrow.cell (by rw [World.cell?_alloc_lt _ _ _ (World.block_lt_of_cell? w2 _ k1)]; exact k1) hvp
    have ob2 := ((own2.alloc (.cells #[sv l] 9)).kept hgrow (Ne.symm hrB)).kept G (by simpa using Ne.symm hpB)
    refine ⟨rfl, .slice (some ⟨g2, 0, none⟩) (xs.length + 1) cap2, ⟨World.cell?_setCell_same _ _ _ k4, ?_, ?_, ?_, ⟨_, ?_, hD.push hm⟩⟩, ⟨?_, ?_, ?_, ?_, fun k hk hkp hkB hkv => ?_, fun j hj => ?_, fun j => ?_⟩, fun g hg => ?_⟩
    · rw [World.cell?_setCell_other _ _ _ _ (by simp)]; exact q1
    · simp [kf4]
    · have := hown4.kept G (Or.inr (by simpa [Value.ownBlock] using gp))
      simpa using this
    · simpa using ob2
    · exact G.os.trans (hgrow.os.trans grow2.os)
    · exact G.tape.trans (hgrow.tape.trans grow2.tape)
    · exact G.output.trans (hgrow.output.trans grow2.output)
    · have := G.size; omega
    · rw [G.block k (by omega) (by simpa using hkp), hgrow.block k (by simp; omega) (fun e => hkv e.symm), Below.heap_alloc w2 _ k (by omega), grow2.block k hk (by simpa using hkB)]; rfl
    · rw [World.cell?_setCell_other _ _ _ _ (by intro e; cases e; exact hj rfl), hgrow.cell_far ⟨p, j, none⟩ hp3 hvp, World.cell?_alloc_lt w2 _ ⟨p, j, none⟩ (World.block_lt_of_cell? w2 ⟨p, f, none⟩ k0)]
      exact grow2.cell_far ⟨p, j, none⟩ hp2 (by simpa using hpB)
    · have hne : (⟨p, j, none⟩ : Addr).block ≠ w2.heap.size := Nat.ne_of_lt (World.block_lt_of_cell? w2 ⟨p, f, none⟩ k0)
      rw [show (w4.setCell ⟨p, f, none⟩ (.slice (some ⟨g2, 0, none⟩) (xs.length + 1) cap2)).frozen? ⟨p, j, none⟩ = w4.frozen? ⟨p, j, none⟩ by simp, hgrow.frozen_far ⟨p, j, none⟩ hp3 hvp, World.frozen?_alloc_old (h := hne)]
      exact grow2.frozen_far ⟨p, j, none⟩ hp2 (by simpa using hpB)
    · have e : g2 = g := by simpa [Value.ownBlock] using hg
      subst e
      rcases hat4 with h1 | h1
      · exact .inl h1
      · exact .inr (by omega)

end Go.Proofs.YtmpkcioeodlbcaaGreatDoor
namespace Go.Proofs.YtmpkcioeodlbcaaGreatDoor
open Go.Maps Go.RowKit
set_option maxRecDepth 100000
/-- eight cells of a block, each of them may be written -/
theorem eight {w : World} {p : Nat} {a b c d e f g h : Value} {t : TypeId} (hb : w.heap[p]? = some (.cells #[a, b, c, d, e, f, g, h] t (0, 0))) :
    (w.cell? ⟨p, 0, none⟩ = some a ∧ w.cell? ⟨p, 1, none⟩ = some b ∧ w.cell? ⟨p, 2, none⟩ = some c ∧ w.cell? ⟨p, 3, none⟩ = some d ∧ w.cell? ⟨p, 4, none⟩ = some e ∧ w.cell? ⟨p, 5, none⟩ = some f ∧ w.cell? ⟨p, 6, none⟩ = some g ∧ w.cell? ⟨p, 7, none⟩ = some h) ∧
    (w.frozen? ⟨p, 0, none⟩ = false ∧ w.frozen? ⟨p, 1, none⟩ = false ∧ w.frozen? ⟨p, 2, none⟩ = false ∧ w.frozen? ⟨p, 3, none⟩ = false ∧ w.frozen? ⟨p, 4, none⟩ = false ∧ w.frozen? ⟨p, 5, none⟩ = false ∧ w.frozen? ⟨p, 6, none⟩ = false ∧ w.frozen? ⟨p, 7, none⟩ = false) := by
  refine ⟨⟨?_, ?_, ?_, ?_, ?_, ?_, ?_, ?_⟩, ⟨?_, ?_, ?_, ?_, ?_, ?_, ?_, ?_⟩⟩
  all_goals first | exact frozen_of_row w p _ _ _ hb | (rw [cell_of_row w p _ _ _ (0, 0) hb]; rfl)
theorem below_set {w0 w : World} {p j : Nat} {u : Value} (hb : Below p w0 w) : Below p w0 (w.setCell ⟨p, j, none⟩ u) :=
  ⟨hb.os, hb.tape, hb.output, by have := hb.size; simpa [World.setCell] using this, fun k hk => (heap_setCell_other w ⟨p, j, none⟩ k u (by simp; omega)).trans (hb.block k hk)⟩
def st8 (w : World) (p : Nat) (a b c d e f g h : Value) : World := (((((((w.setCell ⟨p, 0, none⟩ a).setCell ⟨p, 1, none⟩ b).setCell ⟨p, 2, none⟩ c).setCell ⟨p, 3, none⟩ d).setCell ⟨p, 4, none⟩ e).setCell ⟨p, 5, none⟩ f).setCell ⟨p, 6, none⟩ g).setCell ⟨p, 7, none⟩ h
theorem set_at {w : World} {p i : Nat} {c c' : Array Value} {t : TypeId} {v : Value} (hb : w.heap[p]? = some (.cells c t (0, 0))) (hc : c.setIfInBounds i v = c') : (w.setCell ⟨p, i, none⟩ v).heap[p]? = some (.cells c' t (0, 0)) := by rw [← hc]; exact heap_setCell_same w p i c t v hb
theorem st8_blk {w : World} {p : Nat} {a b c d e f g h : Value} {t : TypeId} (hb : w.heap[p]? = some (.cells #[a, b, c, d, e, f, g, h] t (0, 0))) (a' b' c' d' e' f' g' h' : Value) : (st8 w p a' b' c' d' e' f' g' h').heap[p]? = some (.cells #[a', b', c', d', e', f', g', h'] t (0, 0)) := by
  have h0 := set_at (i := 0) (v := a') (c' := #[a', b, c, d, e, f, g, h]) hb rfl
  have h1 := set_at (i := 1) (v := b') (c' := #[a', b', c, d, e, f, g, h]) h0 rfl
  have h2 := set_at (i := 2) (v := c') (c' := #[a', b', c', d, e, f, g, h]) h1 rfl
  have h3 := set_at (i := 3) (v := d') (c' := #[a', b', c', d', e, f, g, h]) h2 rfl
  have h4 := set_at (i := 4) (v := e') (c' := #[a', b', c', d', e', f, g, h]) h3 rfl
  have h5 := set_at (i := 5) (v := f') (c' := #[a', b', c', d', e', f', g, h]) h4 rfl
  have h6 := set_at (i := 6) (v := g') (c' := #[a', b', c', d', e', f', g', h]) h5 rfl
  have h7 := set_at (i := 7) (v := h') (c' := #[a', b', c', d', e', f', g', h']) h6 rfl
  unfold st8
  exact h7
theorem st8_bel {w0 w : World} {p : Nat} (hb : Below p w0 w) (a b c d e f g h : Value) : Below p w0 (st8 w p a b c d e f g h) := by
  unfold st8
  exact below_set (below_set (below_set (below_set (below_set (below_set (below_set (below_set hb)))))))

/-- two cells of a block that is known whole -/
theorem tw_c {w : World} {B : Nat} {a b : Value} {T : TypeId} (h : w.heap[B]? = some (.cells #[a, b] T (0, 0))) : w.cell? ⟨B, 0, none⟩ = some a ∧ w.cell? ⟨B, 1, none⟩ = some b ∧ w.frozen? ⟨B, 0, none⟩ = false ∧ w.frozen? ⟨B, 1, none⟩ = false :=
  ⟨by rw [cell_of_row w B 0 _ T (0, 0) h]; rfl, by rw [cell_of_row w B 1 _ T (0, 0) h]; rfl, frozen_of_row w B 0 _ T h, frozen_of_row w B 1 _ T h⟩
theorem tw_set {w : World} {B : Nat} {a b : Value} {T : TypeId} (h : w.heap[B]? = some (.cells #[a, b] T (0, 0))) (x y : Value) :
    ((w.setCell ⟨B, 0, none⟩ x).setCell ⟨B, 1, none⟩ y).cell? ⟨B, 0, none⟩ = some x ∧ ((w.setCell ⟨B, 0, none⟩ x).setCell ⟨B, 1, none⟩ y).cell? ⟨B, 1, none⟩ = some y := by
  obtain ⟨c0, c1, _, _⟩ := tw_c h
  constructor
  · rw [World.cell?_setCell_other _ _ _ _ (by simp)]
    exact World.cell?_setCell_same _ _ _ c0
  · refine World.cell?_setCell_same _ _ _ (u := b) ?_
    rw [World.cell?_setCell_other _ _ _ _ (by simp)]; exact c1
theorem tw_bel {w w' : World} {f n : Nat} (h : Below n w w') (hf : n ≤ f) (x y : Value) : Below n w ((w'.setCell ⟨f, 0, none⟩ x).setCell ⟨f, 1, none⟩ y) :=
  (h.setCell (p := ⟨f, 0, none⟩) hf _).setCell (p := ⟨f, 1, none⟩) hf _

end Go.Proofs.YtmpkcioeodlbcaaGreatDoor
namespace Go.Proofs.YtmpkcioeodlbcaaGreatDoor
open Go.Shelf Go.Proofs
def saR : Ren := ⟨fun | 129 => 290 | 171 => 196 | 172 => 222 | 205 => 311 | 243 => 223 | 244 => 250 | 245 => 251 | 246 => 252 | 247 => 273 | 279 => 274 | 280 => 275 | 281 => 276 | 282 => 277 | 283 => 278 | 284 => 279 | 285 => 280 | 286 => 281 | 287 => 310 | 316 => 197 | 317 => 312 | 318 => 313 | 319 => 314 | 320 => 315 | 321 => 326 | 322 => 327 | 337 => 328 | 338 => 329 | n => n, fun | 0 => 0 | 2 => 2 | 3 => 3 | 4 => 4 | 5 => 5 | 9 => 9 | 20 => 20 | 21 => 21 | 37 => 298 | 46 => 227 | 51 => 303 | 53 => 47 | 75 => 295 | 76 => 296 | 80 => 379 | 85 => 350 | 127 => 299 | 143 => 396 | 145 => 398 | 167 => 349 | 168 => 352 | 171 => 355 | 173 => 358 | 175 => 380 | 210 => 383 | 212 => 386 | 213 => 387 | 232 => 404 | 233 => 405 | n => n, fun | 15 => 2 | 16 => 3 | 17 => 4 | 18 => 7 | 19 => 8 | n => n⟩
theorem sa172 : Lays.n172 Tryz.prog saR := {
  mixed := by kernel_rfl
  f129 := Tryz.func290.trans (congrArg some (by kernel_rfl))
  f171 := Tryz.func196.trans (congrArg some (by kernel_rfl))
  f172 := Tryz.func222.trans (congrArg some (by kernel_rfl))
  f205 := Tryz.func311.trans (congrArg some (by kernel_rfl))
  f243 := Tryz.func223.trans (congrArg some (by kernel_rfl))
  f244 := Tryz.func250.trans (congrArg some (by kernel_rfl))
  f245 := Tryz.func251.trans (congrArg some (by kernel_rfl))
  f246 := Tryz.func252.trans (congrArg some (by kernel_rfl))
  f247 := Tryz.func273.trans (congrArg some (by kernel_rfl))
  f279 := Tryz.func274.trans (congrArg some (by kernel_rfl))
  f280 := Tryz.func275.trans (congrArg some (by kernel_rfl))
  f281 := Tryz.func276.trans (congrArg some (by kernel_rfl))
  f282 := Tryz.func277.trans (congrArg some (by kernel_rfl))
  f283 := Tryz.func278.trans (congrArg some (by kernel_rfl))
  f284 := Tryz.func279.trans (congrArg some (by kernel_rfl))
  f285 := Tryz.func280.trans (congrArg some (by kernel_rfl))
  f286 := Tryz.func281.trans (congrArg some (by kernel_rfl))
  f287 := Tryz.func310.trans (congrArg some (by kernel_rfl))
  f316 := Tryz.func197.trans (congrArg some (by kernel_rfl))
  f317 := Tryz.func312.trans (congrArg some (by kernel_rfl))
  f318 := Tryz.func313.trans (congrArg some (by kernel_rfl))
  f319 := Tryz.func314.trans (congrArg some (by kernel_rfl))
  f320 := Tryz.func315.trans (congrArg some (by kernel_rfl))
  f321 := Tryz.func326.trans (congrArg some (by kernel_rfl))
  f322 := Tryz.func327.trans (congrArg some (by kernel_rfl))
  f337 := Tryz.func328.trans (congrArg some (by kernel_rfl))
  f338 := Tryz.func329.trans (congrArg some (by kernel_rfl))
  t0 := Tryz.underlying0
  a0 := Tryz.isAgg0
  z0 := Tryz.sizeOf0
  v0 := Tryz.zeroValue0
  t2 := Tryz.underlying2
  a2 := Tryz.isAgg2
  z2 := Tryz.sizeOf2
  v2 := Tryz.zeroValue2
  t3 := Tryz.underlying3
  a3 := Tryz.isAgg3
  z3 := Tryz.sizeOf3
  v3 := Tryz.zeroValue3
  t4 := Tryz.underlying4
  a4 := Tryz.isAgg4
  z4 := Tryz.sizeOf4
  v4 := Tryz.zeroValue4
  t5 := Tryz.underlying5
  a5 := Tryz.isAgg5
  z5 := Tryz.sizeOf5
  v5 := Tryz.zeroValue5
  t9 := Tryz.underlying9
  a9 := Tryz.isAgg9
  z9 := Tryz.sizeOf9
  v9 := Tryz.zeroValue9
  t20 := Tryz.underlying20
  a20 := Tryz.isAgg20
  z20 := Tryz.sizeOf20
  v20 := Tryz.zeroValue20
  t21 := Tryz.underlying21
  a21 := Tryz.isAgg21
  z21 := Tryz.sizeOf21
  v21 := Tryz.zeroValue21
  t37 := Tryz.underlying298
  a37 := Tryz.isAgg298
  z37 := Tryz.sizeOf298
  v37 := Tryz.zeroValue298
  t46 := Tryz.underlying227
  a46 := Tryz.isAgg227
  z46 := Tryz.sizeOf227
  v46 := Tryz.zeroValue227
  t51 := Tryz.underlying303
  a51 := Tryz.isAgg303
  z51 := Tryz.sizeOf303
  v51 := Tryz.zeroValue303
  t53 := Tryz.underlying47
  a53 := Tryz.isAgg47
  z53 := Tryz.sizeOf47
  v53 := Tryz.zeroValue47
  t75 := Tryz.underlying295
  a75 := Tryz.isAgg295
  z75 := Tryz.sizeOf295
  v75 := Tryz.zeroValue295
  t76 := Tryz.underlying296
  a76 := Tryz.isAgg296
  z76 := Tryz.sizeOf296
  v76 := Tryz.zeroValue296
  t85 := Tryz.underlying350
  a85 := Tryz.isAgg350
  z85 := Tryz.sizeOf350
  v85 := Tryz.zeroValue350
  t127 := Tryz.underlying299
  a127 := Tryz.isAgg299
  z127 := Tryz.sizeOf299
  v127 := Tryz.zeroValue299
  t143 := Tryz.underlying396
  a143 := Tryz.isAgg396
  z143 := Tryz.sizeOf396
  v143 := Tryz.zeroValue396
  t145 := Tryz.underlying398
  a145 := Tryz.isAgg398
  z145 := Tryz.sizeOf398
  v145 := Tryz.zeroValue398
  t167 := Tryz.underlying349
  a167 := Tryz.isAgg349
  z167 := Tryz.sizeOf349
  v167 := Tryz.zeroValue349
  t168 := Tryz.underlying352
  a168 := Tryz.isAgg352
  z168 := Tryz.sizeOf352
  v168 := Tryz.zeroValue352
  t171 := Tryz.underlying355
  a171 := Tryz.isAgg355
  z171 := Tryz.sizeOf355
  v171 := Tryz.zeroValue355
  t173 := Tryz.underlying358
  a173 := Tryz.isAgg358
  z173 := Tryz.sizeOf358
  v173 := Tryz.zeroValue358
  t175 := Tryz.underlying380
  a175 := Tryz.isAgg380
  z175 := Tryz.sizeOf380
  v175 := Tryz.zeroValue380
  t210 := Tryz.underlying383
  a210 := Tryz.isAgg383
  z210 := Tryz.sizeOf383
  v210 := Tryz.zeroValue383
  t212 := Tryz.underlying386
  a212 := Tryz.isAgg386
  z212 := Tryz.sizeOf386
  v212 := Tryz.zeroValue386
  t213 := Tryz.underlying387
  a213 := Tryz.isAgg387
  z213 := Tryz.sizeOf387
  t232 := Tryz.underlying404
  a232 := Tryz.isAgg404
  z232 := Tryz.sizeOf404
  v232 := Tryz.zeroValue404
  t233 := Tryz.underlying405
  a233 := Tryz.isAgg405
  z233 := Tryz.sizeOf405
  v233 := Tryz.zeroValue405
  g15 := by kernel_rfl
  g16 := by kernel_rfl
  g17 := by kernel_rfl
  g18 := by kernel_rfl
  g19 := by kernel_rfl }
theorem saM172 : LaysM.n172 Tryz.prog saR := { sa172 with
  t80 := Tryz.underlying379
  a80 := Tryz.isAgg379
  z80 := Tryz.sizeOf379
  v80 := Tryz.zeroValue379
  i0 := by kernel_rfl
  i2 := by kernel_rfl
  i3 := by kernel_rfl
  i4 := by kernel_rfl
  i5 := by kernel_rfl
  i9 := by kernel_rfl
  i20 := by kernel_rfl
  i21 := by kernel_rfl
  i37 := by kernel_rfl
  i46 := by kernel_rfl
  i51 := by kernel_rfl
  i53 := by kernel_rfl
  i75 := by kernel_rfl
  i76 := by kernel_rfl
  i80 := by kernel_rfl
  i85 := by kernel_rfl
  i127 := by kernel_rfl
  i143 := by kernel_rfl
  i145 := by kernel_rfl
  i167 := by kernel_rfl
  i168 := by kernel_rfl
  i171 := by kernel_rfl
  i173 := by kernel_rfl
  i175 := by kernel_rfl
  i210 := by kernel_rfl
  i212 := by kernel_rfl
  i232 := by kernel_rfl
  i233 := by kernel_rfl
  m15 := by kernel_rfl
  m16 := by kernel_rfl
  m17 := by kernel_rfl
  m18 := by kernel_rfl
  m19 := by kernel_rfl }
theorem saC172 : LaysC.n172 Tryz.prog saR := { saM172 with
  c0 := by kernel_rfl
  c2 := by kernel_rfl
  c3 := by kernel_rfl
  c4 := by kernel_rfl
  c5 := by kernel_rfl
  c9 := by kernel_rfl
  c20 := by kernel_rfl
  c21 := by kernel_rfl
  c37 := by kernel_rfl
  c46 := by kernel_rfl
  c51 := by kernel_rfl
  c53 := by kernel_rfl
  c75 := by kernel_rfl
  c76 := by kernel_rfl
  c80 := by kernel_rfl
  c85 := by kernel_rfl
  c127 := by kernel_rfl
  c143 := by kernel_rfl
  c145 := by kernel_rfl
  c167 := by kernel_rfl
  c168 := by kernel_rfl
  c171 := by kernel_rfl
  c173 := by kernel_rfl
  c175 := by kernel_rfl
  c210 := by kernel_rfl
  c212 := by kernel_rfl
  c213 := by kernel_rfl
  c232 := by kernel_rfl
  c233 := by kernel_rfl }
end Go.Proofs.YtmpkcioeodlbcaaGreatDoor
namespace Go.Proofs.YtmpkcioeodlbcaaGreatDoor
open Go.Shelf Go.Proofs
def skR : Ren := ⟨fun | 129 => 290 | 171 => 196 | 243 => 223 | 246 => 252 | 283 => 278 | 284 => 279 | 285 => 280 | 286 => 281 | 317 => 312 | 318 => 313 | 319 => 314 | 320 => 315 | 337 => 328 | 338 => 329 | n => n, fun | 0 => 0 | 2 => 2 | 3 => 3 | 4 => 4 | 5 => 5 | 9 => 9 | 20 => 20 | 37 => 298 | 46 => 227 | 51 => 303 | 53 => 47 | 171 => 355 | 173 => 358 | 212 => 386 | 213 => 387 | 232 => 404 | 233 => 405 | n => n, fun | 17 => 4 | 18 => 7 | 19 => 8 | n => n⟩
theorem sk171 : Lays.n171 Tryz.prog skR := {
  mixed := by kernel_rfl
  f129 := Tryz.func290.trans (congrArg some (by kernel_rfl))
  f171 := Tryz.func196.trans (congrArg some (by kernel_rfl))
  f243 := Tryz.func223.trans (congrArg some (by kernel_rfl))
  f246 := Tryz.func252.trans (congrArg some (by kernel_rfl))
  f283 := Tryz.func278.trans (congrArg some (by kernel_rfl))
  f284 := Tryz.func279.trans (congrArg some (by kernel_rfl))
  f285 := Tryz.func280.trans (congrArg some (by kernel_rfl))
  f286 := Tryz.func281.trans (congrArg some (by kernel_rfl))
  f317 := Tryz.func312.trans (congrArg some (by kernel_rfl))
  f318 := Tryz.func313.trans (congrArg some (by kernel_rfl))
  f319 := Tryz.func314.trans (congrArg some (by kernel_rfl))
  f320 := Tryz.func315.trans (congrArg some (by kernel_rfl))
  f337 := Tryz.func328.trans (congrArg some (by kernel_rfl))
  f338 := Tryz.func329.trans (congrArg some (by kernel_rfl))
  t0 := Tryz.underlying0
  a0 := Tryz.isAgg0
  z0 := Tryz.sizeOf0
  v0 := Tryz.zeroValue0
  t2 := Tryz.underlying2
  a2 := Tryz.isAgg2
  z2 := Tryz.sizeOf2
  v2 := Tryz.zeroValue2
  t3 := Tryz.underlying3
  a3 := Tryz.isAgg3
  z3 := Tryz.sizeOf3
  v3 := Tryz.zeroValue3
  t4 := Tryz.underlying4
  a4 := Tryz.isAgg4
  z4 := Tryz.sizeOf4
  v4 := Tryz.zeroValue4
  t5 := Tryz.underlying5
  a5 := Tryz.isAgg5
  z5 := Tryz.sizeOf5
  v5 := Tryz.zeroValue5
  t9 := Tryz.underlying9
  a9 := Tryz.isAgg9
  z9 := Tryz.sizeOf9
  v9 := Tryz.zeroValue9
  t20 := Tryz.underlying20
  a20 := Tryz.isAgg20
  z20 := Tryz.sizeOf20
  v20 := Tryz.zeroValue20
  t37 := Tryz.underlying298
  a37 := Tryz.isAgg298
  z37 := Tryz.sizeOf298
  v37 := Tryz.zeroValue298
  t46 := Tryz.underlying227
  a46 := Tryz.isAgg227
  z46 := Tryz.sizeOf227
  v46 := Tryz.zeroValue227
  t51 := Tryz.underlying303
  a51 := Tryz.isAgg303
  z51 := Tryz.sizeOf303
  v51 := Tryz.zeroValue303
  t53 := Tryz.underlying47
  a53 := Tryz.isAgg47
  z53 := Tryz.sizeOf47
  v53 := Tryz.zeroValue47
  t171 := Tryz.underlying355
  a171 := Tryz.isAgg355
  z171 := Tryz.sizeOf355
  v171 := Tryz.zeroValue355
  t173 := Tryz.underlying358
  a173 := Tryz.isAgg358
  z173 := Tryz.sizeOf358
  v173 := Tryz.zeroValue358
  t212 := Tryz.underlying386
  a212 := Tryz.isAgg386
  z212 := Tryz.sizeOf386
  v212 := Tryz.zeroValue386
  t213 := Tryz.underlying387
  a213 := Tryz.isAgg387
  z213 := Tryz.sizeOf387
  t232 := Tryz.underlying404
  a232 := Tryz.isAgg404
  z232 := Tryz.sizeOf404
  v232 := Tryz.zeroValue404
  t233 := Tryz.underlying405
  a233 := Tryz.isAgg405
  z233 := Tryz.sizeOf405
  v233 := Tryz.zeroValue405
  g17 := by kernel_rfl
  g18 := by kernel_rfl
  g19 := by kernel_rfl }
theorem skM171 : LaysM.n171 Tryz.prog skR := { sk171 with
  i0 := by kernel_rfl
  i2 := by kernel_rfl
  i3 := by kernel_rfl
  i4 := by kernel_rfl
  i5 := by kernel_rfl
  i9 := by kernel_rfl
  i20 := by kernel_rfl
  i37 := by kernel_rfl
  i46 := by kernel_rfl
  i51 := by kernel_rfl
  i53 := by kernel_rfl
  i171 := by kernel_rfl
  i173 := by kernel_rfl
  i212 := by kernel_rfl
  i232 := by kernel_rfl
  i233 := by kernel_rfl
  m17 := by kernel_rfl
  m18 := by kernel_rfl
  m19 := by kernel_rfl }
end Go.Proofs.YtmpkcioeodlbcaaGreatDoor
namespace Go.Proofs.YtmpkcioeodlbcaaGreatDoor
open Go.Shelf Go.RowKit Go.Sort Go.Lib
/-- the table of powers of ten that the library lays -/
def Pw (w : World) : Prop := Lib.TabIs Tryz.prog w "internal/strconv.uint64pow10" .u64 Lib.pow10Tab

theorem Pw.kept {w w' : World} (h : Pw w) (hb : Below w.heap.size w w') : Pw w' := by
  unfold Pw Lib.TabIs World.var? at *
  cases hg : Tryz.prog.globalNamed "internal/strconv.uint64pow10" with
  | none => simp [hg] at h
  | some g =>
    simp only [hg, Option.bind_some] at h ⊢
    have hlt : g < w.heap.size := by
      rcases Nat.lt_or_ge g w.heap.size with h' | h'
      · exact h'
      · rw [Array.getElem?_eq_none h'] at h; simp at h
    rw [hb.block g hlt]
    exact h
theorem itoa_any (n : Int) (h0 : -9223372036854775808 ≤ n) (h1 : n ≤ 9223372036854775807) (w : World) (htab : Pw w) :
    Calls Tryz.prog 196 #[.int .i64 n] w fun e w' => e = .returned (.string ⟨(Lib.itoa n).toArray⟩) ∧ Below w.heap.size w w' := by
  refine (Any.strconv_Itoa (ρ := skR) skM171 n h0 h1 w htab).mono ?_
  rintro e w' ⟨rfl, k, os, rfl⟩
  exact ⟨rfl, Lib.below_grow _ w (Nat.le_refl _) k os⟩

end Go.Proofs.YtmpkcioeodlbcaaGreatDoor
namespace Go.Proofs.YtmpkcioeodlbcaaGreatDoor
/-- how two numbers stand -/
def cmI (a b : Nat) : Int := if a < b then -1 else if a = b then 0 else 1
end Go.Proofs.YtmpkcioeodlbcaaGreatDoor
namespace Go.Proofs.YtmpkcioeodlbcaaGreatDoor
/-- the number that words are, the lowest first -/
def qn : List Nat → Nat
  | [] => 0
  | x :: l => x + 18446744073709551616 * qn l
def okQ (ws : List Nat) : Prop := ∀ x ∈ ws, x < 18446744073709551616
theorem qn_cons (x : Nat) (l : List Nat) : qn (x :: l) = x + 18446744073709551616 * qn l := rfl
theorem qn_append (a b : List Nat) : qn (a ++ b) = qn a + 18446744073709551616 ^ a.length * qn b := by
  induction a with
  | nil => simp [qn]
  | cons x l ih =>
    rw [List.cons_append, qn_cons, qn_cons, ih, List.length_cons, Nat.pow_succ, Nat.mul_add, ← Nat.add_assoc]
    congr 1
    rw [← Nat.mul_assoc, Nat.mul_comm 18446744073709551616]
theorem qn_lt {ws : List Nat} (h : okQ ws) : qn ws < 18446744073709551616 ^ ws.length := by
  induction ws with
  | nil => simp [qn]
  | cons x l ih =>
    have h1 := h x (List.mem_cons_self ..)
    have h2 := ih (fun y hy => h y (List.mem_cons_of_mem _ hy))
    rw [qn_cons, List.length_cons, Nat.pow_succ, Nat.mul_comm _ 18446744073709551616]
    omega
theorem okQ_take {ws : List Nat} (h : okQ ws) (k : Nat) : okQ (ws.take k) := fun x hx => h x (List.mem_of_mem_take hx)
theorem okQ_append {a b : List Nat} (ha : okQ a) (hb : okQ b) : okQ (a ++ b) := fun x hx => (List.mem_append.1 hx).elim (ha x) (hb x)
theorem okQ_getD {ws : List Nat} (h : okQ ws) (k : Nat) : ws.getD k 0 < 18446744073709551616 := by
  rw [List.getD_eq_getElem?_getD]
  cases hk : ws[k]? with
  | none => simp
  | some x => simp only [Option.getD_some]; exact h x (List.mem_of_getElem? hk)
theorem qn_zero {ws : List Nat} (h : ∀ j, ws.getD j 0 = 0) : qn ws = 0 := by
  induction ws with
  | nil => rfl
  | cons x l ih =>
    have h0 : x = 0 := h 0
    have h1 := ih (fun j => h (j + 1))
    rw [qn_cons, h0, h1]
theorem qn_take_of {ws : List Nat} {m : Nat} (h : ∀ j, m ≤ j → ws.getD j 0 = 0) : qn (ws.take m) = qn ws := by
  have h1 : qn (ws.drop m) = 0 := qn_zero (fun j => by
    rw [List.getD_eq_getElem?_getD, List.getElem?_drop, ← List.getD_eq_getElem?_getD]; exact h (m + j) (by omega))
  have h2 := qn_append (ws.take m) (ws.drop m)
  rw [List.take_append_drop, h1, Nat.mul_zero, Nat.add_zero] at h2
  exact h2.symm
theorem qn_split (ws : List Nat) (k : Nat) (hk : k < ws.length) : qn ws = qn (ws.take k) + 18446744073709551616 ^ k * (ws.getD k 0 + 18446744073709551616 * qn (ws.drop (k + 1))) := by
  have h2 := qn_append (ws.take k) (ws.drop k)
  rw [List.take_append_drop, List.length_take, Nat.min_eq_left (by omega), List.drop_eq_getElem_cons hk, qn_cons] at h2
  rw [h2]
  congr 3
  simp [List.getD_eq_getElem?_getD, hk]
theorem qn_take_succ (ws : List Nat) (k : Nat) (hk : k < ws.length) : qn (ws.take (k + 1)) = qn (ws.take k) + 18446744073709551616 ^ k * ws.getD k 0 := by
  rw [List.take_succ_eq_append_getElem hk, qn_append, List.length_take, Nat.min_eq_left (by omega)]
  congr 2
  simp [qn, List.getD_eq_getElem?_getD, hk]
/-- no nought at the end -/
def trimQ (ws : List Nat) : Prop := 0 < ws.length → ws.getD (ws.length - 1) 0 ≠ 0
theorem qn_ge {ws : List Nat} (ht : trimQ ws) (h0 : 0 < ws.length) : 18446744073709551616 ^ (ws.length - 1) ≤ qn ws := by
  have h := qn_split ws (ws.length - 1) (by omega)
  have h1 := ht h0
  have h2 : 1 ≤ ws.getD (ws.length - 1) 0 := by omega
  rw [h]
  have : 18446744073709551616 ^ (ws.length - 1) * 1 ≤ 18446744073709551616 ^ (ws.length - 1) * (ws.getD (ws.length - 1) 0 + 18446744073709551616 * qn (ws.drop (ws.length - 1 + 1))) := Nat.mul_le_mul_left _ (by omega)
  omega
theorem qn_pos {ws : List Nat} (ht : trimQ ws) : qn ws = 0 ↔ ws.length = 0 := by
  constructor
  · intro h
    rcases Nat.eq_zero_or_pos ws.length with h0 | h0
    · exact h0
    · have := qn_ge ht h0
      have := Nat.pow_pos (n := ws.length - 1) (show 0 < 18446744073709551616 by omega)
      omega
  · intro h
    rw [List.length_eq_zero_iff.1 h]; rfl
theorem cmq_len {a b : List Nat} (ha : okQ a) (htb : trimQ b) (h : a.length < b.length) : qn a < qn b := by
  have h1 := qn_lt ha
  have h2 := qn_ge htb (by omega)
  have h3 : 18446744073709551616 ^ a.length ≤ 18446744073709551616 ^ (b.length - 1) := Nat.pow_le_pow_right (by omega) (by omega)
  omega
theorem cmq_at {a b : List Nat} (ha : okQ a) (hl : a.length = b.length) {i : Nat} (hi : i < a.length) (hd : a.drop (i + 1) = b.drop (i + 1)) (h : a.getD i 0 < b.getD i 0) : qn a < qn b := by
  have h1 := qn_split a i hi
  have h2 := qn_split b i (by omega)
  have h3 := qn_lt (okQ_take ha i)
  rw [List.length_take, Nat.min_eq_left (by omega)] at h3
  rw [h1, h2, hd]
  generalize qn (b.drop (i + 1)) = t at *
  generalize a.getD i 0 = x at *
  generalize b.getD i 0 = y at *
  have h4 : 18446744073709551616 ^ i * (x + 18446744073709551616 * t) + 18446744073709551616 ^ i ≤ 18446744073709551616 ^ i * (y + 18446744073709551616 * t) := by
    rw [← Nat.mul_succ]; exact Nat.mul_le_mul_left _ (by omega)
  omega

end Go.Proofs.YtmpkcioeodlbcaaGreatDoor
namespace Go.Proofs.YtmpkcioeodlbcaaGreatDoor
open RowKit
theorem ret1i {a b : Int} (h : a = b) : Ending.returned (.int .i64 a) = .returned (.int .i64 b) := by rw [h]
end Go.Proofs.YtmpkcioeodlbcaaGreatDoor
namespace Go.Proofs.YtmpkcioeodlbcaaGreatDoor
open RowKit
theorem info_parts3 {P : Program} {e : TypeId} {z : Value} {s b : Nat} (h : (P.info? e).map (fun i => (i.zero, i.size, i.bytes)) = some (some z, s, b)) : ∃ i, P.info? e = some i ∧ i.zero = some z ∧ i.size = s ∧ i.bytes = b := by
  obtain ⟨i, h1, h2⟩ := Option.map_eq_some_iff.1 h
  simp only [Prod.mk.injEq] at h2
  exact ⟨i, h1, h2.1, h2.2.1, h2.2.2⟩
theorem below_drewN' {n : Nat} {w w' : World} (h : Below n w w') (k : Nat) : Below n w (w'.drewN k) := by
  obtain ⟨h1, h2, h3, h4, h5⟩ := h
  exact ⟨h1, h2, h3, h4, h5⟩
end Go.Proofs.YtmpkcioeodlbcaaGreatDoor
namespace Go.Proofs.YtmpkcioeodlbcaaGreatDoor
open RowKit
theorem Tryz.info64 : (Tryz.prog.info? 47).map (fun i => (i.zero, i.size, i.bytes)) = some (some (.int .u64 0), 1, 8) := by kernel_rfl
/-- all blocks but those of S are as they were -/
structure Only (S : Nat → Prop) (w w' : World) : Prop where
  os : w'.os = w.os
  tape : w'.tape = w.tape
  output : w'.output = w.output
  size : w.heap.size ≤ w'.heap.size
  block : ∀ k, k < w.heap.size → ¬ S k → w'.heap[k]? = w.heap[k]?
theorem Only.refl (S : Nat → Prop) (w : World) : Only S w w := ⟨rfl, rfl, rfl, Nat.le_refl _, fun _ _ _ => rfl⟩
theorem Only.trans {S : Nat → Prop} {a b c : World} (h : Only S a b) (k : Only S b c) : Only S a c :=
  ⟨k.os.trans h.os, k.tape.trans h.tape, k.output.trans h.output, Nat.le_trans h.size k.size, fun i hi hs => (k.block i (Nat.lt_of_lt_of_le hi h.size) hs).trans (h.block i hi hs)⟩
/-- what is turned behind may be new -/
theorem Only.next {S T : Nat → Prop} {a b c : World} (h : Only S a b) (k : Only T b c) (ht : ∀ i, T i → S i ∨ a.heap.size ≤ i) : Only S a c :=
  ⟨k.os.trans h.os, k.tape.trans h.tape, k.output.trans h.output, Nat.le_trans h.size k.size, fun i hi hs => (k.block i (Nat.lt_of_lt_of_le hi h.size) (fun x => (ht i x).elim hs (fun y => by omega))).trans (h.block i hi hs)⟩
theorem Only.mono {S T : Nat → Prop} {a b : World} (h : Only S a b) (ht : ∀ i, i < a.heap.size → S i → T i) : Only T a b :=
  ⟨h.os, h.tape, h.output, h.size, fun i hi hs => h.block i hi (fun x => hs (ht i hi x))⟩
theorem Only.alloc {S : Nat → Prop} {a b : World} (h : Only S a b) (c : Obj) : Only S a (b.alloc c) :=
  ⟨h.os, h.tape, h.output, Nat.le_trans h.size (by simp), fun i hi hs => by rw [← h.block i hi hs]; exact Below.heap_alloc _ _ _ (Nat.lt_of_lt_of_le hi h.size)⟩
theorem Only.drewN {S : Nat → Prop} {a b : World} (h : Only S a b) (n : Nat) : Only S a (b.drewN n) := ⟨h.os, h.tape, h.output, h.size, h.block⟩
theorem Only.set {S : Nat → Prop} {a b : World} (h : Only S a b) (p : Addr) (x : Value) (hp : S p.block ∨ a.heap.size ≤ p.block) : Only S a (b.setCell p x) :=
  ⟨h.os, h.tape, h.output, by simpa using h.size, fun i hi hs => by rw [← h.block i hi hs]; exact Below.heap_setCell _ _ _ _ (fun e => by subst e; rcases hp with y | y; exact hs y; omega)⟩
theorem Only.below {S : Nat → Prop} {a b : World} (h : Only S a b) (B : Nat) (hB : B ≤ a.heap.size) (hs : ∀ i, S i → B ≤ i) : Below B a b :=
  ⟨h.os, h.tape, h.output, h.size, fun i hi => h.block i (by omega) (fun x => by have := hs i x; omega)⟩
theorem Only.of_below {S : Nat → Prop} {a b : World} (h : Below a.heap.size a b) : Only S a b :=
  ⟨h.os, h.tape, h.output, h.size, fun i hi _ => h.block i hi⟩
theorem Only.grown {S : Nat → Prop} {a b c : World} {r : Option Nat} (h : Only S a b) (k : b.grownBy c r) (hr : ∀ i, r = some i → S i ∨ a.heap.size ≤ i) : Only S a c :=
  ⟨k.os.trans h.os, k.tape.trans h.tape, k.output.trans h.output, Nat.le_trans h.size k.size, fun i hi hs => (k.block i (Nat.lt_of_lt_of_le hi h.size) (fun e => by rcases hr i e.symm with y | y; exact hs y; omega)).trans (h.block i hi hs)⟩
/-- words as values -/
def qv (ws : List Nat) : List Value := ws.map fun x => .int .u64 ((x : Nat) : Int)
theorem qv_len (ws : List Nat) : (qv ws).length = ws.length := by simp [qv]
theorem qv_get (ws : List Nat) (j : Nat) (hj : j < ws.length) : (qv ws)[j]? = some (.int .u64 ((ws.getD j 0 : Nat) : Int)) := by
  unfold qv; rw [List.getElem?_map]; simp [List.getD_eq_getElem?_getD, hj]
theorem qv_set (ws : List Nat) (j x : Nat) : (qv ws).set j (.int .u64 ((x : Nat) : Int)) = qv (ws.set j x) := by
  unfold qv; rw [List.map_set]
theorem qv_snoc (os : List Nat) (x : Nat) : qv os ++ [.int .u64 ((x : Nat) : Int)] = qv (os ++ [x]) := by simp [qv]
/-- a whole number in memory of its own -/
def Wh (w : World) (base : Nat) (v : Value) (z L : Nat) : Prop := ∃ ws, w.ownsRow base 47 1 v ws.length (qv ws) ∧ okQ ws ∧ trimQ ws ∧ qn ws = z ∧ ws.length ≤ L
def Ob (v : Value) : Nat → Prop := fun k => v.ownBlock = some k
theorem ownsRow_only {w w' : World} {base n : Nat} {e : TypeId} {size : Nat} {v : Value} {xs : List Value} (h : w.ownsRow base e size v n xs) {S : Nat → Prop} (ho : Only S w w') (hs : ∀ k, Ob v k → ¬ S k) : w'.ownsRow base e size v n xs := by
  refine ⟨h.1, ?_⟩
  rcases h.2 with h1 | ⟨g, cap, cur, hv, hb, hg, h3⟩
  · exact .inl h1
  · refine .inr ⟨g, cap, cur, hv, hb, ?_, h3⟩
    rw [ho.block g (Array.getElem?_eq_some_iff.1 hg).1 (hs g (by subst hv; rfl))]; exact hg
theorem Wh.only {w w' : World} {base z L : Nat} {v : Value} (h : Wh w base v z L) {S : Nat → Prop} (ho : Only S w w') (hs : ∀ k, Ob v k → ¬ S k) : Wh w' base v z L := by
  obtain ⟨ws, h1, h2⟩ := h
  exact ⟨ws, ownsRow_only h1 ho hs, h2⟩
theorem Wh.mono {w : World} {base z L L' : Nat} {v : Value} (h : Wh w base v z L) (hl : L ≤ L') : Wh w base v z L' := by
  obtain ⟨ws, h1, h2, h3, h4, h5⟩ := h
  exact ⟨ws, h1, h2, h3, h4, by omega⟩
theorem Wh.lt {w : World} {base z L k : Nat} {v : Value} (h : Wh w base v z L) (hk : Ob v k) : k < w.heap.size ∧ base ≤ k := by
  obtain ⟨ws, h1, _⟩ := h
  rcases h1.2 with ⟨hv, _⟩ | ⟨g, cap, cur, hv, hb, hg, _⟩
  · subst hv; simp [Ob, Value.ownBlock] at hk
  · subst hv; simp [Ob, Value.ownBlock] at hk; subst hk; exact ⟨(Array.getElem?_eq_some_iff.1 hg).1, hb⟩
theorem Wh.nil (w : World) (base L : Nat) : Wh w base (.slice none 0 0) 0 L := ⟨[], World.ownsRow_nil _ _ _ _, fun x hx => by simp at hx, fun h => by simp at h, rfl, Nat.zero_le _⟩

theorem maskN (a : Nat) (ha : a < 18446744073709551616) : bits .and .u64 (a : Int) 4294967295 = ((a % 4294967296 : Nat) : Int) := by
  have h := bits_and_u64_nat a 4294967295 ha (by omega)
  have e : a &&& 4294967295 = a % 4294967296 := Nat.and_two_pow_sub_one_eq_mod a 32
  rw [e] at h
  exact h
theorem divN (a : Nat) : (a : Int) / 4294967296 = ((a / 4294967296 : Nat) : Int) := by omega
theorem mulN (a b : Nat) : (a : Int) * (b : Int) = ((a * b : Nat) : Int) := (Int.natCast_mul a b).symm
theorem addN (a b : Nat) : (a : Int) + (b : Int) = ((a + b : Nat) : Int) := (Int.natCast_add a b).symm
theorem wrapN (a : Nat) (ha : a < 18446744073709551616) : IntKind.u64.wrap (a : Int) = (a : Int) := by rw [IntKind.wrap_u64]; omega
theorem wrapM (a : Nat) : IntKind.u64.wrap (a : Int) = ((a % 18446744073709551616 : Nat) : Int) := by rw [IntKind.wrap_u64]; omega
set_option maxHeartbeats 1000000 in
theorem mul64_any (x y : Nat) (hx : x < 18446744073709551616) (hy : y < 18446744073709551616) (w : World) :
    Calls Tryz.prog 230 #[.int .u64 x, .int .u64 y] w fun e w' => e = .returned (.tuple #[.int .u64 ((x * y / 18446744073709551616 : Nat) : Int), .int .u64 ((x * y % 18446744073709551616 : Nat) : Int)]) ∧ w' = w := by
  obtain ⟨bd, bt, bw, hhi⟩ := Lib.mul64_hi x y hx hy
  have ba := Lib.half_mul_le (a := x / 4294967296) (b := y / 4294967296) (by omega) (by omega)
  have bb := Lib.half_mul_le (a := x / 4294967296) (b := y % 4294967296) (by omega) (by omega)
  have bc := Lib.half_mul_le (a := x % 4294967296) (b := y / 4294967296) (by omega) (by omega)
  have ba' : x / 4294967296 * (y / 4294967296) < 18446744073709551616 := by omega
  have bb' : x / 4294967296 * (y % 4294967296) < 18446744073709551616 := by omega
  have bc' : x % 4294967296 * (y / 4294967296) < 18446744073709551616 := by omega
  have bh1 : x / 4294967296 * (y / 4294967296) + (x / 4294967296 * (y % 4294967296) + x % 4294967296 * (y % 4294967296) / 4294967296) / 4294967296 < 18446744073709551616 := by omega
  have bh : x / 4294967296 * (y / 4294967296) + (x / 4294967296 * (y % 4294967296) + x % 4294967296 * (y % 4294967296) / 4294967296) / 4294967296 + ((x / 4294967296 * (y % 4294967296) + x % 4294967296 * (y % 4294967296) / 4294967296) % 4294967296 + x % 4294967296 * (y / 4294967296)) / 4294967296 < 18446744073709551616 := by omega
  go_enter Tryz.func230, Tryz.ntmps230
  go_wp2
  simp only [maskN x hx, maskN y hy, divN, mulN, addN, wrapN _ bd, wrapN _ bb', wrapN _ bt, maskN _ bt, wrapN _ bc', wrapN _ bw, wrapN _ ba', wrapN _ bh1, wrapN _ bh, wrapM (x * y)]
  rw [hhi]
  go_ret2
  exact ⟨rfl, rfl⟩
theorem add64_any (x y : Nat) (w : World) : (callFunc 289 #[.int .u64 x, .int .u64 y, .int .u64 0]).run Tryz.prog w =
    .ok (.value (.tuple #[.int .u64 (((x + y) % 18446744073709551616 : Nat) : Int), .int .u64 (((x + y) / 18446744073709551616 : Nat) : Int)])) w := by
  rw [run_callFunc_extern Tryz.func289 (by kernel_rfl) (by kernel_rfl) (by kernel_rfl) (e := add64Entry) (by kernel_rfl), run_add64 x y 0 (by omega) (by omega) (by omega) (by omega)]
  simp only [Result.andThen]
  congr 5 <;> omega
def sub64E : Array Value → Sem Value := fun args => do
  let (x, y, b) ← Extern.MathBitsCarry.three "Sub64" args
  pure (Extern.MathBitsCarry.pair ((x + Extern.MathBitsCarry.m64 - y - b) % Extern.MathBitsCarry.m64) (if x < y + b then 1 else 0))
theorem run_sub64E {P : Program} (x y b : Nat) (hb : b ≤ 1) (w : World) :
    (sub64E #[.int .u64 x, .int .u64 y, .int .u64 b]).run P w =
      .ok (.tuple #[.int .u64 (((x + 18446744073709551616 - y - b) % 18446744073709551616 : Nat) : Int), .int .u64 ((if x < y + b then 1 else 0 : Nat) : Int)]) w := by
  have : b = 0 ∨ b = 1 := by omega
  rcases this with rfl | rfl <;> rfl
/-- the borrow -/
def bro (x y b : Nat) : Nat := if x < y + b then 1 else 0
theorem sub64_any (x y b : Nat) (hb : b ≤ 1) (w : World) : (callFunc 293 #[.int .u64 x, .int .u64 y, .int .u64 b]).run Tryz.prog w =
    .ok (.value (.tuple #[.int .u64 (((x + 18446744073709551616 - y - b) % 18446744073709551616 : Nat) : Int), .int .u64 ((bro x y b : Nat) : Int)])) w := by
  rw [run_callFunc_extern Tryz.func293 (by kernel_rfl) (by kernel_rfl) (by kernel_rfl) (e := sub64E) (by kernel_rfl), run_sub64E x y b hb]
  rfl

end Go.Proofs.YtmpkcioeodlbcaaGreatDoor
namespace Go.Proofs.YtmpkcioeodlbcaaGreatDoor
open RowKit
section
variable {P : Program} (w : World)
theorem append_new (base : Nat) (t ty e : TypeId) (i : TypeInfo) (z : Value) (bytes : Nat) (ht : P.underlying t = some (.slice e)) (hi : P.info? e = some i) (hz : i.zero = some z)
    (hsize : i.size = 1) (hby : i.bytes = bytes) (hzs : z.cells.size = 1)
    (v : Value) (n : Nat) (xs : List Value) (hown : w.ownsRow base e 1 v n xs)
    (a : Addr) (m c : Nat) (news : List Value) (hl : news.length = m * 1) (hnews : ∀ j u, news[j]? = some u → w.cell? (a.add j) = some u) (h1 : ∀ u ∈ news, u.oneCell' = true)
    (h63 : n + m ≤ maxLen) (hbytes : (n + m) * bytes ≤ 140737488355328) (hbase : base ≤ w.heap.size) :
    ∃ v' w', (Builtin.append_ #[t, t] ty #[v, .slice (some a) m c]).run P w = .ok v' w' ∧ w'.ownsRow base e 1 v' (n + m) (xs ++ news) ∧ w.grownBy w' v.ownBlock ∧ (∀ k, Ob v' k → Ob v k ∨ w.heap.size ≤ k) := by
  obtain ⟨v', w', hr, h2, h3, h4⟩ := run_append_own (P := P) w base t ty e i z 1 bytes ht hi hz hsize hby hzs (by decide) v n xs hown a m c news hl hnews h1 h63 hbytes hbase
  refine ⟨v', w', hr, h2, h3, fun k hk => ?_⟩
  rcases hown.2 with ⟨rfl, rfl⟩ | ⟨g, cap, cur, rfl, hbg, hg, hnc, hcm, hcs, htake⟩
  · have e0 : xs = [] := List.eq_nil_of_length_eq_zero (by simpa using hown.1)
    subst e0
    obtain ⟨v2, w2, hr2, k2, _⟩ := run_append_own (P := P) w w.heap.size t ty e i z 1 bytes ht hi hz hsize hby hzs (by decide) (.slice none 0 0) 0 [] (World.ownsRow_nil _ _ _ _) a m c news hl hnews h1 h63 hbytes (Nat.le_refl _)
    have q := hr.symm.trans hr2
    cases q
    exact .inr (k2.lt k hk).1
  · by_cases hroom : n + m ≤ cap
    · obtain ⟨w2, hr2, _⟩ := run_append_fits (P := P) w base t ty e i 1 ht hi hsize g n cap xs hown a m c news hl hnews h1 hroom
      have q := hr.symm.trans hr2
      cases q
      exact .inl hk
    · have hr2 := run_append_grow (P := P) w t ty e i z ht hi hz ⟨g, 0, none⟩ n cap xs (by rw [hsize]; exact hown.1) (hown.cells (g := g) rfl) a m c news (by rw [hsize]; exact hl) hnews (by omega) (by simp only [maxLen] at h63; omega) (growslice_fits (by omega) (by rw [hby]; exact hbytes))
      have q := hr.symm.trans hr2
      cases q
      simp [Ob, Value.ownBlock] at hk
      exact .inr (by omega)
theorem wpList_append_new {ops : Array Oper} {rest : List Oper} {o : Oper} {a : Act} {Q : Exit → Act → World → Prop} (hgd : o.guard = none) (s x : Operand) (t : TypeId)
    (ho : o.op = .call { callee := .builtin .append, args := #[s, x], argTypes := #[t, t] })
    (base : Nat) (e : TypeId) (i : TypeInfo) (z : Value) (bytes : Nat) (ht : P.underlying t = some (.slice e)) (hi : P.info? e = some i) (hz : i.zero = some z)
    (hsize : i.size = 1) (hby : i.bytes = bytes) (hzs : z.cells.size = 1)
    (v : Value) (n : Nat) (xs : List Value) (hs : a.eval s = v) (hown : w.ownsRow base e 1 v n xs)
    (ad : Addr) (m c : Nat) (news : List Value) (hx : a.eval x = .slice (some ad) m c) (hl : news.length = m * 1) (hnews : ∀ j u, news[j]? = some u → w.cell? (ad.add j) = some u) (h1 : ∀ u ∈ news, u.oneCell' = true)
    (h63 : n + m ≤ maxLen) (hbytes : (n + m) * bytes ≤ 140737488355328) (hbase : base ≤ w.heap.size)
    (h : ∀ v' w', w'.ownsRow base e 1 v' (n + m) (xs ++ news) → w.grownBy w' v.ownBlock → (∀ k, Ob v' k → Ob v k ∨ w.heap.size ≤ k) → wpList P ops Q rest (a.put o.dst v') w') : wpList P ops Q (o :: rest) a w := by
  obtain ⟨v', w', hr, h2, h3, h4⟩ := append_new (P := P) w base t o.type e i z bytes ht hi hz hsize hby hzs v n xs hown ad m c news hl hnews h1 h63 hbytes hbase
  refine wpList_plain hgd fun K hK => ?_
  unfold Oper.wp execOp
  simp only [ho, resolve, invoke, builtin, Sem.run_bind, Sem.run_pure, Result.andThen_ok, List.map_toArray, List.map_cons, List.map_nil, hs, hx, hr]
  exact hK _ _ (h v' w' h2 h3 h4)
end
end Go.Proofs.YtmpkcioeodlbcaaGreatDoor
namespace Go.Proofs.YtmpkcioeodlbcaaGreatDoor
open RowKit
theorem mul64_v (x f hi lo : Nat) (hx : x < 18446744073709551616) (hf : f < 18446744073709551616) (h : x * f = hi * 18446744073709551616 + lo) (hlo : lo < 18446744073709551616) (w : World) :
    Calls Tryz.prog 230 #[.int .u64 x, .int .u64 f] w fun e w' => e = .returned (.tuple #[.int .u64 hi, .int .u64 lo]) ∧ w' = w := by
  refine (mul64_any x f hx hf w).mono ?_
  rintro e w' ⟨rfl, rfl⟩
  rw [show x * f / 18446744073709551616 = hi by omega, show x * f % 18446744073709551616 = lo by omega]
  exact ⟨rfl, rfl⟩
theorem add64_v (x y c s : Nat) (h : x + y = c * 18446744073709551616 + s) (hs : s < 18446744073709551616) (w : World) : (callFunc 289 #[.int .u64 x, .int .u64 y, .int .u64 0]).run Tryz.prog w =
    .ok (.value (.tuple #[.int .u64 s, .int .u64 c])) w := by
  rw [add64_any, show (x + y) / 18446744073709551616 = c by omega, show (x + y) % 18446744073709551616 = s by omega]
theorem trim_of_ge {os : List Nat} (h : 0 < os.length → 18446744073709551616 ^ (os.length - 1) ≤ qn os) (hk : okQ os) : trimQ os := by
  intro h0 hz
  have h1 := qn_split os (os.length - 1) (by omega)
  rw [hz, List.drop_of_length_le (by omega), show qn [] = 0 from rfl, Nat.mul_zero, Nat.add_zero] at h1
  have h2 := qn_lt (okQ_take hk (os.length - 1))
  rw [List.length_take, Nat.min_eq_left (by omega)] at h2
  have := h h0
  omega
theorem qt_step {os ws : List Nat} {i m m' f x p y c : Nat} (hl : os.length = ws.length) (hi : i < ws.length) (hx : x = ws.getD i 0) (hp : x * f = p) (hc : p + m' = c * 18446744073709551616 + y) (h : qn (os.take i) + 18446744073709551616 ^ i * m' = qn (ws.take i) * f + m) :
    qn ((os.set i y).take (i + 1)) + 18446744073709551616 ^ (i + 1) * c = qn (ws.take (i + 1)) * f + m := by
  rw [qn_take_succ _ i (by simpa using by omega), qn_take_succ ws i hi, ← hx, List.take_set_of_le (Nat.le_refl _)]
  have e : (os.set i y).getD i 0 = y := by simp [List.getD_eq_getElem?_getD, hl, hi]
  rw [e, Nat.add_mul, Nat.mul_assoc, hp, Nat.pow_succ]
  generalize 18446744073709551616 ^ i = B at *
  have e2 : B * y + B * 18446744073709551616 * c = B * p + B * m' := by
    rw [← Nat.mul_add, hc, Nat.mul_add, Nat.mul_comm c, Nat.mul_assoc, Nat.add_comm]
  omega
theorem okQ_set {os : List Nat} (h : okQ os) (i y : Nat) (hy : y < 18446744073709551616) : okQ (os.set i y) := by
  intro x hx
  rcases List.mem_or_eq_of_mem_set hx with h1 | h1
  · exact h x h1
  · omega
theorem drop_set_succ (os : List Nat) (i y : Nat) : (os.set i y).drop (i + 1) = os.drop (i + 1) := by
  rw [List.drop_set, if_pos (by omega)]
theorem drop_get {os ws : List Nat} {i : Nat} (hl : os.length = ws.length) (hi : i < ws.length) (h : os.drop i = ws.drop i) : os.getD i 0 = ws.getD i 0 ∧ os.drop (i + 1) = ws.drop (i + 1) := by
  rw [List.drop_eq_getElem_cons (by omega : i < os.length), List.drop_eq_getElem_cons hi] at h
  simp only [List.cons.injEq] at h
  refine ⟨?_, h.2⟩
  simp [List.getD_eq_getElem?_getD, hl, hi, h.1]
/-- the last part of times: the carry is laid behind, or not -/
theorem qt_end {os : List Nat} {z f m m' : Nat} (hk : okQ os) (hm : m' < 18446744073709551616) (hf : 1 ≤ f) (h : qn os + 18446744073709551616 ^ os.length * m' = z * f + m) (hz : 0 < os.length → 18446744073709551616 ^ (os.length - 1) ≤ z) :
    (m' = 0 → trimQ os ∧ qn os = z * f + m) ∧ (m' ≠ 0 → trimQ (os ++ [m']) ∧ okQ (os ++ [m']) ∧ qn (os ++ [m']) = z * f + m) := by
  refine ⟨fun h0 => ?_, fun h0 => ⟨?_, okQ_append hk (fun x hx => by simp at hx; omega), ?_⟩⟩
  · subst h0
    rw [Nat.mul_zero, Nat.add_zero] at h
    refine ⟨trim_of_ge (fun h0 => ?_) hk, h⟩
    have h1 := hz h0
    have h2 : z * 1 ≤ z * f := Nat.mul_le_mul_left _ hf
    omega
  · intro _
    simp [List.getD_eq_getElem?_getD]; exact h0
  · rw [qn_append, ← h]; simp [qn]
set_option maxRecDepth 10000 in
set_option maxHeartbeats 2000000 in
theorem qtimes_any (v : Value) (base z L f m : Nat) (w : World) (hv : Wh w base v z L) (hL : L ≤ 100000) (hf : f < 18446744073709551616) (hm : m < 18446744073709551616) (hf1 : 1 ≤ f) (hbase : base ≤ w.heap.size) :
    Calls Tryz.prog 261 #[v, .int .u64 f, .int .u64 m] w fun e w' => ∃ v', e = .returned v' ∧ Wh w' base v' (z * f + m) (L + 1) ∧ Only (Ob v) w w' ∧ (∀ k, Ob v' k → Ob v k ∨ w.heap.size ≤ k) := by
  obtain ⟨ws, hown, hok, htr, hz, hl⟩ := hv
  obtain ⟨i0, hi0, hz0, hz1, hz2⟩ := info_parts3 Tryz.info64
  have HZ : Hid (0 < ws.length → 18446744073709551616 ^ (ws.length - 1) ≤ z) := fun h => by rw [← hz]; exact qn_ge htr h
  subst hz
  obtain ⟨ao, cap, hve⟩ : ∃ ao cap, v = .slice ao ws.length cap := by
    rcases hown.2 with ⟨hv, hn0⟩ | ⟨g, cap, cur, hv, hb, hg, hnc, hcm, hcs, htake⟩
    · exact ⟨none, 0, by rw [hn0]; exact hv⟩
    · exact ⟨_, _, hv⟩
  subst hve
  have hgo : ∀ k, Ob (.slice ao ws.length cap) k → ∃ g, ao = some ⟨g, 0, none⟩ ∧ k = g ∧ g < w.heap.size ∧ base ≤ g := by
    intro k hk
    rcases hown.2 with ⟨hv, hn0⟩ | ⟨g, cap, cur, hv, hb, hg, hnc, hcm, hcs, htake⟩
    · simp only [Value.slice.injEq] at hv; rw [hv.1] at hk; simp [Ob, Value.ownBlock] at hk
    · cases hv; simp [Ob, Value.ownBlock] at hk; exact ⟨g, rfl, hk.symm, (Array.getElem?_eq_some_iff.1 hg).1, hb⟩
  go_enter Tryz.func261, Tryz.ntmps261
  go_wp2
  go_loopw [2, 14] (fun mv iv wr => ∃ (i m' : Nat) (os : List Nat), mv = .int .u64 m' ∧ iv = .int .i64 i ∧ i ≤ ws.length ∧ m' < 18446744073709551616 ∧ os.length = ws.length ∧ okQ os ∧ os.drop i = ws.drop i ∧ qn (os.take i) + 18446744073709551616 ^ i * m' = qn (ws.take i) * f + m ∧ wr.ownsRow base 47 1 (.slice ao ws.length cap) ws.length (qv os) ∧ Only (Ob (.slice ao ws.length cap)) w wr ∧ wr.heap.size = w.heap.size) (fun _ iv _ => ws.length - (intOf iv).toNat)
  case atStart => exact ⟨0, m, ws, rfl, rfl, Nat.zero_le _, hm, rfl, hok, rfl, by simp [qn], hown, Only.refl _ _, rfl⟩
  case round =>
    obtain ⟨i, m', os, rfl, rfl, hi, hm', hol, hok', hdr, hnum, hown', honly, hsz'⟩ := hrel
    have hsz : Hid (wr.heap.size = w.heap.size) := hsz'
    clear hsz'
    by_cases hlt : i < ws.length
    · obtain ⟨g, rfl, hgg⟩ : ∃ g, ao = some ⟨g, 0, none⟩ ∧ g < w.heap.size := by
        rcases hown.2 with ⟨hv, hn0⟩ | ⟨g, cap, cur, hv, hb, hg, hnc, hcm, hcs, htake⟩
        · omega
        · cases hv; exact ⟨g, rfl, (Array.getElem?_eq_some_iff.1 hg).1⟩
      have hcap : ws.length ≤ cap := by
        rcases hown.2 with ⟨hv, hn0⟩ | ⟨g, cap, cur, hv, hb, hg, hnc, hcm, hcs, htake⟩
        · omega
        · cases hv; exact hnc
      obtain ⟨x, hx⟩ : ∃ x, x = ws.getD i 0 := ⟨_, rfl⟩
      obtain ⟨hox, hdr'⟩ := drop_get hol hlt hdr
      have hxk : x < 18446744073709551616 := by rw [hx]; exact okQ_getD hok i
      have hcell := hown'.cellAt i (by omega)
      have hfz := hown'.frozenAt i
      rw [qv_get _ _ (by omega), hox, ← hx] at hcell
      obtain ⟨p, hp⟩ : ∃ p, x * f = p := ⟨_, rfl⟩
      have hpb : p ≤ 18446744073709551615 * 18446744073709551615 := by rw [← hp]; exact Nat.mul_le_mul (by omega) (by omega)
      obtain ⟨hi', lo, hlo, hhl⟩ : ∃ hi' lo : Nat, lo < 18446744073709551616 ∧ p = hi' * 18446744073709551616 + lo := ⟨p / 18446744073709551616, p % 18446744073709551616, Nat.mod_lt _ (by omega), by omega⟩
      obtain ⟨c, y, hy, hcy⟩ : ∃ c y : Nat, y < 18446744073709551616 ∧ lo + m' = c * 18446744073709551616 + y := ⟨(lo + m') / 18446744073709551616, (lo + m') % 18446744073709551616, Nat.mod_lt _ (by omega), by omega⟩
      have hst := qt_step (c := hi' + c) (y := y) hol hlt hx hp (by omega) hnum
      have hsum : hi' + c < 18446744073709551616 := by omega
      have hsumI : (hi' : Int) + (c : Int) < 18446744073709551616 := by omega
      have hso := hown'.stored i (.int .u64 (y : Int))
      rw [qv_set] at hso
      have HST : Hid (qn ((os.set i y).take (i + 1)) + 18446744073709551616 ^ (i + 1) * (hi' + c) = qn (ws.take (i + 1)) * f + m) := hst
      have HSO : Hid ((wr.setCell ⟨g, i, none⟩ (.int .u64 (y : Int))).ownsRow base 47 1 (.slice (some ⟨g, 0, none⟩) ws.length cap) ws.length (qv (os.set i y))) := hso.1
      have HON : Hid (Only (Ob (.slice (some ⟨g, 0, none⟩) ws.length cap)) w wr) := honly
      have HDR : Hid ((os.set i y).drop (i + 1) = ws.drop (i + 1)) := by show _ = _; rw [drop_set_succ]; exact hdr'
      have HOK : Hid (okQ (os.set i y)) := okQ_set hok' i y hy
      have HM : Hid (x * f = hi' * 18446744073709551616 + lo) := by show _ = _; rw [hp]; exact hhl
      have HC : Hid (lo + m' = c * 18446744073709551616 + y) := hcy
      clear hst hso honly hdr hdr' hok' hnum hhl hcy hpb hp hx hox hown' hown hok htr hgo
      go_wp2_with (first
        | (go_at_call 230; (with_reducible refine (mul64_v x f hi' lo hxk hf HM.out hlo _).mono ?_); rintro e w' ⟨rfl, rfl⟩)
        | simp only [add64_v lo m' c y HC.out hy])
      go_roundw
      case rel => exact ⟨i + 1, hi' + c, os.set i y, by first | rfl | (exact congrArg (Value.int .u64) (by omega)) | (simp; omega), by go_num, hlt, hsum, by simpa using hol, HOK.out, HDR.out, HST.out, HSO.out, HON.out.set _ _ (.inl rfl), by simpa using hsz.out⟩
      case measure => simp [intOf]; omega
    · have e : i = ws.length := by omega
      subst e
      rw [List.take_of_length_le (by omega), List.take_of_length_le (by omega), ← hol] at hnum
      obtain ⟨E1, E2⟩ := qt_end hok' hm' hf1 hnum (by rw [hol]; exact HZ.out)
      by_cases hm0 : m' = 0
      · subst hm0
        have HE := E1 rfl
        clear E1 E2 hnum hdr
        go_wp2
        go_ret
        exact ⟨_, rfl, ⟨os, by rw [hol]; exact hown', hok', HE.1, HE.2, by omega⟩, honly, fun k hk => .inl hk⟩
      · have hmI : ((m' : Int) == 0) = false := by simp; omega
        obtain ⟨f1, f2, f3⟩ := E2 hm0
        clear E1 E2 hnum hdr
        go_wp2_with (first
          | (at_builtin; refine wpList_append_new _ rfl _ _ 288 rfl base 47 i0 (.int .u64 0) 8 Tryz.underlying288 hi0 hz0 hz1 hz2 rfl _ _ _ rfl (hown'.alloc _) ⟨_, 0, none⟩ 1 1 [.int .u64 (m' : Int)] rfl rfl ?c1 ?c2 ?c3 ?c4 ?c5 ?_))
        case c1 =>
          intro j u hj
          match j, hj with
          | 0, hj =>
            simp at hj; subst hj
            simp [Addr.add]
        case c2 => intro u hu; simp at hu; subst hu; rfl
        case c3 => unfold maxLen; omega
        case c4 => omega
        case c5 => have := hsz.out; simp; omega
        · intro v' w1 hown1 hgrow hfr
          have R2 : Only (Ob (.slice ao ws.length cap)) w w1 := (honly.alloc _).grown hgrow (fun i hi => .inl hi)
          have R : w1.ownsRow base 47 1 v' (os ++ [m']).length (qv (os ++ [m'])) := by
            rw [← qv_snoc]; simpa [hol] using hown1
          clear hown1 hgrow hown' hown
          go_wp2
          go_ret
          refine ⟨_, rfl, ⟨os ++ [m'], R, f2, f1, f3, by simp; omega⟩, R2, fun k hk => ?_⟩
          rcases hfr k hk with h | h
          · exact .inl h
          · have := hsz.out; exact .inr (by omega)

end Go.Proofs.YtmpkcioeodlbcaaGreatDoor
namespace Go.Proofs.YtmpkcioeodlbcaaGreatDoor
open RowKit
/-- what a list of words in memory reads as -/
def RdQ (w : World) (ao : Option Addr) (ws : List Nat) : Prop :=
  ∀ k, k < ws.length → ∃ b, ao = some ⟨b, 0, none⟩ ∧ b < w.heap.size ∧ w.cell? ⟨b, k, none⟩ = some (.int .u64 ((ws.getD k 0 : Nat) : Int))
theorem RdQ.drewN {w : World} {ao : Option Addr} {ws : List Nat} (h : RdQ w ao ws) (n : Nat) : RdQ (w.drewN n) ao ws := h
theorem own_rd {w : World} {base : Nat} {v : Value} {ws : List Nat} (h : w.ownsRow base 47 1 v ws.length (qv ws)) : ∃ ao cap, v = .slice ao ws.length cap ∧ RdQ w ao ws ∧ ws.length ≤ cap ∧ (ws.length = 0 ∨ ∃ g, ao = some ⟨g, 0, none⟩) := by
  rcases h.2 with ⟨hv, h0⟩ | ⟨g, cap, cur, hv, hb, hg, hnc, _, _, htake⟩
  · refine ⟨none, 0, by rw [h0]; exact hv, fun k hk => by omega, by omega, .inl h0⟩
  · refine ⟨some ⟨g, 0, none⟩, cap, hv, fun k hk => ⟨g, rfl, (Array.getElem?_eq_some_iff.1 hg).1, ?_⟩, hnc, .inr ⟨g, rfl⟩⟩
    subst hv
    rw [h.cellAt k (by omega), qv_get _ _ hk]
theorem cmpI_any (x y : Nat) (w : World) : Calls Tryz.prog 291 #[.int .i64 x, .int .i64 y] w fun e w' => e = .returned (.int .i64 (cmI x y)) ∧ w' = w := by
  rcases Nat.lt_trichotomy x y with h | h | h
  · have h1 : (x : Int) < y := by omega
    go_enter Tryz.func291, Tryz.ntmps291
    go_wp2
    go_ret
    exact ⟨ret1i (by unfold cmI; rw [if_pos h]), rfl⟩
  · subst h
    go_enter Tryz.func291, Tryz.ntmps291
    go_wp2
    go_ret
    exact ⟨ret1i (by unfold cmI; rw [if_neg (by omega), if_pos rfl]), rfl⟩
  · have h2 : ¬ (x : Int) < y := by omega
    have h3 : (y : Int) < x := by omega
    go_enter Tryz.func291, Tryz.ntmps291
    go_wp2
    go_ret
    exact ⟨ret1i (by unfold cmI; rw [if_neg (by omega), if_neg (by omega)]), rfl⟩
theorem cmpU_any (x y : Nat) (w : World) : Calls Tryz.prog 292 #[.int .u64 x, .int .u64 y] w fun e w' => e = .returned (.int .i64 (cmI x y)) ∧ w' = w := by
  rcases Nat.lt_trichotomy x y with h | h | h
  · have h1 : (x : Int) < y := by omega
    go_enter Tryz.func292, Tryz.ntmps292
    go_wp2
    go_ret
    exact ⟨ret1i (by unfold cmI; rw [if_pos h]), rfl⟩
  · subst h
    go_enter Tryz.func292, Tryz.ntmps292
    go_wp2
    go_ret
    exact ⟨ret1i (by unfold cmI; rw [if_neg (by omega), if_pos rfl]), rfl⟩
  · have h2 : ¬ (x : Int) < y := by omega
    have h3 : (y : Int) < x := by omega
    go_enter Tryz.func292, Tryz.ntmps292
    go_wp2
    go_ret
    exact ⟨ret1i (by unfold cmI; rw [if_neg (by omega), if_neg (by omega)]), rfl⟩
set_option maxHeartbeats 1000000 in
theorem qcmp_any {va vb : Value} {ba bb x y La Lb : Nat} (w : World) (ha : Wh w ba va x La) (hb : Wh w bb vb y Lb) (hLa : La ≤ 200000) (_ : Lb ≤ 200000) :
    Calls Tryz.prog 265 #[va, vb] w fun e w' => ∃ n, e = .returned (.int .i64 (cmI x y)) ∧ w' = w.drewN n := by
  obtain ⟨us, hoa, ka, ta, nu, hla⟩ := ha
  obtain ⟨vs, hob, kb, tb, nv, hlb⟩ := hb
  obtain ⟨ao, ca, rfl, hc, hca, _⟩ := own_rd hoa
  obtain ⟨bo, cb, rfl, hd, hcb, _⟩ := own_rd hob
  subst nu
  subst nv
  clear hoa hob
  rcases Nat.lt_trichotomy us.length vs.length with hl | hl | hl
  · have h1 := cmq_len ka tb hl
    have hr : Hid (cmI (qn us) (qn vs) = cmI us.length vs.length) := by show _ = _; unfold cmI; rw [if_pos h1, if_pos hl]
    have ht : ((us.length : Int) == (vs.length : Int)) = false := by simp; omega
    clear hc hd ka kb ta tb h1
    go_enter Tryz.func265, Tryz.ntmps265
    go_wp2_with (go_at_call 291; (with_reducible refine (cmpI_any _ _ _).mono ?_); rintro e w' ⟨rfl, rfl⟩)
    go_ret
    exact ⟨0, ret1i hr.out.symm, rfl⟩
  · go_enter Tryz.func265, Tryz.ntmps265
    go_wp2_with (go_at_call 291; (with_reducible refine (cmpI_any _ _ _).mono ?_); rintro e w' ⟨rfl, rfl⟩)
    go_loopw [5] (fun iv wr => ∃ (i n : Nat), i ≤ us.length ∧ iv = .int .i64 ((i : Int) - 1) ∧ us.drop i = vs.drop i ∧ wr = w.drewN n) (fun iv _ => (intOf iv + 1).toNat)
    case atStart =>
      refine ⟨us.length, 0, Nat.le_refl _, ?_, by rw [List.drop_length, hl, List.drop_length], rfl⟩
      first | rfl | (simp; omega) | (go_num)
    case round =>
      obtain ⟨i, n, hi, rfl, hdr, hw⟩ := hrel
      have HD : Hid (us.drop i = vs.drop i) := hdr
      have HW : Hid (wr = w.drewN n) := hw
      have hc' : RdQ wr ao us := by rw [hw]; exact hc.drewN n
      have hd' : RdQ wr bo vs := by rw [hw]; exact hd.drewN n
      clear hdr hw hc hd
      by_cases h0 : 0 < i
      · obtain ⟨b1, rfl, hb1, hc1⟩ := hc' (i - 1) (by omega)
        obtain ⟨b2, rfl, hb2, hc2⟩ := hd' (i - 1) (by omega)
        obtain ⟨x, hx⟩ : ∃ x, x = us.getD (i - 1) 0 := ⟨_, rfl⟩
        obtain ⟨y, hy⟩ : ∃ y, y = vs.getD (i - 1) 0 := ⟨_, rfl⟩
        rw [← hx] at hc1
        rw [← hy] at hc2
        have HX : Hid (x = us.getD (i - 1) 0) := hx
        have HY : Hid (y = vs.getD (i - 1) 0) := hy
        have ei : (i : Int) - 1 = ((i - 1 : Nat) : Int) := by omega
        obtain ⟨j, hj⟩ : ∃ j, i = j + 1 := ⟨i - 1, by omega⟩
        subst hj
        simp only [Nat.add_sub_cancel] at hc1 hc2 HX HY ei
        clear hx hy hc' hd'
        rw [ei]
        clear ei
        rcases Nat.lt_trichotomy x y with hxy | hxy | hxy
        · have hr : Hid (cmI (qn us) (qn vs) = cmI x y) := by
            show cmI _ _ = _; unfold cmI; rw [if_pos (cmq_at ka hl (by omega) HD.out (by rw [← HX.out, ← HY.out]; exact hxy)), if_pos hxy]
          have hne : ((x : Int) == (y : Int)) = false := by simp; omega
          clear ka kb ta tb
          go_wp2
          go_quiet (fail)
          go_wp2
          go_region_with (go_at_call 292; (with_reducible refine (cmpU_any _ _ _).mono ?_); rintro e w' ⟨rfl, rfl⟩)
          all_goals (go_wp2; go_ret; exact ⟨n + nq + 1, ret1i hr.out.symm, by rw [HW.out, World.drewN_drewN]; rfl⟩)
        · subst hxy
          have hdn : us.drop j = vs.drop j := by
            rw [List.drop_eq_getElem_cons (by omega : j < us.length), List.drop_eq_getElem_cons (by omega : j < vs.length), HD.out]
            congr 1
            have h1 := HX.out
            have h2 := HY.out
            rw [List.getD_eq_getElem?_getD] at h1 h2
            simp [show j < us.length by omega] at h1
            simp [show j < vs.length by omega] at h2
            rw [← h1, ← h2]
          have HN : Hid (us.drop j = vs.drop j) := hdn
          clear hdn ka kb ta tb
          go_wp2
          go_quiet (fail)
          go_wp2
          go_roundw
          case rel => exact ⟨j, _, by omega, rfl, HN.out, by rw [HW.out, World.drewN_drewN]⟩
          case measure => simp [intOf]
        · have hr : Hid (cmI (qn us) (qn vs) = cmI x y) := by
            have := cmq_at kb hl.symm (by omega) HD.out.symm (by rw [← HX.out, ← HY.out]; exact hxy)
            show cmI _ _ = _; unfold cmI; rw [if_neg (by omega), if_neg (by omega), if_neg (by omega), if_neg (by omega)]
          have hne : ((x : Int) == (y : Int)) = false := by simp; omega
          clear ka kb ta tb
          go_wp2
          go_quiet (fail)
          go_wp2
          go_region_with (go_at_call 292; (with_reducible refine (cmpU_any _ _ _).mono ?_); rintro e w' ⟨rfl, rfl⟩)
          all_goals (go_wp2; go_ret; exact ⟨n + nq + 1, ret1i hr.out.symm, by rw [HW.out, World.drewN_drewN]; rfl⟩)
      · have e : i = 0 := by omega
        subst e
        have hr : Hid (cmI (qn us) (qn vs) = 0) := by
          have := HD.out
          simp at this
          show cmI _ _ = _; rw [this]; unfold cmI; rw [if_neg (by omega), if_pos rfl]
        clear ka kb ta tb hc' hd'
        go_wp2
        go_ret
        exact ⟨n, ret1i hr.out.symm, HW.out⟩
  · have h1 := cmq_len kb ta hl
    have hr : Hid (cmI (qn us) (qn vs) = cmI us.length vs.length) := by show _ = _; unfold cmI; rw [if_neg (by omega), if_neg (by omega), if_neg (by omega), if_neg (by omega)]
    have ht : ((us.length : Int) == (vs.length : Int)) = false := by simp; omega
    clear hc hd ka kb ta tb h1
    go_enter Tryz.func265, Tryz.ntmps265
    go_wp2_with (go_at_call 291; (with_reducible refine (cmpI_any _ _ _).mono ?_); rintro e w' ⟨rfl, rfl⟩)
    go_ret
    exact ⟨0, ret1i hr.out.symm, rfl⟩

end Go.Proofs.YtmpkcioeodlbcaaGreatDoor
namespace Go.Proofs.YtmpkcioeodlbcaaGreatDoor
open RowKit
theorem sub64_v (x y b d c : Nat) (h : d + y + b = x + c * 18446744073709551616) (hd : d < 18446744073709551616) (hb : b ≤ 1) (hx : x < 18446744073709551616) (hy : y < 18446744073709551616) (w : World) : (callFunc 293 #[.int .u64 x, .int .u64 y, .int .u64 b]).run Tryz.prog w =
    .ok (.value (.tuple #[.int .u64 d, .int .u64 c])) w := by
  have hc : c ≤ 1 := by omega
  have e2 : bro x y b = c := by
    unfold bro
    split <;> omega
  rw [sub64_any x y b hb, e2, show (x + 18446744073709551616 - y - b) % 18446744073709551616 = d by omega]
theorem sub64_z (x b d c : Nat) (h : d + 0 + b = x + c * 18446744073709551616) (hd : d < 18446744073709551616) (hb : b ≤ 1) (hx : x < 18446744073709551616) (w : World) : (callFunc 293 #[.int .u64 x, .int .u64 0, .int .u64 b]).run Tryz.prog w =
    .ok (.value (.tuple #[.int .u64 d, .int .u64 c])) w := sub64_v x 0 b d c h hd hb hx (by omega) w
def lenS : Value → Nat | .slice _ n _ => n | _ => 0
theorem ob_len {ao : Option Addr} {n m c d k : Nat} (h : Ob (.slice ao n c) k) : Ob (.slice ao m d) k := by
  cases ao <;> exact h
theorem own_take {w : World} {base n m : Nat} {e : TypeId} {ao : Option Addr} {cap : Nat} {xs : List Value} (h : w.ownsRow base e 1 (.slice ao n cap) n xs) (hm : m ≤ n) (h0 : 0 < n) : w.ownsRow base e 1 (.slice ao m cap) m (xs.take m) := by
  refine ⟨by rw [List.length_take, h.1]; omega, ?_⟩
  rcases h.2 with ⟨_, h1⟩ | ⟨g, cap', cur, hv, hb, hg, hnc, hcm, hcs, htake⟩
  · omega
  · cases hv
    refine .inr ⟨g, cap, cur, rfl, hb, hg, by omega, hcm, hcs, ?_⟩
    rw [← htake, List.take_take]; congr 1; omega
theorem qv_take (ws : List Nat) (m : Nat) : (qv ws).take m = qv (ws.take m) := by unfold qv; rw [List.map_take]
theorem qs_step {os us vs : List Nat} {i b x y d c : Nat} (hl : os.length = us.length) (hi : i < us.length) (hx : x = us.getD i 0) (hy : y = vs.getD i 0) (h : d + y + b = x + c * 18446744073709551616) (hn : qn (os.take i) + qn (vs.take i) = qn (us.take i) + 18446744073709551616 ^ i * b) :
    qn ((os.set i d).take (i + 1)) + qn (vs.take (i + 1)) = qn (us.take (i + 1)) + 18446744073709551616 ^ (i + 1) * c := by
  have tk : qn (vs.take (i + 1)) = qn (vs.take i) + 18446744073709551616 ^ i * y := by
    rw [hy]
    rcases Nat.lt_or_ge i vs.length with h1 | h1
    · exact qn_take_succ vs i h1
    · rw [List.take_of_length_le h1, List.take_of_length_le (by omega), List.getD_eq_getElem?_getD, List.getElem?_eq_none h1]; simp
  rw [qn_take_succ _ i (by simpa using by omega), qn_take_succ us i hi, ← hx, List.take_set_of_le (Nat.le_refl _), tk]
  have e : (os.set i d).getD i 0 = d := by simp [List.getD_eq_getElem?_getD, hl, hi]
  rw [e, Nat.pow_succ]
  generalize 18446744073709551616 ^ i = B at *
  have e2 : B * d + B * y + B * b = B * x + B * 18446744073709551616 * c := by
    rw [← Nat.mul_add, ← Nat.mul_add, h, Nat.mul_add, Nat.mul_comm c, Nat.mul_assoc]
  omega
theorem qs_len {us vs : List Nat} (ku : okQ us) (tv : trimQ vs) (h : qn vs ≤ qn us) : vs.length ≤ us.length := by
  rcases Nat.lt_or_ge us.length vs.length with h1 | h1
  · have := cmq_len ku tv h1; omega
  · exact h1
theorem qs_end {os us vs : List Nat} {b : Nat} (hl : os.length = us.length) (ko : okQ os) (h : qn vs ≤ qn us) (hv : vs.length ≤ us.length) (hn : qn (os.take us.length) + qn (vs.take us.length) = qn (us.take us.length) + 18446744073709551616 ^ us.length * b) : qn os = qn us - qn vs := by
  rw [List.take_of_length_le (by omega), List.take_of_length_le hv, List.take_of_length_le (by omega)] at hn
  have h1 := qn_lt ko
  rw [hl] at h1
  rcases Nat.eq_zero_or_pos b with h0 | h0
  · subst h0; omega
  · have : 18446744073709551616 ^ us.length * 1 ≤ 18446744073709551616 ^ us.length * b := Nat.mul_le_mul_left _ h0
    omega
set_option maxRecDepth 10000 in
set_option maxHeartbeats 2000000 in
theorem qminus_any {va vb : Value} {base bb x y La Lb : Nat} (w : World) (ha : Wh w base va x La) (hb : Wh w bb vb y Lb) (hyx : y ≤ x) (hap : ∀ k, Ob va k → ¬ Ob vb k) (hLa : La ≤ 200000) :
    Calls Tryz.prog 266 #[va, vb] w fun e w' => ∃ v', e = .returned v' ∧ Wh w' base v' (x - y) La ∧ Only (Ob va) w w' ∧ (∀ k, Ob v' k → Ob va k) := by
  obtain ⟨us, hoa, ka, ta, nu, hla⟩ := ha
  obtain ⟨vs, hob, kb, tb, nv, hlb⟩ := hb
  subst nu
  subst nv
  have hvl := qs_len ka tb hyx
  obtain ⟨ao, ca, rfl, _, hca, hsh⟩ := own_rd hoa
  obtain ⟨bo, cb, hvb, hrb, hcb, _⟩ := own_rd hob
  subst hvb
  clear hrb
  have hcm : ca ≤ maxLen := by
    rcases hoa.2 with ⟨hv, h0⟩ | ⟨g, cap, cur, hv, hb, hg, hnc, hcm, hcs, htake⟩
    · simp only [Value.slice.injEq] at hv; rw [hv.2.2]; unfold maxLen; omega
    · cases hv; exact hcm
  go_enter Tryz.func266, Tryz.ntmps266
  go_wp2
  go_loopw [5, 10] (fun bv iv wr => ∃ (i b : Nat) (os : List Nat), bv = .int .u64 b ∧ iv = .int .i64 i ∧ i ≤ us.length ∧ b ≤ 1 ∧ os.length = us.length ∧ okQ os ∧ os.drop i = us.drop i ∧ qn (os.take i) + qn (vs.take i) = qn (us.take i) + 18446744073709551616 ^ i * b ∧ wr.ownsRow base 47 1 (.slice ao us.length ca) us.length (qv os) ∧ Only (Ob (.slice ao us.length ca)) w wr) (fun _ iv _ => us.length - (intOf iv).toNat)
  case atStart => exact ⟨0, 0, us, rfl, rfl, Nat.zero_le _, by omega, rfl, ka, rfl, by simp [qn], hoa, Only.refl _ _⟩
  case round =>
    obtain ⟨i, b, os, rfl, rfl, hi, hb1, hol, hok', hdr, hnum, hown', honly⟩ := hrel
    by_cases hlt : i < us.length
    · obtain ⟨g, rfl⟩ : ∃ g, ao = some ⟨g, 0, none⟩ := by
        rcases hsh with h | h
        · omega
        · exact h
      have hob' := ownsRow_only hob honly (fun k hk hk2 => hap k hk2 hk)
      obtain ⟨bo', cb', hvb, hrb, _⟩ := own_rd hob'
      simp only [Value.slice.injEq] at hvb
      obtain ⟨rfl, _, rfl⟩ := hvb
      obtain ⟨x, hx⟩ : ∃ x, x = us.getD i 0 := ⟨_, rfl⟩
      obtain ⟨y, hy⟩ : ∃ y, y = vs.getD i 0 := ⟨_, rfl⟩
      obtain ⟨hox, hdr'⟩ := drop_get hol hlt hdr
      have hxk : x < 18446744073709551616 := by rw [hx]; exact okQ_getD ka i
      have hyk : y < 18446744073709551616 := by rw [hy]; exact okQ_getD kb i
      have hcell := hown'.cellAt i (by omega)
      have hfz := hown'.frozenAt i
      rw [qv_get _ _ (by omega), hox, ← hx] at hcell
      obtain ⟨d, c, hd, hc1, hdc⟩ : ∃ d c : Nat, d < 18446744073709551616 ∧ c ≤ 1 ∧ d + y + b = x + c * 18446744073709551616 := by
        by_cases h : x < y + b
        · exact ⟨x + 18446744073709551616 - y - b, 1, by omega, by omega, by omega⟩
        · exact ⟨x - y - b, 0, by omega, by omega, by omega⟩
      have hst := qs_step hol hlt hx hy hdc hnum
      have hso := hown'.stored i (.int .u64 (d : Int))
      rw [qv_set] at hso
      have HST : Hid (qn ((os.set i d).take (i + 1)) + qn (vs.take (i + 1)) = qn (us.take (i + 1)) + 18446744073709551616 ^ (i + 1) * c) := hst
      have HSO : Hid ((wr.setCell ⟨g, i, none⟩ (.int .u64 (d : Int))).ownsRow base 47 1 (.slice (some ⟨g, 0, none⟩) us.length ca) us.length (qv (os.set i d))) := hso.1
      have HON : Hid (Only (Ob (.slice (some ⟨g, 0, none⟩) us.length ca)) w wr) := honly
      have HDR : Hid ((os.set i d).drop (i + 1) = us.drop (i + 1)) := by show _ = _; rw [drop_set_succ]; exact hdr'
      have HOK : Hid (okQ (os.set i d)) := okQ_set hok' i d hd
      have HC : Hid (d + y + b = x + c * 18446744073709551616) := hdc
      clear hst hso honly hdr hdr' hok' hnum hdc hx hox hown' hoa hob ka kb ta tb hap hob' hyx hsh
      by_cases hlv : i < vs.length
      · obtain ⟨b2, rfl, hb2, hc2⟩ := hrb i hlv
        rw [← hy] at hc2
        clear hrb hy
        go_wp2_with (first | simp only [sub64_v x y b d c HC.out hd hb1 hxk hyk])
        go_roundw
        case rel => exact ⟨i + 1, c, os.set i d, rfl, by go_num, hlt, hc1, by simpa using hol, HOK.out, HDR.out, HST.out, HSO.out, HON.out.set _ _ (.inl rfl)⟩
        case measure => simp [intOf]; omega
      · have hy0 : y = 0 := by rw [hy, List.getD_eq_getElem?_getD, List.getElem?_eq_none (by omega)]; rfl
        subst hy0
        clear hrb hy
        go_wp2_with (first | simp only [sub64_z x b d c HC.out hd hb1 hxk])
        go_roundw
        case rel => exact ⟨i + 1, c, os.set i d, rfl, by go_num, hlt, hc1, by simpa using hol, HOK.out, HDR.out, HST.out, HSO.out, HON.out.set _ _ (.inl rfl)⟩
        case measure => simp [intOf]; omega
    · have e : i = us.length := by omega
      subst e
      have hq := qs_end hol hok' hyx hvl hnum
      clear hnum hdr hob tb kb ta hap hoa
      go_wp2
      go_loopw [0] (fun sv wq => ∃ m : Nat, sv = .slice ao m ca ∧ m ≤ us.length ∧ (∀ j, m ≤ j → os.getD j 0 = 0) ∧ wq = wr) (fun sv _ => lenS sv)
      case atStart => exact ⟨us.length, rfl, Nat.le_refl _, fun j hj => by rw [List.getD_eq_getElem?_getD, List.getElem?_eq_none (by omega)]; rfl, rfl⟩
      case round =>
        obtain ⟨m, rfl, hm, hz, rfl⟩ := hrel
        have HQ : Hid (qn os = qn us - qn vs) := hq
        have HZ : Hid (∀ j, m ≤ j → os.getD j 0 = 0) := hz
        have HON : Hid (Only (Ob (.slice ao us.length ca)) w wr) := honly
        clear hq hz honly
        by_cases h0 : 0 < m
        · obtain ⟨g, rfl⟩ : ∃ g, ao = some ⟨g, 0, none⟩ := by
            rcases hsh with h | h
            · omega
            · exact h
          have hcell := hown'.cellAt (m - 1) (by omega)
          rw [qv_get _ _ (by omega)] at hcell
          obtain ⟨x, hx⟩ : ∃ x, x = os.getD (m - 1) 0 := ⟨_, rfl⟩
          rw [← hx] at hcell
          have HX : Hid (x = os.getD (m - 1) 0) := hx
          have ei : (m : Int) - 1 = ((m - 1 : Nat) : Int) := by omega
          clear hx
          by_cases hx0 : x = 0
          · subst hx0
            go_wp2
            go_roundw
            case rel =>
              refine ⟨m - 1, ?_, by omega, ?_, by first | rfl | trivial⟩
              · first | rfl | (simp; omega) | (simp)
              · intro j hj
                by_cases hjm : j = m - 1
                · rw [hjm]; exact HX.out.symm
                · exact HZ.out j (by omega)
            case measure => simp [lenS]; omega
          · have hxi : ((x : Int) == 0) = false := by simp; omega
            go_wp2
            go_ret
            have hr := own_take hown' hm (by omega)
            rw [qv_take] at hr
            have hl2 : (os.take m).length = m := by rw [List.length_take]; omega
            refine ⟨_, rfl, ⟨os.take m, by rw [hl2]; exact hr, okQ_take hok' m, ?_, by rw [qn_take_of HZ.out]; exact HQ.out, by omega⟩, HON.out, fun k hk => hk⟩
            intro _
            rw [hl2]
            have := HX.out
            simp only [List.getD_eq_getElem?_getD, List.getElem?_take, show m - 1 < m by omega, if_true]
            rw [← List.getD_eq_getElem?_getD, ← this]; exact hx0
        · have e : m = 0 := by omega
          subst e
          have hz0 : qn os = 0 := qn_zero (fun j => HZ.out j (Nat.zero_le _))
          have hq0 : qn us - qn vs = 0 := by rw [← HQ.out]; exact hz0
          have HW : Hid (Wh wr base (.slice ao 0 ca) (qn us - qn vs) La) := by
            rcases Nat.eq_zero_or_pos us.length with h | h
            · refine ⟨[], ?_, fun x hx => by simp at hx, fun h => by simp at h, by rw [hq0]; rfl, Nat.zero_le _⟩
              have e0 : os = [] := List.length_eq_zero_iff.1 (by omega)
              subst e0
              rw [h] at hown'
              exact hown'
            · have hr := own_take (m := 0) hown' (Nat.zero_le _) h
              exact ⟨[], hr, fun x hx => by simp at hx, fun h => by simp at h, by rw [hq0]; rfl, Nat.zero_le _⟩
          clear hown' hz0 hq0
          go_wp2
          go_ret
          exact ⟨_, rfl, HW.out, HON.out, fun k hk => ob_len hk⟩

end Go.Proofs.YtmpkcioeodlbcaaGreatDoor
namespace Go.Proofs.YtmpkcioeodlbcaaGreatDoor
open RowKit
theorem Only.tail {v v' : Value} {a b c : World} (h : Only (Ob v) a b) (hv : ∀ k, Ob v' k → Ob v k ∨ a.heap.size ≤ k) (h2 : Only (Ob v') b c) : Only (Ob v) a c := h.next h2 hv
theorem ob_tail {v v' v'' : Value} {a b : World} (h : a.heap.size ≤ b.heap.size) (hv : ∀ k, Ob v' k → Ob v k ∨ a.heap.size ≤ k) (h2 : ∀ k, Ob v'' k → Ob v' k ∨ b.heap.size ≤ k) : ∀ k, Ob v'' k → Ob v k ∨ a.heap.size ≤ k := by
  intro k hk
  rcases h2 k hk with h3 | h3
  · exact hv k h3
  · exact .inr (by omega)
theorem qtimesI {v : Value} {base z L : Nat} (f m : Nat) {F M : Int} {w : World} (hv : Wh w base v z L) (hF : F = ((f : Nat) : Int)) (hM : M = ((m : Nat) : Int)) (hL : L ≤ 100000) (hf : f < 18446744073709551616) (hm : m < 18446744073709551616) (hf1 : 1 ≤ f) (hbase : base ≤ w.heap.size) :
    Calls Tryz.prog 261 #[v, .int .u64 F, .int .u64 M] w fun e w' => ∃ v', e = .returned v' ∧ Wh w' base v' (z * f + m) (L + 1) ∧ Only (Ob v) w w' ∧ (∀ k, Ob v' k → Ob v k ∨ w.heap.size ≤ k) := by
  subst hF hM
  exact qtimes_any v base z L f m w hv hL hf hm hf1 hbase
theorem ten19 (z n : Nat) (h : 19 ≤ n) : (z * 10000000000000000000 + 0) * 10 ^ (n - 19) = z * 10 ^ n := by
  obtain ⟨k, rfl⟩ : ∃ k, n = k + 19 := ⟨n - 19, by omega⟩
  rw [Nat.add_sub_cancel, Nat.add_zero, Nat.mul_assoc, Nat.pow_add, Nat.mul_comm (10 ^ k)]
theorem ten1 (z n : Nat) (h : 1 ≤ n) : (z * 10 + 0) * 10 ^ (n - 1) = z * 10 ^ n := by
  obtain ⟨k, rfl⟩ : ∃ k, n = k + 1 := ⟨n - 1, by omega⟩
  rw [Nat.add_sub_cancel, Nat.add_zero, Nat.mul_assoc, Nat.pow_succ, Nat.mul_comm (10 ^ k)]
set_option maxHeartbeats 1000000 in
theorem qtens_any (v : Value) (base z L n : Nat) (w : World) (hv : Wh w base v z L) (hL : L + n ≤ 100000) (hbase : base ≤ w.heap.size) :
    Calls Tryz.prog 242 #[v, .int .i64 n] w fun e w' => ∃ v', e = .returned v' ∧ Wh w' base v' (z * 10 ^ n) (L + n) ∧ Only (Ob v) w w' ∧ (∀ k, Ob v' k → Ob v k ∨ w.heap.size ≤ k) := by
  go_enter Tryz.func242, Tryz.ntmps242
  go_wp2
  go_loopw [0, 1] (fun vv nv wr => ∃ (n' z' L' : Nat) (v0 : Value), v0 = vv ∧ nv = .int .i64 n' ∧ Wh wr base v0 z' L' ∧ z' * 10 ^ n' = z * 10 ^ n ∧ L' + n' ≤ L + n ∧ Only (Ob v) w wr ∧ (∀ k, Ob v0 k → Ob v k ∨ w.heap.size ≤ k)) (fun _ nv _ => (intOf nv).toNat)
  case atStart => exact ⟨n, z, L, v, rfl, rfl, hv, rfl, Nat.le_refl _, Only.refl _ _, fun k hk => .inl hk⟩
  case round =>
    clear hv
    obtain ⟨n', z', L', v0, rfl, rfl, hv, hz, hl, ho, hf⟩ := hrel
    have hsz := ho.size
    by_cases h19 : 19 ≤ n'
    · have h19I : (19 : Int) ≤ n' := by omega
      go_wp2_with (go_at_call 261; (with_reducible refine (qtimesI 10000000000000000000 0 hv (by omega) (by omega) (by omega) (by omega) (by omega) (by omega) (by omega)).mono ?_); rintro e w1 ⟨v1, rfl, h1, h2, h3⟩)
      go_roundw
      case rel => exact ⟨n' - 19, z' * 10000000000000000000 + 0, L' + 1, v1, rfl, congrArg (Value.int .i64) (by omega), h1, by rw [ten19 z' n' h19]; exact hz, by omega, ho.tail hf h2, ob_tail hsz hf h3⟩
      case measure => simp [intOf]; omega
    · have h19I : ¬ (19 : Int) ≤ n' := by omega
      go_wp2
      go_loopw [0, 1] (fun vv nv wr => ∃ (n' z' L' : Nat) (v0 : Value), v0 = vv ∧ nv = .int .i64 n' ∧ Wh wr base v0 z' L' ∧ z' * 10 ^ n' = z * 10 ^ n ∧ L' + n' ≤ L + n ∧ Only (Ob v) w wr ∧ (∀ k, Ob v0 k → Ob v k ∨ w.heap.size ≤ k)) (fun _ nv _ => (intOf nv).toNat)
      case atStart => exact ⟨n', z', L', v0, rfl, rfl, hv, hz, hl, ho, hf⟩
      case round =>
        clear hv hz hl ho hf hsz h19 h19I
        obtain ⟨n', z', L', v0, rfl, rfl, hv, hz, hl, ho, hf⟩ := hrel
        have hsz := ho.size
        by_cases h1 : 1 ≤ n'
        · have h1I : (0 : Int) < n' := by omega
          go_wp2_with (go_at_call 261; (with_reducible refine (qtimesI 10 0 hv (by omega) (by omega) (by omega) (by omega) (by omega) (by omega) (by omega)).mono ?_); rintro e w1 ⟨v1, rfl, h1', h2, h3⟩)
          go_roundw
          case rel => exact ⟨n' - 1, z' * 10 + 0, L' + 1, v1, rfl, congrArg (Value.int .i64) (by omega), h1', by rw [ten1 z' n' h1]; exact hz, by omega, ho.tail hf h2, ob_tail hsz hf h3⟩
          case measure => simp [intOf]; omega
        · have e : n' = 0 := by omega
          subst e
          rw [Nat.pow_zero, Nat.mul_one] at hz
          subst hz
          go_wp2
          go_ret
          exact ⟨_, rfl, hv.mono (by omega), ho, hf⟩

end Go.Proofs.YtmpkcioeodlbcaaGreatDoor
namespace Go.Proofs.YtmpkcioeodlbcaaGreatDoor
open RowKit
theorem run_make64 (q : Nat) (hq : q ≤ 100000) (w : World) : (Instr.makeSlice 288 (.int .i64 (q : Int)) (.int .i64 (q : Int))).run Tryz.prog w = .ok (.slice (some ⟨w.heap.size, 0, none⟩) q q) (w.alloc (.cells (madeCells #[.int .u64 0] q) 47)) := by
  obtain ⟨i0, hi0, hz0, hz1, hz2⟩ := info_parts3 Tryz.info64
  have h := run_make (P := Tryz.prog) w 288 47 i0 (.int .u64 0) Tryz.underlying288 hi0 hz0 .i64 .i64 q q (by omega) (Int.le_refl _) (by rw [hz2]; omega) (by omega)
  simp only [Int.toNat_natCast, hz1, Nat.mul_one] at h
  exact h
theorem Only.undrew {S : Nat → Prop} {a b : World} (h : Only S a.drew b) : Only S a b := ⟨h.os, h.tape, h.output, h.size, h.block⟩
theorem wrap_i64n (q : Nat) (h : q < 9223372036854775808) : IntKind.i64.wrap (q : Int) = (q : Int) := by rw [IntKind.wrap_i64]; omega
theorem made_q (q : Nat) : (madeCells #[.int .u64 0] q).toList = qv (List.replicate q 0) := by
  unfold qv
  apply List.ext_getElem?
  intro i
  simp only [madeCells, Array.toList_map, List.getElem?_map, Array.toList_range, List.getElem?_replicate]
  by_cases h : i < q
  · simp [h, Nat.mod_one]
  · simp [h]
theorem two_wrap {r : Nat} (h : r < 64) : IntKind.u64.wrap (2 ^ r) = (((2 ^ r : Nat)) : Int) := by
  have h1 : 2 ^ r < 2 ^ 64 := Nat.pow_lt_pow_right (by decide) h
  rw [IntKind.wrap_u64, Int.natCast_pow]
  have h2 : ((2 : Int) ^ r) = ((2 ^ r : Nat) : Int) := by rw [Int.natCast_pow]; rfl
  show (2 : Int) ^ r % 18446744073709551616 = 2 ^ r
  rw [h2]
  generalize 2 ^ r = x at *
  have : (2 : Nat) ^ 64 = 18446744073709551616 := by decide
  omega
theorem wh_alloc {w : World} {base z L : Nat} {v : Value} (h : Wh w base v z L) (o : Obj) : Wh (w.alloc o) base v z L := by
  obtain ⟨ws, h1, h2⟩ := h
  exact ⟨ws, h1.alloc o, h2⟩
theorem wh_drew {w : World} {base z L : Nat} {v : Value} (h : Wh w base v z L) : Wh w.drew base v z L := h
theorem own_made_Qf (w : World) (q base : Nat) (hq : q ≤ 100000) (hb : base ≤ w.heap.size) : (w.alloc (.cells (madeCells #[.int .u64 0] q) 47)).ownsRow base 47 1 (.slice (some ⟨w.heap.size, 0, none⟩) q q) q (qv (List.replicate q 0)) := by
  rw [← made_q]
  exact World.ownsRow_lit w _ q hb (by unfold maxLen; omega) (by simp [madeCells])
theorem qn_noughts (q : Nat) : qn (List.replicate q 0) = 0 := qn_zero (fun j => by simp [List.getD_eq_getElem?_getD, List.getElem?_replicate]; split <;> rfl)
/-- the words behind noughts -/
theorem twos_wh {w : World} {base q r z n : Nat} {v : Value} {ws : List Nat} (hw : w.ownsRow base 47 1 v (q + ws.length) (qv (List.replicate q 0) ++ qv ws)) (ok : okQ ws) (tr : trimQ ws) (hz : qn ws = z * 2 ^ r + 0) (hz0 : 0 < z) (hn : n = 64 * q + r) (L : Nat) (hl : ws.length ≤ L + 1) : Wh w base v (z * 2 ^ n) (L + n / 64 + 1) := by
  have e : qv (List.replicate q 0) ++ qv ws = qv (List.replicate q 0 ++ ws) := by simp [qv]
  have hl2 : (List.replicate q 0 ++ ws).length = q + ws.length := by simp
  have hp : 0 < z * 2 ^ r := Nat.mul_pos hz0 (Nat.two_pow_pos r)
  have hne : ws.length ≠ 0 := by
    intro h0
    have := (qn_pos tr).2 h0
    omega
  refine ⟨List.replicate q 0 ++ ws, by rw [hl2, ← e]; exact hw, okQ_append (fun x hx => by simp at hx; omega) ok, ?_, ?_, by rw [hl2]; omega⟩
  · intro _
    have h1 := tr (by omega)
    rw [hl2, List.getD_eq_getElem?_getD, List.getElem?_append_right (by simp; omega)]
    rw [List.getD_eq_getElem?_getD] at h1
    simpa [show q + ws.length - 1 - q = ws.length - 1 by omega] using h1
  · rw [qn_append, qn_noughts, hz, hn, List.length_replicate, Nat.zero_add, Nat.add_zero, Nat.pow_add, Nat.pow_mul, show (2 : Nat) ^ 64 = 18446744073709551616 by decide, Nat.mul_left_comm]
theorem qtimesS {v : Value} {base z L : Nat} (f : Nat) {F : Int} {w : World} (hv : Wh w base v z L) (hF : F = ((f : Nat) : Int)) (hL : L ≤ 100000) (hf : f < 18446744073709551616) (hf1 : 1 ≤ f) (hz : 0 < z) (hbase : base ≤ w.heap.size) :
    Calls Tryz.prog 261 #[v, .int .u64 F, .int .u64 0] w fun e w' => ∃ g c ws, e = .returned (.slice (some ⟨g, 0, none⟩) ws.length c) ∧ w'.ownsRow base 47 1 (.slice (some ⟨g, 0, none⟩) ws.length c) ws.length (qv ws) ∧ okQ ws ∧ trimQ ws ∧ qn ws = z * f + 0 ∧ ws.length ≤ L + 1 ∧ 0 < ws.length ∧ Only (Ob v) w w' := by
  refine (qtimesI f 0 hv hF (by omega) hL hf (by omega) hf1 hbase).mono ?_
  rintro e w' ⟨v', rfl, ⟨ws, h1, h2, h3, h4, h5⟩, h6, h7⟩
  have hp : 0 < z * f := Nat.mul_pos hz hf1
  have hne : ws.length ≠ 0 := by
    intro h0
    have := (qn_pos h3).2 h0
    omega
  obtain ⟨ao, cap, rfl, _, _, hs⟩ := own_rd h1
  rcases hs with hs | ⟨g, rfl⟩
  · omega
  · exact ⟨g, cap, ws, rfl, h1, h2, h3, h4, h5, by omega, h6⟩
theorem step_app64 {w : World} {ops : Array Oper} {o : Oper} {a : Act} {K : Act → World → Prop} {Q : Exit → Act → World → Prop} {E : Prop} (hgd : o.guard = none) (s x : Operand)
    (ho : o.op = .call { callee := .builtin .append, args := #[s, x], argTypes := #[288, 288] })
    (base q gm g1 c1 : Nat) (ws : List Nat) (hs : a.eval s = .slice (some ⟨gm, 0, none⟩) q q) (hown : w.ownsRow base 47 1 (.slice (some ⟨gm, 0, none⟩) q q) q (qv (List.replicate q 0)))
    (hx : a.eval x = .slice (some ⟨g1, 0, none⟩) ws.length c1) (how : w.ownsRow base 47 1 (.slice (some ⟨g1, 0, none⟩) ws.length c1) ws.length (qv ws)) (hp : 0 < ws.length) (hl : q + ws.length ≤ 200000) (hbase : base ≤ w.heap.size)
    (h : ∀ g cap w', w'.ownsRow base 47 1 (.slice (some ⟨g, 0, none⟩) (q + ws.length) cap) (q + ws.length) (qv (List.replicate q 0) ++ qv ws) → w.grownBy w' (some gm) → (gm = g ∨ g = w.heap.size) → g < w'.heap.size → K (a.put o.dst (.slice (some ⟨g, 0, none⟩) (q + ws.length) cap)) w') :
    if Region.wanted o (yielded ops a.tmps) = true then Oper.wp Tryz.prog o a w K Q else E := by
  obtain ⟨i0, hi0, hz0, hz1, hz2⟩ := info_parts3 Tryz.info64
  refine step_append_lies w hgd s x 288 ho base 47 i0 (.int .u64 0) 1 8 Tryz.underlying288 hi0 hz0 hz1 hz2 rfl (by decide) _ q _ hs hown ⟨g1, 0, none⟩ ws.length c1 (qv ws) hx (by rw [qv_len, Nat.mul_one]) (how.cells (g := g1) rfl) (fun u hu => ?_) hp (by unfold maxLen; omega) (by omega) hbase _ rfl (fun g cap w' h1 h2 h3 h4 => h g cap w' h1 h2 (h3.imp (fun e => by simpa [Value.ownBlock] using e) id) h4)
  unfold qv at hu
  obtain ⟨y, _, rfl⟩ := List.mem_map.1 hu
  rfl
set_option maxRecDepth 100000 in
set_option maxHeartbeats 1000000 in
theorem qtwos_any (v : Value) (base z L n : Nat) (w : World) (hv : Wh w base v z L) (hz : 0 < z) (hL : L ≤ 50000) (hn : n ≤ 1000000) (hbase : base ≤ w.heap.size) :
    Calls Tryz.prog 264 #[v, .int .i64 n] w fun e w' => ∃ v', e = .returned v' ∧ Wh w' base v' (z * 2 ^ n) (L + n / 64 + 1) ∧ Only (Ob v) w w' ∧ (∀ k, Ob v' k → w.heap.size ≤ k) := by
  obtain ⟨q, r, hr, hqr⟩ : ∃ q r : Nat, r < 64 ∧ n = 64 * q + r := ⟨n / 64, n % 64, Nat.mod_lt _ (by omega), by omega⟩
  have hmk := run_make64 q (by omega)
  rw [← wrap_i64n q (by omega)] at hmk
  have hq : (n : Int).tdiv 64 = (q : Int) := by rw [Int.tdiv_eq_ediv_of_nonneg (by omega)]; omega
  have hm : (n : Int).tmod 64 = (r : Int) := by rw [Int.tmod_eq_emod_of_nonneg (by omega)]; omega
  have HN : Hid (n = 64 * q + r) := hqr
  have hq5 : q ≤ 20000 := by omega
  have h2r : 2 ^ r < 18446744073709551616 := Nat.lt_of_lt_of_le (Nat.pow_lt_pow_right (by decide) hr) (by decide)
  have hlt : ∀ k, Ob v k → k < w.heap.size := fun k hk => (hv.lt hk).1
  clear hqr
  go_enter Tryz.func264, Tryz.ntmps264
  go_wp2_with fail
  go_region_held_law (fun _ => True) (trivial) (first
    | (go_at_call 261; (with_reducible refine (qtimesS (2 ^ r) (wh_drew (wh_alloc hv _)) (two_wrap hr) (by omega) h2r Nat.one_le_two_pow hz (by simp; omega)).mono ?_); rintro e w1 ⟨g1, c1, ws, rfl, h1, h2, h3, h4, h5, h6, h7⟩; have h7 := h7.undrew; have OM := ownsRow_only (own_made_Qf w q base (by omega) hbase) h7 (fun k hk hk2 => by have := hlt k hk2; simp [Ob, Value.ownBlock] at hk; omega); have ON : Only (Ob v) w w1 := ((Only.refl _ w).alloc _).trans h7)
    | (go_at_call 261; (with_reducible refine (qtimesS (2 ^ r) (wh_drew hv) (two_wrap hr) (by omega) h2r Nat.one_le_two_pow hz (by simp; omega)).mono ?_); rintro e w1 ⟨g1, c1, ws, rfl, h1, h2, h3, h4, h5, h6, h7⟩; have ON : Only (Ob v) w w1 := h7.undrew; have hs1 := ON.size)
    | (refine step_app64 (by rfl) _ _ (by rfl) base q w.heap.size g1 c1 ws (by rfl) OM (by rfl) h1 h6 (by omega) (Nat.le_trans hbase ON.size) ?_; intro g cap w2 k1 k2 k3 k4; have ON2 : Only (Ob v) w w2 := ON.grown k2 (fun i hi => .inr (by simp at hi; omega)); have hgn : w.heap.size ≤ g := by (have := ON.size; omega))
    | (refine step_app64 (by rfl) _ _ (by rfl) base q w1.heap.size g1 c1 ws (by rfl) (own_made_Qf w1 q base (by omega) (Nat.le_trans hbase ON.size)) (by rfl) (h1.alloc _) h6 (by omega) (by simp; omega) ?_; intro g cap w2 k1 k2 k3 k4; have ON2 : Only (Ob v) w w2 := (ON.alloc _).grown k2 (fun i hi => .inr (by simp at hi; omega)); have hgn : w.heap.size ≤ g := by (have := ON.size; simp at k3; omega))
    )
  all_goals
    go_wp2
    go_ret
    refine ⟨.slice (some ⟨g, 0, none⟩) (q + ws.length) cap, ?_, twos_wh k1 h2 h3 h4 hz HN.out L h5, ON2, fun k hk => ?_⟩
    · first | rfl | (simp)
    simp [Ob, Value.ownBlock] at hk
    omega

end Go.Proofs.YtmpkcioeodlbcaaGreatDoor
namespace Go.Proofs.YtmpkcioeodlbcaaGreatDoor
open RowKit
theorem hp_drew (w : World) : w.drew.heap = w.heap := rfl
theorem hp_drewN (w : World) (n : Nat) : (w.drewN n).heap = w.heap := rfl
theorem Wh.hp {w w' : World} {base z L : Nat} {v : Value} (h : Wh w base v z L) (e : w'.heap = w.heap) : Wh w' base v z L := by
  obtain ⟨ws, h1, h2⟩ := h
  refine ⟨ws, ?_, h2⟩
  unfold World.ownsRow at h1 ⊢
  rw [e]; exact h1
theorem Only.hp {S : Nat → Prop} {a a' b : World} (h : Only S a' b) (e : a'.heap = a.heap) (e1 : a'.os = a.os) (e2 : a'.tape = a.tape) (e3 : a'.output = a.output) : Only S a b :=
  ⟨h.os.trans e1, h.tape.trans e2, h.output.trans e3, e ▸ h.size, e ▸ h.block⟩
/-- a struct in memory that begins with two whole numbers -/
structure Rt (w : World) (p : Nat) (e : TypeId) (cur : Array Value) (base : Nat) (vr vo : Value) (r o L : Nat) : Prop where
  blk : w.heap[p]? = some (.cells cur e (0, 0))
  c0 : cur[0]? = some vr
  c1 : cur[1]? = some vo
  wr : Wh w base vr r L
  wo : Wh w base vo o L
  ap : ∀ k, Ob vr k → ¬ Ob vo k
  pr : ¬ Ob vr p
  po : ¬ Ob vo p
  bs : base ≤ w.heap.size
theorem Rt.cell0 {w : World} {p base r o L : Nat} {e : TypeId} {cur : Array Value} {vr vo : Value} (h : Rt w p e cur base vr vo r o L) : w.cell? ⟨p, 0, none⟩ = some vr := by
  rw [cell_of_row w p 0 cur e (0, 0) h.blk, ← h.c0]
theorem Rt.cell1 {w : World} {p base r o L : Nat} {e : TypeId} {cur : Array Value} {vr vo : Value} (h : Rt w p e cur base vr vo r o L) : w.cell? ⟨p, 1, none⟩ = some vo := by
  rw [cell_of_row w p 1 cur e (0, 0) h.blk, ← h.c1]
theorem Rt.froz {w : World} {p base r o L : Nat} {e : TypeId} {cur : Array Value} {vr vo : Value} (h : Rt w p e cur base vr vo r o L) (j : Nat) : w.frozen? ⟨p, j, none⟩ = false := frozen_of_row w p j cur e h.blk
theorem Rt.plt {w : World} {p base r o L : Nat} {e : TypeId} {cur : Array Value} {vr vo : Value} (h : Rt w p e cur base vr vo r o L) : p < w.heap.size := (Array.getElem?_eq_some_iff.1 h.blk).1
theorem Rt.drewN {w : World} {p base r o L : Nat} {e : TypeId} {cur : Array Value} {vr vo : Value} (h : Rt w p e cur base vr vo r o L) (n : Nat) : Rt (w.drewN n) p e cur base vr vo r o L := ⟨h.blk, h.c0, h.c1, h.wr, h.wo, h.ap, h.pr, h.po, h.bs⟩
theorem Wh.fit {w w' : World} {base base' z z' L L' : Nat} {v v' : Value} (h : Wh w base v z L) (h' : Wh w' base' v' z' L') (hz : z ≤ z') : Wh w base v z L' := by
  obtain ⟨ws, h1, h2, h3, h4, h5⟩ := h
  obtain ⟨ws', k1, k2, k3, k4, k5⟩ := h'
  exact ⟨ws, h1, h2, h3, h4, Nat.le_trans (qs_len k2 h3 (by omega)) k5⟩
theorem Wh.sl {w : World} {base z L : Nat} {v : Value} (h : Wh w base v z L) : ∃ ao n c, v = .slice ao n c := by
  obtain ⟨ws, h1, _⟩ := h
  obtain ⟨ao, c, e, _⟩ := own_rd h1
  exact ⟨ao, _, c, e⟩
/-- the rest is turned: all else is as it was -/
theorem Rt.put {w w1 : World} {p base r o L r' L' : Nat} {e : TypeId} {cur : Array Value} {vr vo vr' : Value} (h : Rt w p e cur base vr vo r o L) (ho : Only (Ob vr) w w1) (hv : Wh w1 base vr' r' L') (hf : ∀ k, Ob vr' k → Ob vr k ∨ w.heap.size ≤ k) (hL : L ≤ L') :
    Rt (w1.setCell ⟨p, 0, none⟩ vr') p e (cur.setIfInBounds 0 vr') base vr' vo r' o L' ∧ Only (fun k => Ob vr k ∨ k = p) w (w1.setCell ⟨p, 0, none⟩ vr') := by
  have hb1 : w1.heap[p]? = some (.cells cur e (0, 0)) := by rw [ho.block p h.plt h.pr]; exact h.blk
  have hpr' : ¬ Ob vr' p := fun hk => by
    rcases hf p hk with h1 | h1
    · exact h.pr h1
    · have := h.plt; omega
  have os : Only (fun k => k = p) w1 (w1.setCell ⟨p, 0, none⟩ vr') := (Only.refl _ _).set _ _ (.inl rfl)
  refine ⟨⟨heap_setCell_same w1 p 0 cur e vr' hb1, ?_, ?_, hv.only os (fun k hk hk2 => hpr' (hk2 ▸ hk)), ((h.wo.only ho (fun k hk hk2 => h.ap k hk2 hk)).only os (fun k hk hk2 => h.po (hk2 ▸ hk))).mono hL, fun k hk hk2 => ?_, hpr', h.po, ?_⟩, (ho.mono (fun i _ hi => .inl hi)).next os (fun i hi => .inl (.inr hi))⟩
  · have hs : 0 < cur.size := (Array.getElem?_eq_some_iff.1 h.c0).1
    simp [hs]
  · rw [Array.getElem?_setIfInBounds, if_neg (by decide)]; exact h.c1
  · rcases hf k hk with h1 | h1
    · exact h.ap k h1 hk2
    · have := (h.wo.lt hk2).1; omega
  · have := ho.size
    have := h.bs
    simp; omega
theorem setSet (cur : Array Value) (a b : Value) : (cur.setIfInBounds 0 a).setIfInBounds 0 b = cur.setIfInBounds 0 b := by
  apply Array.ext'
  simp
theorem next_step {r b o d : Nat} (h : o ≤ r * b - d * o) (hd : d * o ≤ r * b) : (d + 1) * o ≤ r * b ∧ r * b - d * o - o = r * b - (d + 1) * o := by
  rw [Nat.add_mul]; omega
theorem next_end {r b o d : Nat} (h : r * b - d * o < o) (hd : d * o ≤ r * b) : r * b / o = d ∧ r * b % o = r * b - d * o := by
  have ho : 0 < o := by omega
  have e : r * b = (r * b - d * o) + d * o := by omega
  constructor
  · rw [e, Nat.add_mul_div_right _ _ ho, Nat.div_eq_of_lt h, Nat.zero_add]
  · rw [e, Nat.add_mul_mod_self_right, Nat.mod_eq_of_lt h]; omega
theorem next_lt {r b o d : Nat} (hr : r < o) (hd : d * o ≤ r * b) (hb : 0 < b) : d < b := by
  rcases Nat.lt_or_ge d b with h | h
  · exact h
  · exfalso
    have h1 : b * o ≤ d * o := Nat.mul_le_mul_right _ h
    have h2 : r * b < o * b := Nat.mul_lt_mul_of_pos_right hr hb
    rw [Nat.mul_comm o b] at h2
    omega
theorem cmI_ge {x y : Nat} : (0 ≤ cmI x y) ↔ y ≤ x := by unfold cmI; split <;> (try split) <;> omega
set_option maxRecDepth 10000 in
set_option maxHeartbeats 1000000 in
theorem qnext_any {w : World} {p base r o L b : Nat} {e : TypeId} {cur : Array Value} {vr vo : Value} {B : Int} (h : Rt w p e cur base vr vo r o L) (hr : r < o) (hB : B = ((b : Nat) : Int)) (hb : 1 ≤ b) (hb2 : b ≤ 100) (hL : L ≤ 90000) :
    Calls Tryz.prog 244 #[.pointer (some ⟨p, 0, none⟩), .int .u64 B] w fun e' w' => ∃ dd : Nat, e' = .returned (.int .u64 dd) ∧ dd = r * b / o ∧ ∃ vr' : Value, Rt w' p e (cur.setIfInBounds 0 vr') base vr' vo (r * b % o) o L ∧ Only (fun k => Ob vr k ∨ k = p) w w' ∧ (∀ k, Ob vr' k → Ob vr k ∨ w.heap.size ≤ k) := by
  subst hB
  have hc0 := h.cell0
  have hf1 : ∀ w1, Only (Ob vr) w w1 → w1.frozen? ⟨p, 0, none⟩ = false ∧ ∃ u, w1.cell? ⟨p, 0, none⟩ = some u := fun w1 ho => by
    have hb1 : w1.heap[p]? = some (.cells cur e (0, 0)) := by rw [ho.block p h.plt h.pr]; exact h.blk
    exact ⟨frozen_of_row w1 p 0 cur e hb1, vr, by rw [cell_of_row w1 p 0 cur e (0, 0) hb1]; exact h.c0⟩
  go_enter Tryz.func244, Tryz.ntmps244
  go_wp2_with (go_at_call 261; (with_reducible refine (qtimesI b 0 h.wr rfl (by omega) (by omega) (by omega) (by omega) hb h.bs).mono ?_); rintro e1 w1 ⟨v1, rfl, k1, k2, k3⟩; obtain ⟨kf, u, kc⟩ := hf1 w1 k2; obtain ⟨a1, n1, c1, rfl⟩ := k1.sl)
  obtain ⟨R1, O1⟩ := h.put k2 k1 k3 (Nat.le_succ L)
  rw [Nat.add_zero] at R1
  have hplt := h.plt
  clear kf kc hc0 hf1 k1 k2
  go_loopw [5] (fun dv wq => ∃ (d : Nat) (v0 : Value), dv = .int .u64 d ∧ Rt wq p e (cur.setIfInBounds 0 v0) base v0 vo (r * b - d * o) o (L + 1) ∧ d * o ≤ r * b ∧ Only (fun k => Ob vr k ∨ k = p) w wq ∧ (∀ k, Ob v0 k → Ob vr k ∨ w.heap.size ≤ k)) (fun dv _ => r * b / o - (intOf dv).toNat)
  case atStart => exact ⟨0, _, rfl, by simpa using R1, by omega, O1, k3⟩
  case round =>
    clear R1 O1 k3
    obtain ⟨d, v0, rfl, R, hd, hO, hf⟩ := hrel
    have hdb := next_lt hr hd hb
    have c0 := R.cell0
    have c1 := R.cell1
    have fz := R.froz 0
    by_cases hge : o ≤ r * b - d * o
    · have hcmp : 0 ≤ cmI (r * b - d * o) o := cmI_ge.2 hge
      obtain ⟨s1, s2⟩ := next_step hge hd
      have HS : Hid ((d + 1) * o ≤ r * b ∧ r * b - d * o - o = r * b - (d + 1) * o) := ⟨s1, s2⟩
      have HR : Hid (Rt wr p e (cur.setIfInBounds 0 v0) base v0 vo (r * b - d * o) o (L + 1)) := R
      have HO : Hid (Only (fun k => Ob vr k ∨ k = p) w wr) := hO
      have HF : Hid (∀ k, Ob v0 k → Ob vr k ∨ w.heap.size ≤ k) := hf
      generalize hx : cmI (r * b - d * o) o = x at hcmp
      have HX : Hid (cmI (r * b - d * o) o = x) := hx
      have hf2 : ∀ w1, Only (Ob v0) wr w1 → w1.frozen? ⟨p, 0, none⟩ = false ∧ ∃ u, w1.cell? ⟨p, 0, none⟩ = some u := fun w1 ho => by
        have hb1 : w1.heap[p]? = some (.cells (cur.setIfInBounds 0 v0) e (0, 0)) := by rw [ho.block p R.plt R.pr]; exact R.blk
        exact ⟨frozen_of_row w1 p 0 _ e hb1, v0, by rw [cell_of_row w1 p 0 _ e (0, 0) hb1]; exact R.c0⟩
      clear hx s1 s2 hO hf
      go_wp2_with fail
      go_region_with (go_at_call 265; (with_reducible refine (qcmp_any _ (R.wr.hp (by first | exact hp_drew _ | exact hp_drewN _ _)) (R.wo.hp (by first | exact hp_drew _ | exact hp_drewN _ _)) (by omega) (by omega)).mono ?_); rintro e1 w1 ⟨m1, rfl, rfl⟩; rw [HX.out])
      all_goals
        go_wp2_with fail
        go_region_with (go_at_call 266; (with_reducible refine (qminus_any _ (HR.out.wr.hp (by first | exact hp_drew _ | exact hp_drewN _ _)) (HR.out.wo.hp (by first | exact hp_drew _ | exact hp_drewN _ _)) hge HR.out.ap (by omega)).mono ?_); rintro e1 w1 ⟨v2, rfl, j1, j2, j3⟩; obtain ⟨kf2, u2, kc2⟩ := hf2 w1 (j2.hp rfl rfl rfl rfl); obtain ⟨a2, n2, c2, rfl⟩ := j1.sl)
      all_goals
        go_wp2
        go_roundw
        case rel =>
          obtain ⟨R2, O2⟩ := HR.out.put (j2.hp rfl rfl rfl rfl) j1 (fun k hk => .inl (j3 k hk)) (Nat.le_refl _)
          rw [setSet, HS.out.2] at R2
          refine ⟨d + 1, _, congrArg (Value.int .u64) (by omega), R2, HS.out.1, HO.out.next O2 (fun i hi => ?_), fun k hk => HF.out k (j3 k hk)⟩
          rcases hi with hi | hi
          · exact (HF.out i hi).imp .inl id
          · exact .inl (.inr hi)
        case measure =>
          have hq : d + 1 ≤ r * b / o := (Nat.le_div_iff_mul_le (by omega)).2 HS.out.1
          generalize r * b / o = q at *
          simp [intOf]
          omega
    · have hcmp : ¬ 0 ≤ cmI (r * b - d * o) o := fun h => hge (cmI_ge.1 h)
      have E : Hid (r * b / o = d ∧ r * b % o = r * b - d * o) := next_end (by omega) hd
      have HR : Hid (Rt wr p e (cur.setIfInBounds 0 v0) base v0 vo (r * b - d * o) o (L + 1)) := R
      generalize hx : cmI (r * b - d * o) o = x at hcmp
      have HX : Hid (cmI (r * b - d * o) o = x) := hx
      clear hx
      go_wp2_with fail
      go_region_with (go_at_call 265; (with_reducible refine (qcmp_any _ (R.wr.hp (by first | exact hp_drew _ | exact hp_drewN _ _)) (R.wo.hp (by first | exact hp_drew _ | exact hp_drewN _ _)) (by omega) (by omega)).mono ?_); rintro e1 w1 ⟨n1, rfl, rfl⟩; rw [HX.out])
      all_goals
        go_wp2
        go_ret
        exact ⟨d, rfl, E.out.1.symm, v0, by rw [E.out.2]; exact ⟨HR.out.blk, HR.out.c0, HR.out.c1, HR.out.wr.fit h.wo (by omega), HR.out.wo.fit h.wo (Nat.le_refl _), HR.out.ap, HR.out.pr, HR.out.po, HR.out.bs⟩, hO.drewN _, hf⟩

end Go.Proofs.YtmpkcioeodlbcaaGreatDoor
namespace Go.Proofs.YtmpkcioeodlbcaaGreatDoor
open RowKit
theorem run_nil64 (a : Addr) (n c : Nat) (w : World) : (binOp BinOp.eql 288 (Value.slice (some a) n c) (Value.slice none 0 0)).run Tryz.prog w = .ok (.bool false) w := by
  simp [binOp, run_equal_slice_nil w 288 47 (some a) n c Tryz.underlying288]
set_option maxRecDepth 20000 in
set_option maxHeartbeats 1000000 in
theorem qclone_any {v : Value} {base z L : Nat} (w : World) (hv : Wh w base v z L) (hz : 0 < z) (hL : L ≤ 200000) :
    Calls Tryz.prog 294 #[v] w fun e w' => ∃ v', e = .returned v' ∧ Wh w' w.heap.size v' z L ∧ Below w.heap.size w w' := by
  obtain ⟨i0, hi0, hz0, hz1, hz2⟩ := info_parts3 Tryz.info64
  obtain ⟨ws, hoa, ka, ta, nu, hla⟩ := hv
  subst nu
  obtain ⟨ao, ca, rfl, hc, hca, hsh⟩ := own_rd hoa
  have hne : ws.length ≠ 0 := fun h => by have := (qn_pos ta).2 h; omega
  obtain ⟨g, rfl⟩ : ∃ g, ao = some ⟨g, 0, none⟩ := by
    rcases hsh with h | h
    · omega
    · exact h
  have hl0 : (w.alloc (.cells #[] 47)).ownsRow w.heap.size 47 1 (.slice (some ⟨w.heap.size, 0, none⟩) 0 0) 0 [] := World.ownsRow_lit w #[] 0 (Nat.le_refl _) (by unfold maxLen; omega) rfl
  have hnil := run_nil64 ⟨g, 0, none⟩ ws.length ca
  go_enter Tryz.func294, Tryz.ntmps294
  go_wp2_with (at_builtin; refine wpList_append_new _ rfl _ _ 288 rfl w.heap.size 47 i0 (.int .u64 0) 8 Tryz.underlying288 hi0 hz0 hz1 hz2 rfl _ 0 [] rfl hl0 ⟨g, 0, none⟩ ws.length ca (qv ws) rfl (by rw [qv_len, Nat.mul_one]) ((hoa.alloc _).cells (g := g) rfl) ?c2 (by unfold maxLen; omega) (by omega) (by simp) ?_)
  case c2 =>
    intro u hu
    unfold qv at hu
    obtain ⟨y, _, rfl⟩ := List.mem_map.1 hu
    rfl
  · intro v' w1 hown1 hgrow hfr
    have B : Below w.heap.size w w1 := ((Below.refl _ w).alloc (Nat.le_refl _) _).grown hgrow (by simp) (fun j hj => by simp [Value.ownBlock] at hj; omega)
    have R : w1.ownsRow w.heap.size 47 1 v' ws.length (qv ws) := by simpa using hown1
    clear hown1 hgrow hfr
    go_wp2
    go_ret
    exact ⟨_, rfl, ⟨ws, R, ka, ta, rfl, hla⟩, B⟩
theorem undrewB {n : Nat} {w w' : World} (h : Below n w.drew w') : Below n w w' := ⟨h.os, h.tape, h.output, h.size, h.block⟩
theorem lack_ap {w w1 : World} {base r L L' z : Nat} {v1 vr : Value} (k1 : Wh w1 w.heap.size v1 z L') (h : Wh w base vr r L) : ∀ k, Ob v1 k → ¬ Ob vr k := fun k hk hk2 => by
  have q1 := (k1.lt hk).2
  have q2 := (h.lt hk2).1
  omega
theorem lack_wr {w w1 : World} {base r L : Nat} {vr : Value} (k2 : Below w.heap.size w w1) (h : Wh w base vr r L) : Wh w1 base vr r L := h.only (Only.of_below (S := fun _ => False) k2) (fun _ _ => id)
set_option maxRecDepth 10000 in
set_option maxHeartbeats 1000000 in
theorem qlack_any {w : World} {p base r o L : Nat} {e : TypeId} {cur : Array Value} {vr vo : Value} (h : Rt w p e cur base vr vo r o L) (hr : r ≤ o) (ho : 0 < o) (hL : L ≤ 200000) :
    Calls Tryz.prog 267 #[.pointer (some ⟨p, 0, none⟩)] w fun e' w' => ∃ v', e' = .returned v' ∧ Wh w' w.heap.size v' (o - r) L ∧ Below w.heap.size w w' := by
  have c0 := h.cell0
  have c1 := h.cell1
  have hp := h.plt
  go_enter Tryz.func267, Tryz.ntmps267
  go_wp2_with fail
  go_region_held_law (fun W => W.cell? ⟨p, 0, none⟩ = some vr ∧ W.cell? ⟨p, 1, none⟩ = some vo)
    (first | with_reducible exact D1 | with_reducible exact D2 | go_keep)
    (first
    | (go_at_call 294; (with_reducible refine (qclone_any _ (h.wo.hp (hp_drew _)) ho hL).mono ?_); rintro e1 w1 ⟨v1, rfl, k1, k2⟩; have k2 := undrewB k2; have W1 := lack_wr k2 h.wr; have AP := lack_ap k1 h.wr; have D1 : w1.cell? ⟨p, 0, none⟩ = some vr ∧ w1.cell? ⟨p, 1, none⟩ = some vo := ⟨(k2.cell (by exact hp)).trans c0, (k2.cell (by exact hp)).trans c1⟩)
    | (go_at_call 266; (with_reducible refine (qminus_any w1 k1 W1 hr AP hL).mono ?_); rintro e2 w2 ⟨v2, rfl, j1, j2, j3⟩; have B2 : Below w.heap.size w w2 := k2.trans (j2.below _ k2.size (fun i hi => (k1.lt hi).2)); have D2 : w2.cell? ⟨p, 0, none⟩ = some vr ∧ w2.cell? ⟨p, 1, none⟩ = some vo := ⟨(B2.cell (by exact hp)).trans c0, (B2.cell (by exact hp)).trans c1⟩))
  go_wp2
  go_ret
  exact ⟨_, rfl, j1, B2⟩

end Go.Proofs.YtmpkcioeodlbcaaGreatDoor
namespace Go.Proofs.YtmpkcioeodlbcaaGreatDoor
open RowKit
theorem Rt.hp {w w' : World} {p base r o L : Nat} {e : TypeId} {cur : Array Value} {vr vo : Value} (h : Rt w p e cur base vr vo r o L) (hh : w'.heap = w.heap) : Rt w' p e cur base vr vo r o L := ⟨hh ▸ h.blk, h.c0, h.c1, h.wr.hp hh, h.wo.hp hh, h.ap, h.pr, h.po, hh ▸ h.bs⟩
/-- is 1 nearer, or as near, the digit ahead being odd? -/
def rUp (r o d : Nat) : Bool := decide (o < 2 * r ∨ (o = 2 * r ∧ d % 2 = 1))
theorem cm_cases {r o : Nat} (hr : r ≤ o) : (o < 2 * r ∧ cmI r (o - r) = 1) ∨ (o = 2 * r ∧ cmI r (o - r) = 0) ∨ (2 * r < o ∧ cmI r (o - r) = -1) := by
  unfold cmI
  rcases Nat.lt_trichotomy o (2 * r) with h | h | h
  · exact .inl ⟨h, by rw [if_neg (by omega), if_neg (by omega)]⟩
  · exact .inr (.inl ⟨h, by rw [if_neg (by omega), if_pos (by omega)]⟩)
  · exact .inr (.inr ⟨h, by rw [if_pos (by omega)]⟩)
set_option maxRecDepth 10000 in
set_option maxHeartbeats 1000000 in
theorem qround_any {w : World} {p base r o L d : Nat} {e : TypeId} {cur : Array Value} {vr vo : Value} (h : Rt w p e cur base vr vo r o L) (hr : r ≤ o) (ho : 0 < o) (hL : L ≤ 200000) (hd : d < 18446744073709551616) :
    Calls Tryz.prog 245 #[.pointer (some ⟨p, 0, none⟩), .int .u64 d] w fun e' w' => e' = .returned (.bool (rUp r o d)) ∧ Below w.heap.size w w' := by
  have c0 := h.cell0
  have hp := h.plt
  obtain ⟨x, hx⟩ : ∃ x, x = cmI r (o - r) := ⟨_, rfl⟩
  have HX : Hid (cmI r (o - r) = x) := hx.symm
  have hcs := cm_cases hr
  rw [← hx] at hcs
  clear hx
  have hm2 : (d : Int).tmod 2 = ((d % 2 : Nat) : Int) := by rw [Int.tmod_eq_emod_of_nonneg (by omega)]; omega
  obtain ⟨m, hm⟩ : ∃ m, m = d % 2 := ⟨_, rfl⟩
  rw [← hm] at hm2
  have HM : Hid (m = d % 2) := hm
  have hm1 : m < 2 := by omega
  clear hm
  rcases hcs with ⟨q, rfl⟩ | ⟨q, rfl⟩ | ⟨q, rfl⟩
  all_goals
    go_enter Tryz.func245, Tryz.ntmps245
    go_wp2_with fail
    go_region_held_law (fun W => W.cell? ⟨p, 0, none⟩ = some vr)
      (first | with_reducible exact D1 | with_reducible exact D2 | go_keep)
      (first
      | (go_at_call 267; (with_reducible refine (qlack_any (h.hp (hp_drew _)) hr ho hL).mono ?_); rintro e1 w1 ⟨v1, rfl, k1, k2⟩; have k2 := undrewB k2; have W1 := lack_wr k2 h.wr; have D1 : w1.cell? ⟨p, 0, none⟩ = some vr := (k2.cell (by exact hp)).trans c0)
      | (go_at_call 265; (with_reducible refine (qcmp_any w1 W1 k1 hL hL).mono ?_); rintro e2 w2 ⟨n2, rfl, rfl⟩; rw [HX.out]; have D2 : (w1.drewN n2).cell? ⟨p, 0, none⟩ = some vr := D1))
    go_wp2
  · go_ret
    exact ⟨congrArg Ending.returned (congrArg Value.bool (by unfold rUp; rw [decide_eq_true (.inl q)])), below_drewN' k2 _⟩
  · go_ret
    refine ⟨congrArg Ending.returned (congrArg Value.bool ?_), below_drewN' k2 _⟩
    have hm := HM.out
    unfold rUp
    rcases (by omega : m = 0 ∨ m = 1) with h0 | h0
    · rw [h0, decide_eq_false (by omega)]; rfl
    · rw [h0, decide_eq_true (.inr ⟨q, by omega⟩)]; rfl
  · go_ret
    exact ⟨congrArg Ending.returned (congrArg Value.bool (by unfold rUp; rw [decide_eq_false (by omega)])), below_drewN' k2 _⟩

end Go.Proofs.YtmpkcioeodlbcaaGreatDoor
namespace Go.Proofs.YtmpkcioeodlbcaaGreatDoor
open RowKit
theorem other_cell_Gm (w : World) {a b : Addr} (h : a ≠ b) (v : Value) : (w.setCell a v).cell? b = w.cell? b := by
  apply World.cell?_setCell_other; exact h
end Go.Proofs.YtmpkcioeodlbcaaGreatDoor
namespace Go.Proofs.YtmpkcioeodlbcaaGreatDoor
open RowKit
/-- how many binary digits -/
def nbits : Nat → Nat
  | 0 => 0
  | n + 1 => 1 + nbits ((n + 1) / 2)
decreasing_by omega
theorem nbits_zero : nbits 0 = 0 := by unfold nbits; rfl
theorem nbits_pos {n : Nat} (h : 0 < n) : nbits n = 1 + nbits (n / 2) := by
  cases n with
  | zero => omega
  | succ n => rw [nbits]

theorem nbits_lt (m : Nat) : m < 2 ^ nbits m := by
  induction m using Nat.strongRecOn with
  | _ m ih =>
    rcases Nat.eq_zero_or_pos m with h | h
    · subst h; rw [nbits_zero]; decide
    · rw [nbits_pos h, Nat.add_comm, Nat.pow_succ]
      have := ih (m / 2) (by omega)
      omega
theorem nbits_ge {m : Nat} (h : 0 < m) : 2 ^ nbits m ≤ 2 * m := by
  induction m using Nat.strongRecOn with
  | _ m ih =>
    rw [nbits_pos h, Nat.add_comm, Nat.pow_succ]
    rcases Nat.eq_zero_or_pos (m / 2) with h2 | h2
    · rw [h2, nbits_zero]; omega
    · have := ih (m / 2) (by omega) h2
      omega
theorem pow_le {a b : Nat} (h : (2 : Nat) ^ a < 2 ^ b) : a < b := by
  rcases Nat.lt_or_ge a b with h1 | h1
  · exact h1
  · have := Nat.pow_le_pow_right (n := 2) (by decide) h1; omega
/-- how many digits, by the powers about it -/
theorem nbits_eq {m k : Nat} (h0 : 2 ^ k ≤ 2 * m) (h1 : m < 2 ^ k) : nbits m = k := by
  have hm : 0 < m := by
    rcases Nat.eq_zero_or_pos m with h | h
    · subst h; have := Nat.two_pow_pos k; omega
    · exact h
  have a := nbits_lt m
  have b := nbits_ge hm
  have c : nbits m < k + 1 := pow_le (by rw [Nat.pow_succ]; omega)
  have d : k < nbits m + 1 := pow_le (by rw [Nat.pow_succ]; omega)
  omega
theorem nbits_le {m k : Nat} (h : m < 2 ^ k) : nbits m ≤ k := by
  rcases Nat.eq_zero_or_pos m with h0 | h0
  · subst h0; rw [nbits_zero]; exact Nat.zero_le _
  · have b := nbits_ge h0
    have c : nbits m < k + 1 := pow_le (by rw [Nat.pow_succ]; omega)
    omega
end Go.Proofs.YtmpkcioeodlbcaaGreatDoor
namespace Go.Proofs.YtmpkcioeodlbcaaGreatDoor
open RowKit
theorem fold_tab : ({ data := (([0, 1, 2, 2, 3, 3, 3, 3, 4, 4, 4, 4, 4, 4, 4, 4, 5, 5, 5, 5, 5, 5, 5, 5, 5, 5, 5, 5, 5, 5, 5, 5, 6, 6, 6, 6, 6, 6, 6, 6, 6, 6, 6, 6, 6, 6, 6, 6, 6, 6, 6, 6, 6, 6, 6, 6, 6, 6, 6, 6, 6, 6, 6, 6].append [7, 7, 7, 7, 7, 7, 7, 7, 7, 7, 7, 7, 7, 7, 7, 7, 7, 7, 7, 7, 7, 7, 7, 7, 7, 7, 7, 7, 7, 7, 7, 7, 7, 7, 7, 7, 7, 7, 7, 7, 7, 7, 7, 7, 7, 7, 7, 7, 7, 7, 7, 7, 7, 7, 7, 7, 7, 7, 7, 7, 7, 7, 7, 7]).append ([8, 8, 8, 8, 8, 8, 8, 8, 8, 8, 8, 8, 8, 8, 8, 8, 8, 8, 8, 8, 8, 8, 8, 8, 8, 8, 8, 8, 8, 8, 8, 8, 8, 8, 8, 8, 8, 8, 8, 8, 8, 8, 8, 8, 8, 8, 8, 8, 8, 8, 8, 8, 8, 8, 8, 8, 8, 8, 8, 8, 8, 8, 8, 8].append [8, 8, 8, 8, 8, 8, 8, 8, 8, 8, 8, 8, 8, 8, 8, 8, 8, 8, 8, 8, 8, 8, 8, 8, 8, 8, 8, 8, 8, 8, 8, 8, 8, 8, 8, 8, 8, 8, 8, 8, 8, 8, 8, 8, 8, 8, 8, 8, 8, 8, 8, 8, 8, 8, 8, 8, 8, 8, 8, 8, 8, 8, 8, 8])).toArray } : ByteArray) = Lib.len8tab := by kernel_rfl
theorem bitLen_nbits : ∀ x : Nat, x < 18446744073709551616 → Lib.bitLen x = nbits x := by
  intro x
  induction x using Nat.strongRecOn with
  | ind x ih =>
    intro hx
    rcases Nat.eq_zero_or_pos x with h | h
    · subst h; rw [nbits_zero]; rfl
    · rw [Lib.bitLen_half x (by omega) hx, nbits_pos h, ih (x / 2) (by omega) (by omega)]
theorem tab_size : (Lib.len8tab.size : Int) = 256 := by rw [Lib.len8tab_size]; rfl
theorem tab_get (y : Int) (h : y.toNat < Lib.len8tab.size) (h0 : 0 ≤ y) (h1 : y ≤ 255) : ((Lib.len8tab[y.toNat]'h).toNat : Int) = (Lib.bitLen y.toNat : Int) ∧ Lib.bitLen y.toNat ≤ 8 := by
  refine ⟨?_, Lib.bitLen_le8' y h0 h1⟩
  rw [← Lib.len8_of y h0 h1]
  unfold Lib.len8
  rw [getElem?_pos Lib.len8tab y.toNat h]
  rfl
theorem len_fin (x : Int) (k : Nat) (K y : Int) (h : y.toNat < Lib.len8tab.size) (hx0 : 0 ≤ x) (hx : x ≤ 18446744073709551615) (hk : k ≤ 56) (hK : K = (k : Int)) (hy : y.toNat = x.toNat / 2 ^ k) (h0 : 0 ≤ y) (h1 : y ≤ 255) (hp : 2 ^ k ≤ x.toNat) :
    wrap64 (K + wrap64 ((Lib.len8tab[y.toNat]'h).toNat : Int)) = (Lib.bitLen x.toNat : Int) := by
  obtain ⟨e, l⟩ := tab_get y h h0 h1
  have e3 := Lib.bitLen_shift k x.toNat hp (by omega)
  rw [← hy] at e3
  have e5 : ∀ n : Int, 0 ≤ n → n ≤ 100 → wrap64 n = n := fun n h0 h1 => by unfold wrap64; omega
  rw [e, e5 (Lib.bitLen y.toNat : Int) (by omega) (by omega), hK, e5 ((k : Int) + (Lib.bitLen y.toNat : Int)) (by omega) (by omega), e3]
  omega
theorem len_fin0 (x : Int) (h : x.toNat < Lib.len8tab.size) (h0 : 0 ≤ x) (h1 : x ≤ 255) :
    wrap64 ((Lib.len8tab[x.toNat]'h).toNat : Int) = (Lib.bitLen x.toNat : Int) ∧ wrap64 (wrap64 ((Lib.len8tab[x.toNat]'h).toNat : Int)) = (Lib.bitLen x.toNat : Int) := by
  obtain ⟨e, l⟩ := tab_get x h h0 h1
  have e5 : ∀ n : Int, 0 ≤ n → n ≤ 100 → wrap64 n = n := fun n h0 h1 => by unfold wrap64; omega
  rw [e, e5 (Lib.bitLen x.toNat : Int) (by omega) (by omega), e5 (Lib.bitLen x.toNat : Int) (by omega) (by omega)]
  exact ⟨rfl, rfl⟩
set_option maxRecDepth 20000 in
set_option maxHeartbeats 1000000 in
theorem len64_I (x : Int) (w : World) (h0 : 0 ≤ x) (h1 : x ≤ 18446744073709551615) :
    Calls Tryz.prog 290 #[.int .u64 x] w fun e w' => e = .returned (.int .i64 (Lib.bitLen x.toNat)) ∧ w' = w := by
  have hs := tab_size
  go_enter Tryz.func290, Tryz.ntmps290
  simp only [fold_tab]
  go_wp2
  all_goals (try (exfalso; omega))
  all_goals (go_ret; refine ⟨congrArg Ending.returned (congrArg (Value.int IntKind.i64) ?_), rfl⟩)
  all_goals first
    | exact len_fin x 56 _ _ _ h0 h1 (by decide) rfl (by omega) (by omega) (by omega) (by omega)
    | exact len_fin x 48 _ _ _ h0 h1 (by decide) rfl (by omega) (by omega) (by omega) (by omega)
    | exact len_fin x 40 _ _ _ h0 h1 (by decide) rfl (by omega) (by omega) (by omega) (by omega)
    | exact len_fin x 32 _ _ _ h0 h1 (by decide) rfl (by omega) (by omega) (by omega) (by omega)
    | exact len_fin x 24 _ _ _ h0 h1 (by decide) rfl (by omega) (by omega) (by omega) (by omega)
    | exact len_fin x 16 _ _ _ h0 h1 (by decide) rfl (by omega) (by omega) (by omega) (by omega)
    | exact len_fin x 8 _ _ _ h0 h1 (by decide) rfl (by omega) (by omega) (by omega) (by omega)
    | exact (len_fin0 x _ (by omega) (by omega)).1
    | exact (len_fin0 x _ (by omega) (by omega)).2
theorem len64_any (x : Nat) (hx : x < 18446744073709551616) (w : World) :
    Calls Tryz.prog 290 #[.int .u64 x] w fun e w' => e = .returned (.int .i64 (nbits x)) ∧ w' = w := by
  refine (len64_I (x : Int) w (by omega) (by omega)).mono ?_
  rintro e w' ⟨rfl, rfl⟩
  rw [Int.toNat_natCast, bitLen_nbits x hx]
  exact ⟨rfl, rfl⟩

end Go.Proofs.YtmpkcioeodlbcaaGreatDoor
namespace Go.Proofs.YtmpkcioeodlbcaaGreatDoor
open RowKit
theorem pow64 (n : Nat) : (18446744073709551616 : Nat) ^ n = 2 ^ (64 * n) := by rw [Nat.pow_mul]
theorem nbits_q {us : List Nat} {n u : Nat} (ka : okQ us) (hn : us.length = n + 1) (hu : u = us.getD n 0) (h0 : u ≠ 0) : nbits (qn us) = 64 * n + nbits u := by
  have h1 := qn_split us n (by omega)
  rw [List.drop_of_length_le (by omega), ← hu, show qn [] = 0 from rfl, Nat.mul_zero, Nat.add_zero] at h1
  have h2 := qn_lt (okQ_take ka n)
  rw [List.length_take, Nat.min_eq_left (by omega)] at h2
  rw [h1]
  rw [pow64] at h2 ⊢
  have h3 := nbits_lt u
  have h4 := nbits_ge (m := u) (by omega)
  generalize qn (us.take n) = t at *
  apply nbits_eq
  · rw [Nat.pow_add]
    have : 2 ^ (64 * n) * 2 ^ nbits u ≤ 2 ^ (64 * n) * (2 * u) := Nat.mul_le_mul_left _ h4
    rw [Nat.mul_left_comm] at this
    omega
  · rw [Nat.pow_add]
    have : 2 ^ (64 * n) * (u + 1) ≤ 2 ^ (64 * n) * 2 ^ nbits u := Nat.mul_le_mul_left _ h3
    rw [Nat.mul_succ] at this
    omega
set_option maxHeartbeats 1000000 in
theorem qlen_any {v : Value} {base z L : Nat} (w : World) (hv : Wh w base v z L) (hz : 0 < z) (hL : L ≤ 200000) :
    Calls Tryz.prog 263 #[v] w fun e w' => ∃ n, e = .returned (.int .i64 (nbits z)) ∧ w' = w.drewN n := by
  obtain ⟨us, hoa, ka, ta, nu, hla⟩ := hv
  subst nu
  obtain ⟨ao, ca, rfl, hc, hca, hsh⟩ := own_rd hoa
  have hne : us.length ≠ 0 := fun h => by have := (qn_pos ta).2 h; omega
  obtain ⟨n, hn⟩ : ∃ n, us.length = n + 1 := ⟨us.length - 1, by omega⟩
  obtain ⟨u, hu⟩ : ∃ u, u = us.getD n 0 := ⟨_, rfl⟩
  have hu0 : u ≠ 0 := by have := ta (by omega); rw [hn, Nat.add_sub_cancel, ← hu] at this; exact this
  have hnb := nbits_q ka hn hu hu0
  have huk : u < 18446744073709551616 := by rw [hu]; exact okQ_getD ka n
  obtain ⟨g, rfl, hg, hcell⟩ := hc n (by omega)
  rw [← hu] at hcell
  have hnu : nbits u ≤ 64 := nbits_le (by omega)
  obtain ⟨nb, hnbe⟩ : ∃ nb, nb = nbits u := ⟨_, rfl⟩
  rw [← hnbe] at hnb hnu
  have HNB : Hid (nbits (qn us) = 64 * n + nb) := hnb
  have hlI : (us.length : Int) = (n : Int) + 1 := by omega
  have hn2 : n ≤ 200000 := by omega
  rw [hn]
  clear hnb hoa ta ka hc hsh hu hlI hn hne hz
  have HU : Hid (nb = nbits u) := hnbe
  clear hnbe
  have hwr : wrap64 (n : Int) = (n : Int) := by unfold wrap64; omega
  go_enter Tryz.func263, Tryz.ntmps263
  go_wp2_with (go_at_call 290; (with_reducible refine (len64_any u huk _).mono ?_); rintro e w' ⟨rfl, rfl⟩)
  go_ret
  refine ⟨0, congrArg Ending.returned (congrArg (Value.int .i64) ?_), rfl⟩
  rw [HNB.out, ← HU.out]
  have e5 : ∀ x : Int, 0 ≤ x → x ≤ 100000000 → wrap64 x = x := fun x h0 h1 => by unfold wrap64; omega
  rw [e5 ((n : Int) * 64 + (nb : Int)) (by omega) (by omega)]
  omega

end Go.Proofs.YtmpkcioeodlbcaaGreatDoor
namespace Go.Proofs.YtmpkcioeodlbcaaGreatDoor
open RowKit
def E21 : Nat := 1021
/-- r' by o' is r by o, divided by two to the power D - 1021; it is below 1, and from a half on, unless D is 0 -/
def Good (r o r' o' D : Nat) : Prop := r' < o' ∧ (o' ≤ 2 * r' ∨ D = 0) ∧ r' * o * 2 ^ D = r * o' * 2 ^ E21 ∧ 0 < r'
theorem nb_mul {r n : Nat} (h : 0 < r) : nbits (r * 2 ^ n) = nbits r + n := by
  have a := nbits_lt r
  have b := nbits_ge h
  apply nbits_eq
  · rw [Nat.pow_add, ← Nat.mul_assoc]; exact Nat.mul_le_mul_right _ b
  · rw [Nat.pow_add]; exact Nat.mul_lt_mul_of_pos_right a (Nat.two_pow_pos n)
theorem nb_near {a b : Nat} (ha : 0 < a) (hb : 0 < b) (h : nbits a = nbits b) : a < 2 * b ∧ b < 2 * a := by
  have a1 := nbits_lt a
  have a2 := nbits_ge ha
  have b1 := nbits_lt b
  have b2 := nbits_ge hb
  rw [h] at a1 a2
  omega
theorem nb_less {a b : Nat} (h : nbits a < nbits b) : a < b := by
  have a1 := nbits_lt a
  have hb : 0 < b := by
    rcases Nat.eq_zero_or_pos b with h0 | h0
    · subst h0; rw [nbits_zero] at h; omega
    · exact h0
  have b2 := nbits_ge hb
  have : 2 ^ (nbits a + 1) ≤ 2 ^ nbits b := Nat.pow_le_pow_right (by decide) h
  rw [Nat.pow_succ] at this
  omega
theorem bl_A {r o n : Nat} (hr : 0 < r) (ho : 0 < o) (hn : n = min (nbits o - nbits r) 1021) (hlt : nbits r < nbits o) :
    (r * 2 ^ n < o → Good r o (r * 2 ^ n) o (1021 - n)) ∧ (o ≤ r * 2 ^ n → Good r o (r * 2 ^ n) (o * 2 + 0) (1021 - n + 1)) := by
  have h1 := nb_mul (n := n) hr
  have hp : 0 < r * 2 ^ n := Nat.mul_pos hr (Nat.two_pow_pos n)
  have hn2 : n ≤ 1021 := by omega
  have e1 : 2 ^ n * 2 ^ (1021 - n) = 2 ^ E21 := by rw [← Nat.pow_add]; congr 1; unfold E21; omega
  rcases Nat.lt_or_ge 1021 (nbits o - nbits r) with h2 | h2
  · have h3 : r * 2 ^ n < o := nb_less (by rw [h1]; omega)
    have h4 : n = 1021 := by omega
    refine ⟨fun _ => ⟨h3, .inr (by omega), ?_, hp⟩, fun h => absurd h (by omega)⟩
    rw [← e1, Nat.mul_right_comm r (2 ^ n), Nat.mul_assoc (r * o)]
  · obtain ⟨h3, h4⟩ := nb_near hp ho (by rw [h1]; omega)
    refine ⟨fun h => ⟨h, .inl (by omega), ?_, hp⟩, fun h => ⟨by omega, .inl (by omega), ?_, hp⟩⟩
    · rw [← e1, Nat.mul_right_comm r (2 ^ n), Nat.mul_assoc (r * o)]
    · rw [← e1, Nat.pow_succ, Nat.add_zero]
      generalize 2 ^ (1021 - n) = y
      generalize 2 ^ n = x
      simp only [Nat.mul_comm, Nat.mul_left_comm, Nat.mul_assoc]
theorem bl_B {r o n : Nat} (hr : 0 < r) (ho : 0 < o) (hn : n = nbits r - nbits o) (hle : nbits o ≤ nbits r) :
    (r < o * 2 ^ n → Good r o r (o * 2 ^ n) (1021 + n)) ∧ (o * 2 ^ n ≤ r → Good r o r (o * 2 ^ n * 2 + 0) (1021 + n + 1)) := by
  have h1 := nb_mul (n := n) ho
  have hp : 0 < o * 2 ^ n := Nat.mul_pos ho (Nat.two_pow_pos n)
  obtain ⟨h3, h4⟩ := nb_near hp hr (by rw [h1]; omega)
  have e1 : 2 ^ (1021 + n) = 2 ^ n * 2 ^ E21 := by rw [← Nat.pow_add, Nat.add_comm]; rfl
  refine ⟨fun h => ⟨h, .inl (by omega), ?_, hr⟩, fun h => ⟨by omega, .inl (by omega), ?_, hr⟩⟩
  · rw [e1, ← Nat.mul_assoc, Nat.mul_assoc r]
  · rw [Nat.pow_succ, e1, Nat.add_zero]
    generalize 2 ^ E21 = y
    generalize 2 ^ n = x
    simp only [Nat.mul_comm, Nat.mul_left_comm, Nat.mul_assoc]
/-- the one is turned: all else is as it was -/
theorem Rt.put1 {w w1 : World} {p base r o L o' L' : Nat} {e : TypeId} {cur : Array Value} {vr vo vo' : Value} (h : Rt w p e cur base vr vo r o L) (ho : Only (Ob vo) w w1) (hv : Wh w1 base vo' o' L') (hf : ∀ k, Ob vo' k → Ob vo k ∨ w.heap.size ≤ k) (hL : L ≤ L') :
    Rt (w1.setCell ⟨p, 1, none⟩ vo') p e (cur.setIfInBounds 1 vo') base vr vo' r o' L' ∧ Only (fun k => Ob vo k ∨ k = p) w (w1.setCell ⟨p, 1, none⟩ vo') := by
  have hb1 : w1.heap[p]? = some (.cells cur e (0, 0)) := by rw [ho.block p h.plt h.po]; exact h.blk
  have hpr' : ¬ Ob vo' p := fun hk => by
    rcases hf p hk with h1 | h1
    · exact h.po h1
    · have := h.plt; omega
  have os : Only (fun k => k = p) w1 (w1.setCell ⟨p, 1, none⟩ vo') := (Only.refl _ _).set _ _ (.inl rfl)
  refine ⟨⟨heap_setCell_same w1 p 1 cur e vo' hb1, ?_, ?_, ((h.wr.only ho (fun k hk hk2 => h.ap k hk hk2)).only os (fun k hk hk2 => h.pr (hk2 ▸ hk))).mono hL, hv.only os (fun k hk hk2 => hpr' (hk2 ▸ hk)), fun k hk hk2 => ?_, h.pr, hpr', ?_⟩, (ho.mono (fun i _ hi => .inl hi)).next os (fun i hi => .inl (.inr hi))⟩
  · rw [Array.getElem?_setIfInBounds, if_neg (by decide)]; exact h.c0
  · have hs : 1 < cur.size := (Array.getElem?_eq_some_iff.1 h.c1).1
    simp [hs]
  · rcases hf k hk2 with h1 | h1
    · exact h.ap k hk h1
    · have := (h.wr.lt hk).1; omega
  · have := ho.size
    have := h.bs
    simp; omega

end Go.Proofs.YtmpkcioeodlbcaaGreatDoor
namespace Go.Proofs.YtmpkcioeodlbcaaGreatDoor
open RowKit
theorem Rt.cells {w w1 : World} {p base r o L : Nat} {e : TypeId} {cur : Array Value} {vr vo : Value} (h : Rt w p e cur base vr vo r o L) {S : Nat → Prop} (ho : Only S w w1) (hp : ¬ S p) : w1.cell? ⟨p, 0, none⟩ = some vr ∧ w1.cell? ⟨p, 1, none⟩ = some vo ∧ w1.frozen? ⟨p, 0, none⟩ = false ∧ w1.frozen? ⟨p, 1, none⟩ = false := by
  have hb1 : w1.heap[p]? = some (.cells cur e (0, 0)) := by rw [ho.block p h.plt hp]; exact h.blk
  exact ⟨by rw [cell_of_row w1 p 0 cur e (0, 0) hb1]; exact h.c0, by rw [cell_of_row w1 p 1 cur e (0, 0) hb1]; exact h.c1, frozen_of_row w1 p 0 cur e hb1, frozen_of_row w1 p 1 cur e hb1⟩
theorem Rt.mono' {w : World} {p base r o L L' : Nat} {e : TypeId} {cur : Array Value} {vr vo : Value} (h : Rt w p e cur base vr vo r o L) (hl : L ≤ L') : Rt w p e cur base vr vo r o L' := ⟨h.blk, h.c0, h.c1, h.wr.mono hl, h.wo.mono hl, h.ap, h.pr, h.po, h.bs⟩
set_option maxRecDepth 10000 in
set_option maxHeartbeats 2000000 in
theorem qbelow_any {w : World} {p base r o L : Nat} {e : TypeId} {cur : Array Value} {vr vo : Value} (h : Rt w p e cur base vr vo r o L) (hr : 0 < r) (ho : 0 < o) (hL : L ≤ 1000) :
    Calls Tryz.prog 243 #[.pointer (some ⟨p, 0, none⟩)] w fun e' w' => ∃ D : Nat, e' = .returned (.int .i64 ((D : Int) - 1021)) ∧ D ≤ 1100000 ∧ ∃ cur' vr' vo' r' o', Good r o r' o' D ∧ Rt w' p e cur' base vr' vo' r' o' (2 * L + 20) ∧ Only (fun k => Ob vr k ∨ Ob vo k ∨ k = p) w w' := by
  have c0 := h.cell0
  have c1 := h.cell1
  obtain ⟨lr, hlr⟩ : ∃ lr, lr = nbits r := ⟨_, rfl⟩
  obtain ⟨lo, hlo⟩ : ∃ lo, lo = nbits o := ⟨_, rfl⟩
  have HLR : Hid (nbits r = lr) := hlr.symm
  have HLO : Hid (nbits o = lo) := hlo.symm
  have blr : lr ≤ 64 * L := by
    obtain ⟨ws, _, k, _, hn, hl⟩ := h.wr
    rw [hlr]
    apply nbits_le
    have := qn_lt k
    rw [pow64, hn] at this
    exact Nat.lt_of_lt_of_le this (Nat.pow_le_pow_right (by decide) (by omega))
  have blo : lo ≤ 64 * L := by
    obtain ⟨ws, _, k, _, hn, hl⟩ := h.wo
    rw [hlo]
    apply nbits_le
    have := qn_lt k
    rw [pow64, hn] at this
    exact Nat.lt_of_lt_of_le this (Nat.pow_le_pow_right (by decide) (by omega))
  by_cases hlt : lr < lo
  · obtain ⟨n, hn⟩ : ∃ n, n = min (lo - lr) 1021 := ⟨_, rfl⟩
    have hmax : max ((lr : Int) - (lo : Int)) (-1021) = -(n : Int) := by omega
    have HA : Hid ((r * 2 ^ n < o → Good r o (r * 2 ^ n) o (1021 - n)) ∧ (o ≤ r * 2 ^ n → Good r o (r * 2 ^ n) (o * 2 + 0) (1021 - n + 1))) := bl_A hr ho (by rw [← hlr, ← hlo]; exact hn) (by rw [← hlr, ← hlo]; exact hlt)
    have hn1 : n ≤ 1021 := by omega
    have hn0 : 0 < n := by omega
    clear hlr hlo hn
    go_enter Tryz.func243, Tryz.ntmps243
    go_wp2_with fail
    go_region_held_law (fun W => W.cell? ⟨p, 0, none⟩ = some vr ∧ W.cell? ⟨p, 1, none⟩ = some vo)
      (first | with_reducible exact D1 | with_reducible exact D2 | go_keep)
      (first
      | (go_at_call 263; (with_reducible refine (qlen_any _ (h.wr.hp (by first | exact hp_drew _ | exact hp_drewN _ _)) hr (by omega)).mono ?_); rintro e1 w1 ⟨m1, rfl, rfl⟩; rw [HLR.out])
      | (go_at_call 263; (with_reducible refine (qlen_any _ (h.wo.hp (by first | exact hp_drew _ | exact hp_drewN _ _)) ho (by omega)).mono ?_); rintro e2 w2 ⟨m2, rfl, rfl⟩; rw [HLO.out]))
    have hif : (if IntKind.i64.wrap ((lr : Int) - (lo : Int)) < -1021 then -1021 else IntKind.i64.wrap ((lr : Int) - (lo : Int))) = -(n : Int) := by rw [IntKind.wrap_i64]; split <;> omega
    simp only [hif]
    go_wp2_with (go_at_call 264; (with_reducible refine (qtwos_any _ base _ L n _ (h.wr.hp (by first | exact hp_drew _ | exact hp_drewN _ _)) hr (by omega) (by omega) (by rw [hp_drewN]; exact h.bs)).mono ?_); rintro e5 w1 ⟨v1, rfl, k1, k2, k3⟩; obtain ⟨kc0, kc1, kf0, kf1⟩ := h.cells (k2.hp rfl rfl rfl rfl) h.pr; obtain ⟨sa, sn, sc, rfl⟩ := k1.sl)
    obtain ⟨R1, O1⟩ := h.put (k2.hp rfl rfl rfl rfl) k1 (fun k hk => .inr (k3 k hk)) (by omega)
    have R1 := R1.mono' (L' := 2 * L + 19) (by omega)
    obtain ⟨W, hW⟩ : ∃ W, W = w1.setCell ⟨p, 0, none⟩ (.slice sa sn sc) := ⟨_, rfl⟩
    rw [← hW] at R1 O1 ⊢
    have O2 : Only (fun k => Ob vr k ∨ Ob vo k ∨ k = p) w W := O1.mono (fun i _ hi => by rcases hi with hi | hi; exact .inl hi; exact .inr (.inr hi))
    have d0 := R1.cell0
    have d1 := R1.cell1
    clear hW c0 c1 kc0 kc1 kf0 kf1 O1
    obtain ⟨x, hx⟩ : ∃ x, cmI (r * 2 ^ n) (o) = x := ⟨_, rfl⟩
    have HX : Hid (cmI (r * 2 ^ n) (o) = x) := hx
    by_cases hge : o ≤ r * 2 ^ n
    · have hx0 : 0 ≤ x := by rw [← hx]; exact cmI_ge.2 hge
      have HG := HA.out.2 hge
      clear hx HA
      go_wp2_with fail
      go_region_held_law (fun V => V.cell? ⟨p, 0, none⟩ = some (Value.slice sa sn sc) ∧ V.cell? ⟨p, 1, none⟩ = some vo)
        (first | go_keep)
        (first
        | (go_at_call 265; (with_reducible refine (qcmp_any _ (R1.wr.hp (by first | exact hp_drew _ | exact hp_drewN _ _)) (R1.wo.hp (by first | exact hp_drew _ | exact hp_drewN _ _)) (by omega) (by omega)).mono ?_); rintro e3 w3 ⟨m3, rfl, rfl⟩; rw [HX.out]))
      go_wp2_with (go_at_call 261; (with_reducible refine (qtimesI 2 0 (R1.wo.hp (by first | exact hp_drew _ | exact hp_drewN _ _)) (by omega) (by omega) (by omega) (by omega) (by omega) (by omega) (by rw [hp_drewN]; exact R1.bs)).mono ?_); rintro e4 w4 ⟨v4, rfl, q1, q2, q3⟩; obtain ⟨qc0, qc1, qf0, qf1⟩ := R1.cells (q2.hp rfl rfl rfl rfl) R1.po; obtain ⟨a4, n4, c4, rfl⟩ := q1.sl)
      go_ret
      obtain ⟨R5, O5⟩ := R1.put1 (q2.hp rfl rfl rfl rfl) q1 q3 (Nat.le_succ _)
      refine ⟨1021 - n + 1, congrArg Ending.returned (congrArg (Value.int .i64) (by omega)), by omega, _, _, _, _, _, HG, R5.mono' (by omega), O2.next O5 (fun i hi => ?_)⟩
      rcases hi with hi | hi
      · exact .inl (.inr (.inl hi))
      · exact .inl (.inr (.inr hi))
    · have hx0 : ¬ 0 ≤ x := by rw [← hx]; exact fun h => hge (cmI_ge.1 h)
      have HG := HA.out.1 (by omega)
      clear hx HA
      go_wp2_with fail
      go_region_held_law (fun V => V.cell? ⟨p, 0, none⟩ = some (Value.slice sa sn sc) ∧ V.cell? ⟨p, 1, none⟩ = some vo)
        (first | go_keep)
        (first
        | (go_at_call 265; (with_reducible refine (qcmp_any _ (R1.wr.hp (by first | exact hp_drew _ | exact hp_drewN _ _)) (R1.wo.hp (by first | exact hp_drew _ | exact hp_drewN _ _)) (by omega) (by omega)).mono ?_); rintro e3 w3 ⟨m3, rfl, rfl⟩; rw [HX.out]))
      go_wp2
      go_ret
      exact ⟨1021 - n, congrArg Ending.returned (congrArg (Value.int .i64) (by omega)), by omega, _, _, _, _, _, HG, (R1.mono' (by omega)).drewN _, O2.drewN _⟩
  · obtain ⟨n, hn⟩ : ∃ n, n = lr - lo := ⟨_, rfl⟩
    have HA : Hid ((r < o * 2 ^ n → Good r o r (o * 2 ^ n) (1021 + n)) ∧ (o * 2 ^ n ≤ r → Good r o r (o * 2 ^ n * 2 + 0) (1021 + n + 1))) := bl_B hr ho (by rw [← hlr, ← hlo]; exact hn) (by rw [← hlr, ← hlo]; omega)
    have hn1 : n ≤ 64 * L := by omega
    have HNI : Hid ((lr : Int) - (lo : Int) = n) := by show _ = _; omega
    have hn0 : ¬ (n : Int) < 0 := by omega
    clear hlr hlo hn
    go_enter Tryz.func243, Tryz.ntmps243
    go_wp2_with fail
    go_region_held_law (fun W => W.cell? ⟨p, 0, none⟩ = some vr ∧ W.cell? ⟨p, 1, none⟩ = some vo)
      (first | with_reducible exact D1 | with_reducible exact D2 | go_keep)
      (first
      | (go_at_call 263; (with_reducible refine (qlen_any _ (h.wr.hp (by first | exact hp_drew _ | exact hp_drewN _ _)) hr (by omega)).mono ?_); rintro e1 w1 ⟨m1, rfl, rfl⟩; rw [HLR.out])
      | (go_at_call 263; (with_reducible refine (qlen_any _ (h.wo.hp (by first | exact hp_drew _ | exact hp_drewN _ _)) ho (by omega)).mono ?_); rintro e2 w2 ⟨m2, rfl, rfl⟩; rw [HLO.out]))
    have hif : (if IntKind.i64.wrap ((lr : Int) - (lo : Int)) < -1021 then -1021 else IntKind.i64.wrap ((lr : Int) - (lo : Int))) = (n : Int) := by have := HNI.out; rw [IntKind.wrap_i64]; split <;> omega
    simp only [hif]
    go_wp2_with (go_at_call 264; (with_reducible refine (qtwos_any _ base _ L n _ (h.wo.hp (by first | exact hp_drew _ | exact hp_drewN _ _)) ho (by omega) (by omega) (by rw [hp_drewN]; exact h.bs)).mono ?_); rintro e5 w1 ⟨v1, rfl, k1, k2, k3⟩; obtain ⟨kc0, kc1, kf0, kf1⟩ := h.cells (k2.hp rfl rfl rfl rfl) h.po; obtain ⟨sa, sn, sc, rfl⟩ := k1.sl)
    obtain ⟨R1, O1⟩ := h.put1 (k2.hp rfl rfl rfl rfl) k1 (fun k hk => .inr (k3 k hk)) (by omega)
    have R1 := R1.mono' (L' := 2 * L + 19) (by omega)
    obtain ⟨W, hW⟩ : ∃ W, W = w1.setCell ⟨p, 1, none⟩ (.slice sa sn sc) := ⟨_, rfl⟩
    rw [← hW] at R1 O1 ⊢
    have O2 : Only (fun k => Ob vr k ∨ Ob vo k ∨ k = p) w W := O1.mono (fun i _ hi => by rcases hi with hi | hi; exact .inr (.inl hi); exact .inr (.inr hi))
    have d0 := R1.cell0
    have d1 := R1.cell1
    clear hW c0 c1 kc0 kc1 kf0 kf1 O1
    obtain ⟨x, hx⟩ : ∃ x, cmI (r) (o * 2 ^ n) = x := ⟨_, rfl⟩
    have HX : Hid (cmI (r) (o * 2 ^ n) = x) := hx
    by_cases hge : o * 2 ^ n ≤ r
    · have hx0 : 0 ≤ x := by rw [← hx]; exact cmI_ge.2 hge
      have HG := HA.out.2 hge
      clear hx HA
      go_wp2_with fail
      go_region_held_law (fun V => V.cell? ⟨p, 0, none⟩ = some vr ∧ V.cell? ⟨p, 1, none⟩ = some (Value.slice sa sn sc))
        (first | go_keep)
        (first
        | (go_at_call 265; (with_reducible refine (qcmp_any _ (R1.wr.hp (by first | exact hp_drew _ | exact hp_drewN _ _)) (R1.wo.hp (by first | exact hp_drew _ | exact hp_drewN _ _)) (by omega) (by omega)).mono ?_); rintro e3 w3 ⟨m3, rfl, rfl⟩; rw [HX.out]))
      go_wp2_with (go_at_call 261; (with_reducible refine (qtimesI 2 0 (R1.wo.hp (by first | exact hp_drew _ | exact hp_drewN _ _)) (by omega) (by omega) (by omega) (by omega) (by omega) (by omega) (by rw [hp_drewN]; exact R1.bs)).mono ?_); rintro e4 w4 ⟨v4, rfl, q1, q2, q3⟩; obtain ⟨qc0, qc1, qf0, qf1⟩ := R1.cells (q2.hp rfl rfl rfl rfl) R1.po; obtain ⟨a4, n4, c4, rfl⟩ := q1.sl)
      go_ret
      obtain ⟨R5, O5⟩ := R1.put1 (q2.hp rfl rfl rfl rfl) q1 q3 (Nat.le_succ _)
      refine ⟨1021 + n + 1, congrArg Ending.returned (congrArg (Value.int .i64) (by omega)), by omega, _, _, _, _, _, HG, R5.mono' (by omega), O2.next O5 (fun i hi => ?_)⟩
      rcases hi with hi | hi
      · exact .inr (k3 i hi)
      · exact .inl (.inr (.inr hi))
    · have hx0 : ¬ 0 ≤ x := by rw [← hx]; exact fun h => hge (cmI_ge.1 h)
      have HG := HA.out.1 (by omega)
      clear hx HA
      go_wp2_with fail
      go_region_held_law (fun V => V.cell? ⟨p, 0, none⟩ = some vr ∧ V.cell? ⟨p, 1, none⟩ = some (Value.slice sa sn sc))
        (first | go_keep)
        (first
        | (go_at_call 265; (with_reducible refine (qcmp_any _ (R1.wr.hp (by first | exact hp_drew _ | exact hp_drewN _ _)) (R1.wo.hp (by first | exact hp_drew _ | exact hp_drewN _ _)) (by omega) (by omega)).mono ?_); rintro e3 w3 ⟨m3, rfl, rfl⟩; rw [HX.out]))
      go_wp2
      go_ret
      exact ⟨1021 + n, congrArg Ending.returned (congrArg (Value.int .i64) (by omega)), by omega, _, _, _, _, _, HG, (R1.mono' (by omega)).drewN _, O2.drewN _⟩

end Go.Proofs.YtmpkcioeodlbcaaGreatDoor
namespace Go.Proofs.YtmpkcioeodlbcaaGreatDoor
open RowKit
/-- 53 digits of a ratio below 1, rounded -/
def fr53 (r o : Nat) : Nat := r * 9007199254740992 / o + (rUp (r * 9007199254740992 % o) o (r * 9007199254740992 / o)).toNat
theorem dig_step (A o : Nat) : A * 2 / o = 2 * (A / o) + A % o * 2 / o ∧ A * 2 % o = A % o * 2 % o := by
  have e : A * 2 = A % o * 2 + 2 * (A / o) * o := by
    have := Nat.div_add_mod A o
    have h2 : 2 * (A / o) * o = 2 * (o * (A / o)) := by rw [Nat.mul_assoc, Nat.mul_comm (A / o)]
    omega
  rcases Nat.eq_zero_or_pos o with h | h
  · subst h; simp
  · constructor
    · rw [e, Nat.add_mul_div_right _ _ h, Nat.add_comm]
    · rw [e, Nat.add_mul_mod_self_right]
theorem dig_lt {r o i : Nat} (h : r < o) (hi : i ≤ 53) : r * 2 ^ i / o < 9007199254740992 := by
  have h1 : r * 2 ^ i / o < 2 ^ i := by
    rw [Nat.div_lt_iff_lt_mul (by omega), Nat.mul_comm]
    exact Nat.mul_lt_mul_of_pos_left h (Nat.two_pow_pos i)
  have h2 : 2 ^ i ≤ 2 ^ 53 := Nat.pow_le_pow_right (by decide) hi
  have h3 : (2 : Nat) ^ 53 = 9007199254740992 := by decide
  omega
theorem wh_one (w : World) (base x L : Nat) (hb : base ≤ w.heap.size) (hx : 0 < x) (hx2 : x < 18446744073709551616) (hL : 1 ≤ L) : Wh (w.alloc (.cells #[.int .u64 (x : Int)] 47)) base (.slice (some ⟨w.heap.size, 0, none⟩) 1 1) x L :=
  ⟨[x], World.ownsRow_lit w _ 1 hb (by unfold maxLen; omega) rfl, fun y hy => by simp at hy; omega, fun _ => by simp; omega, by simp [qn], hL⟩
/-- a power of ten, as it is taken -/
def clp (pw : Int) : Int := if pw < -400 then -400 else if 400 < pw then 400 else pw
theorem clp_le (pw : Int) : -400 ≤ clp pw ∧ clp pw ≤ 400 := by unfold clp; split <;> (try split) <;> omega
def pP (z : Nat) (c : Int) : Nat := z * 10 ^ c.toNat
def pQ (c : Int) : Nat := 10 ^ (-c).toNat
theorem qnear_zero (base L : Nat) (v : Value) (pw : Int) (w : World) (hv : Wh w base v 0 L) : Calls Tryz.prog 220 #[v, .int .i64 pw] w fun e w' => e = .returned (.int .u64 0) ∧ w' = w := by
  obtain ⟨ws, h1, h2, h3, h4, h5⟩ := hv
  have hl := (qn_pos h3).1 h4
  obtain ⟨ao, ca, rfl, _⟩ := own_rd h1
  rw [hl]
  go_enter Tryz.func220, Tryz.ntmps220
  go_wp2
  go_ret
  exact ⟨rfl, rfl⟩
theorem qtensI {v : Value} {base z L : Nat} (n : Nat) {N : Int} {w : World} (hv : Wh w base v z L) (hN : N = ((n : Nat) : Int)) (hL : L + n ≤ 100000) (hbase : base ≤ w.heap.size) :
    Calls Tryz.prog 242 #[v, .int .i64 N] w fun e w' => ∃ v', e = .returned v' ∧ Wh w' base v' (z * 10 ^ n) (L + n) ∧ Only (Ob v) w w' ∧ (∀ k, Ob v' k → Ob v k ∨ w.heap.size ≤ k) := by
  subst hN
  exact qtens_any v base z L n w hv hL hbase
set_option maxRecDepth 10000 in
set_option maxHeartbeats 2000000 in
theorem qnear_any (base z L : Nat) (v : Value) (pw : Int) (w : World) (hv : Wh w base v z L) (hz : 0 < z) (hL1 : 1 ≤ L) (hL : L ≤ 100) (hbase : base ≤ w.heap.size) :
    Calls Tryz.prog 220 #[v, .int .i64 pw] w fun e w' => ∃ bw D r' o' : Nat, e = .returned (.int .u64 bw) ∧ Good (pP z (clp pw)) (pQ (clp pw)) r' o' D ∧ (bw : Int) = (((D * 4503599627370496) % 18446744073709551616 + fr53 r' o') % 18446744073709551616 : Nat) ∧ Below base w w' := by
  have hlt : ∀ k, Ob v k → k < w.heap.size := fun k hk => (hv.lt hk).1
  obtain ⟨sa, sn, sc, rfl⟩ := hv.sl
  have hsn : sn ≠ 0 := by
    intro h0
    obtain ⟨ws, h1, h2, h3, h4, h5⟩ := hv
    obtain ⟨ao, ca, he, _⟩ := own_rd h1
    simp only [Value.slice.injEq] at he
    have := (qn_pos h3).2 (by omega)
    omega
  have hsI : ((sn : Int) == 0) = false := by simp; omega
  obtain ⟨c, hc⟩ : ∃ c, c = clp pw := ⟨_, rfl⟩
  have hcb := clp_le pw
  rw [← hc] at hcb ⊢
  obtain ⟨W0, hW0⟩ : ∃ W0, W0 = (w.alloc (.cells #[.int .u64 1] 47)).alloc (.cells #[.slice sa sn sc, .slice (some ⟨w.heap.size, 0, none⟩) 1 1] 318) := ⟨_, rfl⟩
  have OW : Below base w W0 := by rw [hW0]; exact ((Below.refl base w).alloc hbase _).alloc (by simp; omega) _
  have R0 : Rt W0 (w.heap.size + 1) 318 #[.slice sa sn sc, .slice (some ⟨w.heap.size, 0, none⟩) 1 1] base (.slice sa sn sc) (.slice (some ⟨w.heap.size, 0, none⟩) 1 1) z 1 L := by
    rw [hW0]
    refine ⟨?_, rfl, rfl, wh_alloc (wh_alloc hv _) _, wh_alloc (wh_one w base 1 L hbase (by omega) (by omega) hL1) _, fun k hk hk2 => ?_, fun hk => ?_, fun hk => ?_, ?_⟩
    · have := heap_alloc_new (w.alloc (.cells #[.int .u64 1] 47)) (.cells #[.slice sa sn sc, .slice (some ⟨w.heap.size, 0, none⟩) 1 1] 318)
      simpa using this
    · have := hlt k hk; simp [Ob, Value.ownBlock] at hk2; omega
    · have := hlt _ hk; omega
    · simp [Ob, Value.ownBlock] at hk
    · simp; omega
  have c0 := R0.cell0
  have c1 := R0.cell1
  rcases (by omega : pw < -400 ∨ (-400 ≤ pw ∧ pw < 0) ∨ (0 ≤ pw ∧ pw ≤ 400) ∨ 400 < pw) with h1 | h1 | h1 | h1
  · obtain ⟨n, hn⟩ : ∃ n : Nat, n = 400 := ⟨_, rfl⟩
    have hc' : Hid (c = -(n : Int)) := by show _ = _; rw [hc, hn]; unfold clp; rw [if_pos h1]; rfl
    have hn4 : n ≤ 400 := by omega
    have h1I : ¬ (400 : Int) < -400 := by decide
    go_enter Tryz.func220, Tryz.ntmps220
    go_wp2_with fail
    rw [← hW0]
    clear hW0
    go_wp2_with (first
      | (go_at_call 242; (with_reducible refine (qtensI n R0.wo (by omega) (by omega) R0.bs).mono ?_); rintro e1 w1 ⟨v1, rfl, k1, k2, k3⟩; obtain ⟨kc0, kc1, kf0, kf1⟩ := R0.cells k2 R0.po; obtain ⟨s1, s2, s3, rfl⟩ := k1.sl))
    obtain ⟨R1, O1⟩ := R0.put1 k2 k1 k3 (by omega)
    have B1 := OW.trans (O1.below base R0.bs (fun i hi => by rcases hi with hi | hi; exact (R0.wo.lt hi).2; omega))
    obtain ⟨W1, hW1⟩ : ∃ W1, W1 = w1.setCell ⟨w.heap.size + 1, 1, none⟩ (.slice s1 s2 s3) := ⟨_, rfl⟩
    rw [← hW1] at R1 B1 ⊢
    clear hW1 kc0 kc1 kf0 kf1 O1 k1 k2 k3 c0 c1 R0 OW
    go_wp2_with (go_at_call 243; (with_reducible refine (qbelow_any R1 hz (Nat.mul_pos (by omega) (Nat.pow_pos (by omega))) (by omega)).mono ?_); rintro e2 w2 ⟨D, rfl, hD, cur2, vr2, vo2, r2, o2, HG, R2, O2⟩)
    have B2 := B1.trans (O2.below base R1.bs (fun i hi => by rcases hi with hi | hi | hi; exact (R1.wr.lt hi).2; exact (R1.wo.lt hi).2; omega))
    have HG' : Hid (Good (z) (1 * 10 ^ n) r2 o2 D) := HG
    have hro : r2 < o2 := HG.1
    clear HG O2 B1 R1
    go_loopw [7, 32] (fun fv iv wq => ∃ (i f : Nat) (vr : Value) (cur : Array Value), fv = .int .u64 f ∧ iv = .int .i64 i ∧ i ≤ 53 ∧ f = r2 * 2 ^ i / o2 ∧ Rt wq (w.heap.size + 1) 318 cur base vr vo2 (r2 * 2 ^ i % o2) o2 2000 ∧ Below base w wq) (fun _ iv _ => 53 - (intOf iv).toNat)
    case atStart => exact ⟨0, 0, vr2, cur2, rfl, rfl, by omega, by rw [Nat.pow_zero, Nat.mul_one, Nat.div_eq_of_lt hro], by rw [Nat.pow_zero, Nat.mul_one, Nat.mod_eq_of_lt hro]; exact R2.mono' (by omega), B2⟩
    case round =>
      clear R2 B2
      obtain ⟨i, f, vr, cur, rfl, rfl, hi, hf, R, B⟩ := hrel
      have hfl := dig_lt hro hi
      rw [← hf] at hfl
      have HF : Hid (f = r2 * 2 ^ i / o2) := hf
      have hrl : r2 * 2 ^ i % o2 < o2 := Nat.mod_lt _ (by omega)
      have HB : Hid (Below base w wr) := B
      clear hf B
      by_cases hi3 : i < 53
      · have hiI : (i : Int) < 53 := by omega
        go_wp2_with (go_at_call 244; (with_reducible refine (qnext_any R hrl (b := 2) (by omega) (by omega) (by omega) (by omega)).mono ?_); rintro e3 w3 ⟨dd, rfl, hdd', v3, R3, O3, F3⟩; have hdd : Hid (dd = r2 * 2 ^ i % o2 * 2 / o2) := hdd'; clear hdd')
        have B3 := HB.out.trans (O3.below base R.bs (fun i hi => by rcases hi with hi | hi; exact (R.wr.lt hi).2; omega))
        obtain ⟨E1, E2⟩ := dig_step (r2 * 2 ^ i) o2
        have hd2 : dd < 2 := by rw [hdd.out]; exact next_lt hrl (Nat.div_mul_le_self _ _) (by omega)
        rw [Nat.mul_assoc, ← Nat.pow_succ] at E1 E2
        rw [← E2] at R3
        go_roundw
        case rel =>
          refine ⟨i + 1, 2 * f + dd, v3, _, ?_, by go_num, by omega, by rw [E1, HF.out, hdd.out], R3, B3⟩
          first | rfl | (refine congrArg (Value.int .u64) ?_; rw [IntKind.wrap_u64]; omega) | (refine congrArg (Value.int .u64) ?_; omega)
        case measure => simp [intOf]; omega
      · have e53 : i = 53 := by omega
        subst e53
        have hiI : ¬ ((53 : Nat) : Int) < 53 := by omega
        have ho2 : 0 < o2 := by omega
        obtain ⟨up, hup⟩ : ∃ up, up = rUp (r2 * 2 ^ 53 % o2) o2 f := ⟨_, rfl⟩
        have HU : Hid (rUp (r2 * 2 ^ 53 % o2) o2 f = up) := hup.symm
        clear hup
        cases up
        all_goals
          go_wp2_with (go_at_call 245; (with_reducible refine (qround_any R (Nat.le_of_lt hrl) ho2 (by omega) (by omega)).mono ?_); rintro e4 w4 ⟨rfl, B4⟩; rw [HU.out])
          go_ret
          have B5 := HB.out.trans (⟨B4.os, B4.tape, B4.output, B4.size, fun k hk => B4.block k (Nat.lt_of_lt_of_le hk R.bs)⟩ : Below base wr w4)
          have HF' := HF.out
          have HU' := HU.out
          rw [show (2 : Nat) ^ 53 = 9007199254740992 by decide] at HF' HU'
          refine ⟨((D * 4503599627370496) % 18446744073709551616 + fr53 r2 o2) % 18446744073709551616, D, r2, o2, congrArg Ending.returned (congrArg (Value.int .u64) ?_), ?_, rfl, B5⟩
          · unfold fr53
            rw [← HF', HU', IntKind.wrap_u64, IntKind.wrap_u64]
            simp only [Bool.toNat_false, Bool.toNat_true]
            omega
          · rw [hc'.out]
            unfold pP pQ
            have := HG'.out
            simpa using this
  · obtain ⟨n, hn⟩ : ∃ n : Nat, pw = -(n : Int) := ⟨(-pw).toNat, by omega⟩
    subst hn
    have hc' : Hid (c = -(n : Int)) := by show _ = _; rw [hc]; unfold clp; rw [if_neg (by omega), if_neg (by omega)]
    have hn4 : n ≤ 400 := by omega
    have h2 : ¬ -(n : Int) < -400 := by omega
    have h3 : ¬ 400 < -(n : Int) := by omega
    have h4 : -(n : Int) < 0 := by omega
    go_enter Tryz.func220, Tryz.ntmps220
    go_wp2_with fail
    rw [← hW0]
    clear hW0
    go_wp2_with (first
      | (go_at_call 242; (with_reducible refine (qtensI n R0.wo (by omega) (by omega) R0.bs).mono ?_); rintro e1 w1 ⟨v1, rfl, k1, k2, k3⟩; obtain ⟨kc0, kc1, kf0, kf1⟩ := R0.cells k2 R0.po; obtain ⟨s1, s2, s3, rfl⟩ := k1.sl))
    obtain ⟨R1, O1⟩ := R0.put1 k2 k1 k3 (by omega)
    have B1 := OW.trans (O1.below base R0.bs (fun i hi => by rcases hi with hi | hi; exact (R0.wo.lt hi).2; omega))
    obtain ⟨W1, hW1⟩ : ∃ W1, W1 = w1.setCell ⟨w.heap.size + 1, 1, none⟩ (.slice s1 s2 s3) := ⟨_, rfl⟩
    rw [← hW1] at R1 B1 ⊢
    clear hW1 kc0 kc1 kf0 kf1 O1 k1 k2 k3 c0 c1 R0 OW
    go_wp2_with (go_at_call 243; (with_reducible refine (qbelow_any R1 hz (Nat.mul_pos (by omega) (Nat.pow_pos (by omega))) (by omega)).mono ?_); rintro e2 w2 ⟨D, rfl, hD, cur2, vr2, vo2, r2, o2, HG, R2, O2⟩)
    have B2 := B1.trans (O2.below base R1.bs (fun i hi => by rcases hi with hi | hi | hi; exact (R1.wr.lt hi).2; exact (R1.wo.lt hi).2; omega))
    have HG' : Hid (Good (z) (1 * 10 ^ n) r2 o2 D) := HG
    have hro : r2 < o2 := HG.1
    clear HG O2 B1 R1
    go_loopw [7, 32] (fun fv iv wq => ∃ (i f : Nat) (vr : Value) (cur : Array Value), fv = .int .u64 f ∧ iv = .int .i64 i ∧ i ≤ 53 ∧ f = r2 * 2 ^ i / o2 ∧ Rt wq (w.heap.size + 1) 318 cur base vr vo2 (r2 * 2 ^ i % o2) o2 2000 ∧ Below base w wq) (fun _ iv _ => 53 - (intOf iv).toNat)
    case atStart => exact ⟨0, 0, vr2, cur2, rfl, rfl, by omega, by rw [Nat.pow_zero, Nat.mul_one, Nat.div_eq_of_lt hro], by rw [Nat.pow_zero, Nat.mul_one, Nat.mod_eq_of_lt hro]; exact R2.mono' (by omega), B2⟩
    case round =>
      clear R2 B2
      obtain ⟨i, f, vr, cur, rfl, rfl, hi, hf, R, B⟩ := hrel
      have hfl := dig_lt hro hi
      rw [← hf] at hfl
      have HF : Hid (f = r2 * 2 ^ i / o2) := hf
      have hrl : r2 * 2 ^ i % o2 < o2 := Nat.mod_lt _ (by omega)
      have HB : Hid (Below base w wr) := B
      clear hf B
      by_cases hi3 : i < 53
      · have hiI : (i : Int) < 53 := by omega
        go_wp2_with (go_at_call 244; (with_reducible refine (qnext_any R hrl (b := 2) (by omega) (by omega) (by omega) (by omega)).mono ?_); rintro e3 w3 ⟨dd, rfl, hdd', v3, R3, O3, F3⟩; have hdd : Hid (dd = r2 * 2 ^ i % o2 * 2 / o2) := hdd'; clear hdd')
        have B3 := HB.out.trans (O3.below base R.bs (fun i hi => by rcases hi with hi | hi; exact (R.wr.lt hi).2; omega))
        obtain ⟨E1, E2⟩ := dig_step (r2 * 2 ^ i) o2
        have hd2 : dd < 2 := by rw [hdd.out]; exact next_lt hrl (Nat.div_mul_le_self _ _) (by omega)
        rw [Nat.mul_assoc, ← Nat.pow_succ] at E1 E2
        rw [← E2] at R3
        go_roundw
        case rel =>
          refine ⟨i + 1, 2 * f + dd, v3, _, ?_, by go_num, by omega, by rw [E1, HF.out, hdd.out], R3, B3⟩
          first | rfl | (refine congrArg (Value.int .u64) ?_; rw [IntKind.wrap_u64]; omega) | (refine congrArg (Value.int .u64) ?_; omega)
        case measure => simp [intOf]; omega
      · have e53 : i = 53 := by omega
        subst e53
        have hiI : ¬ ((53 : Nat) : Int) < 53 := by omega
        have ho2 : 0 < o2 := by omega
        obtain ⟨up, hup⟩ : ∃ up, up = rUp (r2 * 2 ^ 53 % o2) o2 f := ⟨_, rfl⟩
        have HU : Hid (rUp (r2 * 2 ^ 53 % o2) o2 f = up) := hup.symm
        clear hup
        cases up
        all_goals
          go_wp2_with (go_at_call 245; (with_reducible refine (qround_any R (Nat.le_of_lt hrl) ho2 (by omega) (by omega)).mono ?_); rintro e4 w4 ⟨rfl, B4⟩; rw [HU.out])
          go_ret
          have B5 := HB.out.trans (⟨B4.os, B4.tape, B4.output, B4.size, fun k hk => B4.block k (Nat.lt_of_lt_of_le hk R.bs)⟩ : Below base wr w4)
          have HF' := HF.out
          have HU' := HU.out
          rw [show (2 : Nat) ^ 53 = 9007199254740992 by decide] at HF' HU'
          refine ⟨((D * 4503599627370496) % 18446744073709551616 + fr53 r2 o2) % 18446744073709551616, D, r2, o2, congrArg Ending.returned (congrArg (Value.int .u64) ?_), ?_, rfl, B5⟩
          · unfold fr53
            rw [← HF', HU', IntKind.wrap_u64, IntKind.wrap_u64]
            simp only [Bool.toNat_false, Bool.toNat_true]
            omega
          · rw [hc'.out]
            unfold pP pQ
            have := HG'.out
            simpa using this
  · obtain ⟨n, hn⟩ : ∃ n : Nat, pw = (n : Int) := ⟨pw.toNat, by omega⟩
    subst hn
    have hc' : Hid (c = (n : Int)) := by show _ = _; rw [hc]; unfold clp; rw [if_neg (by omega), if_neg (by omega)]
    have hn4 : n ≤ 400 := by omega
    have h2 : ¬ (n : Int) < -400 := by omega
    have h3 : ¬ 400 < (n : Int) := by omega
    have h4 : ¬ (n : Int) < 0 := by omega
    go_enter Tryz.func220, Tryz.ntmps220
    go_wp2_with fail
    rw [← hW0]
    clear hW0
    go_wp2_with (first
      | (go_at_call 242; (with_reducible refine (qtensI n R0.wr (by omega) (by omega) R0.bs).mono ?_); rintro e1 w1 ⟨v1, rfl, k1, k2, k3⟩; obtain ⟨kc0, kc1, kf0, kf1⟩ := R0.cells k2 R0.pr; obtain ⟨s1, s2, s3, rfl⟩ := k1.sl))
    obtain ⟨R1, O1⟩ := R0.put k2 k1 k3 (by omega)
    have B1 := OW.trans (O1.below base R0.bs (fun i hi => by rcases hi with hi | hi; exact (R0.wr.lt hi).2; omega))
    obtain ⟨W1, hW1⟩ : ∃ W1, W1 = w1.setCell ⟨w.heap.size + 1, 0, none⟩ (.slice s1 s2 s3) := ⟨_, rfl⟩
    rw [← hW1] at R1 B1 ⊢
    clear hW1 kc0 kc1 kf0 kf1 O1 k1 k2 k3 c0 c1 R0 OW
    go_wp2_with (go_at_call 243; (with_reducible refine (qbelow_any R1 (Nat.mul_pos hz (Nat.pow_pos (by omega))) (by omega) (by omega)).mono ?_); rintro e2 w2 ⟨D, rfl, hD, cur2, vr2, vo2, r2, o2, HG, R2, O2⟩)
    have B2 := B1.trans (O2.below base R1.bs (fun i hi => by rcases hi with hi | hi | hi; exact (R1.wr.lt hi).2; exact (R1.wo.lt hi).2; omega))
    have HG' : Hid (Good (z * 10 ^ n) (1) r2 o2 D) := HG
    have hro : r2 < o2 := HG.1
    clear HG O2 B1 R1
    go_loopw [7, 32] (fun fv iv wq => ∃ (i f : Nat) (vr : Value) (cur : Array Value), fv = .int .u64 f ∧ iv = .int .i64 i ∧ i ≤ 53 ∧ f = r2 * 2 ^ i / o2 ∧ Rt wq (w.heap.size + 1) 318 cur base vr vo2 (r2 * 2 ^ i % o2) o2 2000 ∧ Below base w wq) (fun _ iv _ => 53 - (intOf iv).toNat)
    case atStart => exact ⟨0, 0, vr2, cur2, rfl, rfl, by omega, by rw [Nat.pow_zero, Nat.mul_one, Nat.div_eq_of_lt hro], by rw [Nat.pow_zero, Nat.mul_one, Nat.mod_eq_of_lt hro]; exact R2.mono' (by omega), B2⟩
    case round =>
      clear R2 B2
      obtain ⟨i, f, vr, cur, rfl, rfl, hi, hf, R, B⟩ := hrel
      have hfl := dig_lt hro hi
      rw [← hf] at hfl
      have HF : Hid (f = r2 * 2 ^ i / o2) := hf
      have hrl : r2 * 2 ^ i % o2 < o2 := Nat.mod_lt _ (by omega)
      have HB : Hid (Below base w wr) := B
      clear hf B
      by_cases hi3 : i < 53
      · have hiI : (i : Int) < 53 := by omega
        go_wp2_with (go_at_call 244; (with_reducible refine (qnext_any R hrl (b := 2) (by omega) (by omega) (by omega) (by omega)).mono ?_); rintro e3 w3 ⟨dd, rfl, hdd', v3, R3, O3, F3⟩; have hdd : Hid (dd = r2 * 2 ^ i % o2 * 2 / o2) := hdd'; clear hdd')
        have B3 := HB.out.trans (O3.below base R.bs (fun i hi => by rcases hi with hi | hi; exact (R.wr.lt hi).2; omega))
        obtain ⟨E1, E2⟩ := dig_step (r2 * 2 ^ i) o2
        have hd2 : dd < 2 := by rw [hdd.out]; exact next_lt hrl (Nat.div_mul_le_self _ _) (by omega)
        rw [Nat.mul_assoc, ← Nat.pow_succ] at E1 E2
        rw [← E2] at R3
        go_roundw
        case rel =>
          refine ⟨i + 1, 2 * f + dd, v3, _, ?_, by go_num, by omega, by rw [E1, HF.out, hdd.out], R3, B3⟩
          first | rfl | (refine congrArg (Value.int .u64) ?_; rw [IntKind.wrap_u64]; omega) | (refine congrArg (Value.int .u64) ?_; omega)
        case measure => simp [intOf]; omega
      · have e53 : i = 53 := by omega
        subst e53
        have hiI : ¬ ((53 : Nat) : Int) < 53 := by omega
        have ho2 : 0 < o2 := by omega
        obtain ⟨up, hup⟩ : ∃ up, up = rUp (r2 * 2 ^ 53 % o2) o2 f := ⟨_, rfl⟩
        have HU : Hid (rUp (r2 * 2 ^ 53 % o2) o2 f = up) := hup.symm
        clear hup
        cases up
        all_goals
          go_wp2_with (go_at_call 245; (with_reducible refine (qround_any R (Nat.le_of_lt hrl) ho2 (by omega) (by omega)).mono ?_); rintro e4 w4 ⟨rfl, B4⟩; rw [HU.out])
          go_ret
          have B5 := HB.out.trans (⟨B4.os, B4.tape, B4.output, B4.size, fun k hk => B4.block k (Nat.lt_of_lt_of_le hk R.bs)⟩ : Below base wr w4)
          have HF' := HF.out
          have HU' := HU.out
          rw [show (2 : Nat) ^ 53 = 9007199254740992 by decide] at HF' HU'
          refine ⟨((D * 4503599627370496) % 18446744073709551616 + fr53 r2 o2) % 18446744073709551616, D, r2, o2, congrArg Ending.returned (congrArg (Value.int .u64) ?_), ?_, rfl, B5⟩
          · unfold fr53
            rw [← HF', HU', IntKind.wrap_u64, IntKind.wrap_u64]
            simp only [Bool.toNat_false, Bool.toNat_true]
            omega
          · rw [hc'.out]
            unfold pP pQ
            have := HG'.out
            simpa using this
  · obtain ⟨n, hn⟩ : ∃ n : Nat, n = 400 := ⟨_, rfl⟩
    have hc' : Hid (c = (n : Int)) := by show _ = _; rw [hc, hn]; unfold clp; rw [if_neg (by omega), if_pos h1]; rfl
    have hn4 : n ≤ 400 := by omega
    have h2 : ¬ pw < -400 := by omega
    go_enter Tryz.func220, Tryz.ntmps220
    go_wp2_with fail
    rw [← hW0]
    clear hW0
    go_wp2_with (first
      | (go_at_call 242; (with_reducible refine (qtensI n R0.wr (by omega) (by omega) R0.bs).mono ?_); rintro e1 w1 ⟨v1, rfl, k1, k2, k3⟩; obtain ⟨kc0, kc1, kf0, kf1⟩ := R0.cells k2 R0.pr; obtain ⟨s1, s2, s3, rfl⟩ := k1.sl))
    obtain ⟨R1, O1⟩ := R0.put k2 k1 k3 (by omega)
    have B1 := OW.trans (O1.below base R0.bs (fun i hi => by rcases hi with hi | hi; exact (R0.wr.lt hi).2; omega))
    obtain ⟨W1, hW1⟩ : ∃ W1, W1 = w1.setCell ⟨w.heap.size + 1, 0, none⟩ (.slice s1 s2 s3) := ⟨_, rfl⟩
    rw [← hW1] at R1 B1 ⊢
    clear hW1 kc0 kc1 kf0 kf1 O1 k1 k2 k3 c0 c1 R0 OW
    go_wp2_with (go_at_call 243; (with_reducible refine (qbelow_any R1 (Nat.mul_pos hz (Nat.pow_pos (by omega))) (by omega) (by omega)).mono ?_); rintro e2 w2 ⟨D, rfl, hD, cur2, vr2, vo2, r2, o2, HG, R2, O2⟩)
    have B2 := B1.trans (O2.below base R1.bs (fun i hi => by rcases hi with hi | hi | hi; exact (R1.wr.lt hi).2; exact (R1.wo.lt hi).2; omega))
    have HG' : Hid (Good (z * 10 ^ n) (1) r2 o2 D) := HG
    have hro : r2 < o2 := HG.1
    clear HG O2 B1 R1
    go_loopw [7, 32] (fun fv iv wq => ∃ (i f : Nat) (vr : Value) (cur : Array Value), fv = .int .u64 f ∧ iv = .int .i64 i ∧ i ≤ 53 ∧ f = r2 * 2 ^ i / o2 ∧ Rt wq (w.heap.size + 1) 318 cur base vr vo2 (r2 * 2 ^ i % o2) o2 2000 ∧ Below base w wq) (fun _ iv _ => 53 - (intOf iv).toNat)
    case atStart => exact ⟨0, 0, vr2, cur2, rfl, rfl, by omega, by rw [Nat.pow_zero, Nat.mul_one, Nat.div_eq_of_lt hro], by rw [Nat.pow_zero, Nat.mul_one, Nat.mod_eq_of_lt hro]; exact R2.mono' (by omega), B2⟩
    case round =>
      clear R2 B2
      obtain ⟨i, f, vr, cur, rfl, rfl, hi, hf, R, B⟩ := hrel
      have hfl := dig_lt hro hi
      rw [← hf] at hfl
      have HF : Hid (f = r2 * 2 ^ i / o2) := hf
      have hrl : r2 * 2 ^ i % o2 < o2 := Nat.mod_lt _ (by omega)
      have HB : Hid (Below base w wr) := B
      clear hf B
      by_cases hi3 : i < 53
      · have hiI : (i : Int) < 53 := by omega
        go_wp2_with (go_at_call 244; (with_reducible refine (qnext_any R hrl (b := 2) (by omega) (by omega) (by omega) (by omega)).mono ?_); rintro e3 w3 ⟨dd, rfl, hdd', v3, R3, O3, F3⟩; have hdd : Hid (dd = r2 * 2 ^ i % o2 * 2 / o2) := hdd'; clear hdd')
        have B3 := HB.out.trans (O3.below base R.bs (fun i hi => by rcases hi with hi | hi; exact (R.wr.lt hi).2; omega))
        obtain ⟨E1, E2⟩ := dig_step (r2 * 2 ^ i) o2
        have hd2 : dd < 2 := by rw [hdd.out]; exact next_lt hrl (Nat.div_mul_le_self _ _) (by omega)
        rw [Nat.mul_assoc, ← Nat.pow_succ] at E1 E2
        rw [← E2] at R3
        go_roundw
        case rel =>
          refine ⟨i + 1, 2 * f + dd, v3, _, ?_, by go_num, by omega, by rw [E1, HF.out, hdd.out], R3, B3⟩
          first | rfl | (refine congrArg (Value.int .u64) ?_; rw [IntKind.wrap_u64]; omega) | (refine congrArg (Value.int .u64) ?_; omega)
        case measure => simp [intOf]; omega
      · have e53 : i = 53 := by omega
        subst e53
        have hiI : ¬ ((53 : Nat) : Int) < 53 := by omega
        have ho2 : 0 < o2 := by omega
        obtain ⟨up, hup⟩ : ∃ up, up = rUp (r2 * 2 ^ 53 % o2) o2 f := ⟨_, rfl⟩
        have HU : Hid (rUp (r2 * 2 ^ 53 % o2) o2 f = up) := hup.symm
        clear hup
        cases up
        all_goals
          go_wp2_with (go_at_call 245; (with_reducible refine (qround_any R (Nat.le_of_lt hrl) ho2 (by omega) (by omega)).mono ?_); rintro e4 w4 ⟨rfl, B4⟩; rw [HU.out])
          go_ret
          have B5 := HB.out.trans (⟨B4.os, B4.tape, B4.output, B4.size, fun k hk => B4.block k (Nat.lt_of_lt_of_le hk R.bs)⟩ : Below base wr w4)
          have HF' := HF.out
          have HU' := HU.out
          rw [show (2 : Nat) ^ 53 = 9007199254740992 by decide] at HF' HU'
          refine ⟨((D * 4503599627370496) % 18446744073709551616 + fr53 r2 o2) % 18446744073709551616, D, r2, o2, congrArg Ending.returned (congrArg (Value.int .u64) ?_), ?_, rfl, B5⟩
          · unfold fr53
            rw [← HF', HU', IntKind.wrap_u64, IntKind.wrap_u64]
            simp only [Bool.toNat_false, Bool.toNat_true]
            omega
          · rw [hc'.out]
            unfold pP pQ
            have := HG'.out
            simpa using this

end Go.Proofs.YtmpkcioeodlbcaaGreatDoor
namespace Go.Proofs.YtmpkcioeodlbcaaGreatDoor
set_option linter.unusedVariables false
variable {H : Type} {enc : TypeId × Value → H}
theorem mln_shaped {w : World} (h : w.ShapedOpen Tryz.prog) : Mln w :=
  cell_of_shapedOpen_int (t := 3) (zero := #[.int .i64 0]) h (by decide +kernel) (by kernel_rfl) rfl (by kernel_rfl) (by kernel_rfl) Tryz.underlying3
end Go.Proofs.YtmpkcioeodlbcaaGreatDoor
