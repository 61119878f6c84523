/-
  Several texts in one: Shc Tka Tkb.
-/
import Derived.Test.YtmpkcioeodlbcaaGreatDoorProg
import Derived.Shelf.Strconv.Clone
import Derived.Test.YtmpkcioeodlbcaaGreatDoorChecked
import Derived.WalkKit
import Derived.Below
import Derived.RowKit3
import Derived.Laws.OwnMore
import Derived.Deep.AppendLies
import Derived.Deep.RegionHeldLaw
import Derived.Deep.QuietTactic
import Derived.Lib.SmallJoins
namespace Go.Proofs.YtmpkcioeodlbcaaGreatDoor
open Go.Shelf Go.Proofs
def scR : Ren := ⟨fun | 316 => 197 | n => n, fun | 0 => 0 | 3 => 3 | 4 => 4 | 5 => 5 | 9 => 9 | 37 => 298 | 127 => 299 | n => n, fun  | n => n⟩
theorem sc316 : Lays.n316 Tryz.prog scR := {
  mixed := by kernel_rfl
  f316 := Tryz.func197.trans (congrArg some (by kernel_rfl))
  t0 := Tryz.underlying0
  a0 := Tryz.isAgg0
  z0 := Tryz.sizeOf0
  v0 := Tryz.zeroValue0
  t3 := Tryz.underlying3
  a3 := Tryz.isAgg3
  z3 := Tryz.sizeOf3
  v3 := Tryz.zeroValue3
  t4 := Tryz.underlying4
  a4 := Tryz.isAgg4
  z4 := Tryz.sizeOf4
  v4 := Tryz.zeroValue4
  t9 := Tryz.underlying9
  a9 := Tryz.isAgg9
  z9 := Tryz.sizeOf9
  v9 := Tryz.zeroValue9
  t37 := Tryz.underlying298
  a37 := Tryz.isAgg298
  z37 := Tryz.sizeOf298
  v37 := Tryz.zeroValue298
  t127 := Tryz.underlying299
  a127 := Tryz.isAgg299
  z127 := Tryz.sizeOf299
  v127 := Tryz.zeroValue299 }
theorem scM316 : LaysM.n316 Tryz.prog scR := { sc316 with
  t5 := Tryz.underlying5
  a5 := Tryz.isAgg5
  z5 := Tryz.sizeOf5
  v5 := Tryz.zeroValue5
  i0 := by kernel_rfl
  i3 := by kernel_rfl
  i4 := by kernel_rfl
  i5 := by kernel_rfl
  i9 := by kernel_rfl
  i37 := by kernel_rfl
  i127 := by kernel_rfl }
end Go.Proofs.YtmpkcioeodlbcaaGreatDoor
namespace Go.Proofs.YtmpkcioeodlbcaaGreatDoor
open RowKit
set_option linter.unusedVariables false
/-- a byte of a text (0 outside it) -/
def bty (s : ByteArray) (i : Nat) : Nat := (s.data.getD i 0).toNat
theorem bty_get {s : ByteArray} {i : Nat} (h : i < s.size) : (s[i]'h).toNat = bty s i := by
  have h2 : i < s.data.size := h
  show (s.data[i]'h2).toNat = (s.data.getD i 0).toNat
  rw [Array.getD_eq_getD_getElem?, Array.getElem?_eq_getElem h2]; rfl
theorem bty_lt (s : ByteArray) (i : Nat) : bty s i < 256 := UInt8.toNat_lt _
theorem ex_size {s : ByteArray} {a b : Nat} (h : b ≤ s.size) : (s.extract a b).size = b - a := by simp; omega
theorem bty_ex {s : ByteArray} {a b i : Nat} (hb : b ≤ s.size) (h : i < b - a) : bty (s.extract a b) i = bty s (a + i) := by
  have h1 : i < (s.extract a b).size := by rw [ex_size hb]; exact h
  have h2 : a + i < s.size := by omega
  rw [← bty_get h1, ← bty_get h2, ByteArray.getElem_extract]
theorem ex_ex {s : ByteArray} {a b c d : Nat} (hd : a + d ≤ b) : (s.extract a b).extract c d = s.extract (a + c) (a + d) := by
  rw [ByteArray.extract_extract]
  congr 1
  exact Nat.min_eq_left (by omega)
/-- a byte between words -/
def blk (c : Nat) : Prop := c = 32 ∨ c = 9 ∨ c = 13
instance (c : Nat) : Decidable (blk c) := by unfold blk; infer_instance
/-- one byte further: how it stands (0: going on, 1: a remark, 2: a byte that may not be, 3: too long a word), and the words so far, the newest first -/
def stp_Tka (c i : Nat) (x : Nat × List (Nat × Nat)) : Nat × List (Nat × Nat) :=
  if x.1 ≠ 0 then x
  else if c = 42 ∨ c = 59 then (1, x.2)
  else if blk c then x
  else if c < 33 ∨ 126 < c then (2, x.2)
  else match x.2 with
    | [] => (0, [(i, i + 1)])
    | (a, b) :: r => if b < i then (0, (i, i + 1) :: (a, b) :: r) else if i + 1 - a ≤ 80 then (0, (a, i + 1) :: r) else (3, (a, b) :: r)
def scn (s : ByteArray) : Nat → Nat × List (Nat × Nat)
  | 0 => (0, [])
  | i + 1 => stp_Tka (bty s i) i (scn s i)
theorem stp_off {c i : Nat} {x : Nat × List (Nat × Nat)} (h : x.1 ≠ 0) : stp_Tka c i x = x := if_pos h
theorem scn_stays {s : ByteArray} {i : Nat} (h : (scn s i).1 ≠ 0) : ∀ n, i ≤ n → scn s n = scn s i := by
  intro n hn
  induction n with
  | zero =>
    obtain rfl : i = 0 := by omega
    rfl
  | succ n ih =>
    rcases Nat.lt_or_ge n i with h1 | h1
    · obtain rfl : i = n + 1 := by omega
      rfl
    · have e := ih h1
      show stp_Tka (bty s n) n (scn s n) = _
      rw [e, stp_off h]
theorem scn_rem {s : ByteArray} {i : Nat} {L : List (Nat × Nat)} (h : scn s i = (0, L)) (hc : bty s i = 42 ∨ bty s i = 59) : scn s (i + 1) = (1, L) := by
  show stp_Tka _ _ (scn s i) = _
  rw [h]; unfold stp_Tka
  rw [if_neg (by simp), if_pos hc]
theorem scn_blk {s : ByteArray} {i : Nat} {L : List (Nat × Nat)} (h : scn s i = (0, L)) (hc : blk (bty s i)) : scn s (i + 1) = (0, L) := by
  show stp_Tka _ _ (scn s i) = _
  rw [h]; unfold stp_Tka
  rw [if_neg (by simp), if_neg (by unfold blk at hc; omega), if_pos hc]
theorem scn_bad {s : ByteArray} {i : Nat} {L : List (Nat × Nat)} (h : scn s i = (0, L)) (h1 : ¬ (bty s i = 42 ∨ bty s i = 59)) (h2 : ¬ blk (bty s i)) (h3 : bty s i < 33 ∨ 126 < bty s i) : scn s (i + 1) = (2, L) := by
  show stp_Tka _ _ (scn s i) = _
  rw [h]; unfold stp_Tka
  rw [if_neg (by simp), if_neg h1, if_neg h2, if_pos h3]
theorem scn_new {s : ByteArray} {i : Nat} {L : List (Nat × Nat)} (h : scn s i = (0, L)) (h1 : ¬ (bty s i = 42 ∨ bty s i = 59)) (h2 : ¬ blk (bty s i)) (h3 : ¬ (bty s i < 33 ∨ 126 < bty s i)) (hL : ∀ a b r, L = (a, b) :: r → b < i) : scn s (i + 1) = (0, (i, i + 1) :: L) := by
  show stp_Tka _ _ (scn s i) = _
  rw [h]; unfold stp_Tka
  rw [if_neg (by simp), if_neg h1, if_neg h2, if_neg h3]
  match L, hL with
  | [], _ => rfl
  | (a, b) :: r, hL => exact if_pos (hL a b r rfl)
theorem scn_ext {s : ByteArray} {i a b : Nat} {r : List (Nat × Nat)} (h : scn s i = (0, (a, b) :: r)) (h1 : ¬ (bty s i = 42 ∨ bty s i = 59)) (h2 : ¬ blk (bty s i)) (h3 : ¬ (bty s i < 33 ∨ 126 < bty s i)) (hb : ¬ b < i) : scn s (i + 1) = if i + 1 - a ≤ 80 then (0, (a, i + 1) :: r) else (3, (a, b) :: r) := by
  show stp_Tka _ _ (scn s i) = _
  rw [h]; unfold stp_Tka
  rw [if_neg (by simp), if_neg h1, if_neg h2, if_neg h3]
  exact if_neg hb
/-- the words lie one behind the other, a byte between -/
def Wfw : Nat → List (Nat × Nat) → Prop
  | _, [] => True
  | i, (a, b) :: r => a < b ∧ b ≤ i ∧ Wfw (a - 1) r ∧ (r ≠ [] → 0 < a)
theorem Wfw.mono {i j : Nat} {L : List (Nat × Nat)} (h : Wfw i L) (hij : i ≤ j) : Wfw j L := by
  match L, h with
  | [], _ => exact trivial
  | (a, b) :: r, h => exact ⟨h.1, by have := h.2.1; omega, h.2.2⟩
theorem Wfw.len {i : Nat} {L : List (Nat × Nat)} (h : Wfw i L) : L.length ≤ i := by
  induction L generalizing i with
  | nil => exact Nat.zero_le _
  | cons p r ih =>
    obtain ⟨a, b⟩ := p
    obtain ⟨h1, h2, h3, _⟩ := h
    have := ih h3
    simp only [List.length_cons]; omega
theorem Wfw.mem {i : Nat} {L : List (Nat × Nat)} (h : Wfw i L) : ∀ p ∈ L, p.1 < p.2 ∧ p.2 ≤ i := by
  induction L generalizing i with
  | nil => intro p hp; cases hp
  | cons q r ih =>
    obtain ⟨a, b⟩ := q
    obtain ⟨h1, h2, h3, _⟩ := h
    intro p hp
    rcases List.mem_cons.1 hp with rfl | hp
    · exact ⟨h1, h2⟩
    · have := ih h3 p hp
      exact ⟨this.1, by omega⟩
theorem scn_wf (s : ByteArray) : ∀ i, Wfw i (scn s i).2 := by
  intro i
  induction i with
  | zero => exact trivial
  | succ i ih =>
    show Wfw _ (stp_Tka _ _ (scn s i)).2
    generalize scn s i = x at ih
    obtain ⟨k, L⟩ := x
    unfold stp_Tka
    have ih2 : Wfw i L := ih
    split
    · exact ih2.mono (by omega)
    · split
      · exact ih2.mono (by omega)
      · split
        · exact ih2.mono (by omega)
        · split
          · exact ih2.mono (by omega)
          · match L, ih2 with
            | [], _ => exact ⟨by omega, Nat.le_refl _, trivial, fun h => absurd rfl h⟩
            | (a, b) :: r, ih2 =>
              show Wfw _ (if b < i then (0, (i, i + 1) :: (a, b) :: r) else if i + 1 - a ≤ 80 then (0, (a, i + 1) :: r) else (3, (a, b) :: r) : Nat × List (Nat × Nat)).2
              obtain ⟨q1, q2, q3, q4⟩ := ih2
              split
              · exact ⟨by omega, Nat.le_refl _, ⟨q1, by omega, q3, q4⟩, fun _ => by omega⟩
              · split
                · exact ⟨by omega, Nat.le_refl _, q3, q4⟩
                · exact ⟨q1, by omega, q3, q4⟩

/-- a line's words -/
def wds (t : ByteArray) : List (Nat × Nat) := (scn t t.size).2.reverse
/-- the number of what is wrong with a line (0: nothing) -/
def bdE (t : ByteArray) : Nat := if (scn t t.size).1 = 2 then 240 else if (scn t t.size).1 = 3 then 3 else 0
theorem bd_ok {t : ByteArray} (h : (scn t t.size).1 = 0 ∨ (scn t t.size).1 = 1) : bdE t = 0 := by unfold bdE; rw [if_neg (by omega), if_neg (by omega)]
theorem bd_2 {t : ByteArray} (h : (scn t t.size).1 = 2) : bdE t = 240 := if_pos h
theorem bd_3 {t : ByteArray} (h : (scn t t.size).1 = 3) : bdE t = 3 := by unfold bdE; rw [if_neg (by omega), if_pos h]

/-- a token: text, line, column -/
abbrev Tok := ByteArray × Int × Int
def tkl (n : Nat) (t : ByteArray) : List Tok := (wds t).map fun p => (t.extract p.1 p.2, (n : Int), (p.1 : Int))
/-- the first line that may not be: its number's error and its place; (0, 0): none -/
def erL : Nat → List ByteArray → Nat × Nat
  | _, [] => (0, 0)
  | n, t :: r => if bdE t ≠ 0 then (bdE t, n) else erL (n + 1) r
def tkL : Nat → List ByteArray → List (List Tok)
  | _, [] => []
  | n, t :: r => tkl n t :: tkL (n + 1) r
theorem tkL_len (l : List ByteArray) : ∀ n, (tkL n l).length = l.length := by
  induction l with
  | nil => intro n; rfl
  | cons t r ih => intro n; show (tkL (n + 1) r).length + 1 = r.length + 1; rw [ih]
theorem tkL_get {l : List ByteArray} : ∀ {n k : Nat} {t : ByteArray}, l[k]? = some t → (tkL n l)[k]? = some (tkl (n + k) t) := by
  induction l with
  | nil => intro n k t h; simp at h
  | cons u r ih =>
    intro n k t h
    cases k with
    | zero => simp at h; subst h; rfl
    | succ k =>
      simp only [List.getElem?_cons_succ] at h
      have := ih (n := n + 1) h
      show (tkL (n + 1) r)[k]? = _
      rw [this]; congr 2; omega
theorem erL_ok {l : List ByteArray} : ∀ {n : Nat}, (∀ t ∈ l, bdE t = 0) → erL n l = (0, 0) := by
  induction l with
  | nil => intro n _; rfl
  | cons u r ih =>
    intro n h
    show (if bdE u ≠ 0 then (bdE u, n) else erL (n + 1) r) = _
    rw [if_neg (by simp [h u (by simp)])]
    exact ih fun t ht => h t (List.mem_cons_of_mem _ ht)
theorem erL_at {l : List ByteArray} : ∀ {n k : Nat} {t : ByteArray}, l[k]? = some t → (∀ j u, j < k → l[j]? = some u → bdE u = 0) → bdE t ≠ 0 → erL n l = (bdE t, n + k) := by
  induction l with
  | nil => intro n k t h; simp at h
  | cons u r ih =>
    intro n k t h hj hb
    show (if bdE u ≠ 0 then (bdE u, n) else erL (n + 1) r) = _
    cases k with
    | zero =>
      simp at h; subst h
      rw [if_pos hb]; rfl
    | succ k =>
      simp only [List.getElem?_cons_succ] at h
      rw [if_neg (by simp [hj 0 u (by omega) rfl])]
      rw [ih (n := n + 1) h (fun j v hjk hv => hj (j + 1) v (by omega) (by simpa using hv)) hb]
      congr 1; omega

/-- the pieces of a text between its bytes 10, from a place on -/
def pcs (s : ByteArray) : Nat → Nat → Nat → List (Nat × Nat)
  | 0, i, f => [(f, i)]
  | n + 1, i, f => if bty s i = 10 then (f, i) :: pcs s n (i + 1) (i + 1) else pcs s n (i + 1) f
theorem pcs_ne (s : ByteArray) : ∀ n i f, pcs s n i f ≠ [] := by
  intro n
  induction n with
  | zero => intro i f h; cases h
  | succ n ih =>
    intro i f
    unfold pcs
    split
    · intro h; cases h
    · exact ih _ _
/-- all pieces -/
def alP (s : ByteArray) : List (Nat × Nat) := pcs s s.size 0 0
/-- the pieces as texts -/
def cuT (s : ByteArray) (l : List (Nat × Nat)) : List ByteArray := l.map fun p => s.extract p.1 p.2
/-- a text's lines: all pieces, but for a last one without a byte -/
def liP (s : ByteArray) : List (Nat × Nat) := if (alP s).getLast? = some (s.size, s.size) then (alP s).dropLast else alP s
def liT (s : ByteArray) : List ByteArray := cuT s (liP s)
theorem pcs_last (s : ByteArray) : ∀ n i f, i + n = s.size → f ≤ i → ∃ g, g ≤ s.size ∧ (pcs s n i f).getLast? = some (g, s.size) := by
  intro n
  induction n with
  | zero => intro i f h hf; exact ⟨f, by omega, by show some (f, i) = _; rw [show i = s.size by omega]⟩
  | succ n ih =>
    intro i f h hf
    unfold pcs
    split
    · obtain ⟨g, h1, h2⟩ := ih (i + 1) (i + 1) (by omega) (Nat.le_refl _)
      refine ⟨g, h1, ?_⟩
      rw [List.getLast?_cons, h2]; rfl
    · exact ih _ _ (by omega) (by omega)
/-- every piece lies in the text -/
theorem pcs_in (s : ByteArray) : ∀ n i f, i + n = s.size → f ≤ i → ∀ p ∈ pcs s n i f, p.1 ≤ p.2 ∧ p.2 ≤ s.size := by
  intro n
  induction n with
  | zero => intro i f h hf p hp; rcases List.mem_singleton.1 hp with rfl; exact ⟨hf, by omega⟩
  | succ n ih =>
    intro i f h hf p hp
    unfold pcs at hp
    split at hp
    · rcases List.mem_cons.1 hp with rfl | hp
      · exact ⟨hf, by omega⟩
      · exact ih _ _ (by omega) (Nat.le_refl _) p hp
    · exact ih _ _ (by omega) (by omega) p hp
theorem pcs_len (s : ByteArray) : ∀ n i f, (pcs s n i f).length ≤ n + 1 := by
  intro n
  induction n with
  | zero => intro i f; exact Nat.le_refl _
  | succ n ih =>
    intro i f
    unfold pcs
    split
    · have := ih (i + 1) (i + 1); simp only [List.length_cons]; omega
    · have := ih (i + 1) f; omega
theorem liP_sub {s : ByteArray} {p : Nat × Nat} (h : p ∈ liP s) : p ∈ alP s := by
  unfold liP at h
  split at h
  · exact List.dropLast_subset _ h
  · exact h
theorem liP_in {s : ByteArray} {p : Nat × Nat} (h : p ∈ liP s) : p.1 ≤ p.2 ∧ p.2 ≤ s.size := pcs_in s s.size 0 0 (by omega) (Nat.le_refl _) p (liP_sub h)
theorem liP_len (s : ByteArray) : (liP s).length ≤ s.size + 1 := by
  have := pcs_len s s.size 0 0
  unfold liP
  split
  · rw [List.length_dropLast]; have : (alP s).length ≤ s.size + 1 := this; omega
  · exact this
end Go.Proofs.YtmpkcioeodlbcaaGreatDoor
namespace Go.Proofs.YtmpkcioeodlbcaaGreatDoor
open RowKit Joins
set_option linter.unusedVariables false
theorem Tryz.infoTok : (Tryz.prog.info? 225).map (fun i => (i.zero, i.size, i.bytes)) = some (some (.agg #[.string ByteArray.empty, .int .i64 0, .int .i64 0]), 3, 32) := by kernel_rfl
/-- tokens as cells -/
def tcs : List Tok → List Value
  | [] => []
  | p :: r => .string p.1 :: .int .i64 p.2.1 :: .int .i64 p.2.2 :: tcs r
theorem tcs_app (a b : List Tok) : tcs (a ++ b) = tcs a ++ tcs b := by
  induction a with
  | nil => rfl
  | cons p r ih => show _ :: _ :: _ :: tcs (r ++ b) = _; rw [ih]; rfl
theorem tcs_len (a : List Tok) : (tcs a).length = a.length * 3 := by
  induction a with
  | nil => rfl
  | cons p r ih => show (tcs r).length + 3 = (r.length + 1) * 3; rw [ih]; omega
theorem tcs_get {a : List Tok} : ∀ {k : Nat} {p : Tok}, a[k]? = some p → (tcs a)[k * 3]? = some (.string p.1) ∧ (tcs a)[k * 3 + 1]? = some (.int .i64 p.2.1) ∧ (tcs a)[k * 3 + 2]? = some (.int .i64 p.2.2) := by
  induction a with
  | nil => intro k p h; simp at h
  | cons q r ih =>
    intro k p h
    cases k with
    | zero => simp at h; subst h; exact ⟨rfl, rfl, rfl⟩
    | succ k =>
      have := ih (k := k) (p := p) (by simpa using h)
      exact ⟨by rw [show (k + 1) * 3 = k * 3 + 3 by omega]; exact this.1, by rw [show (k + 1) * 3 + 1 = k * 3 + 1 + 3 by omega]; exact this.2.1, by rw [show (k + 1) * 3 + 2 = k * 3 + 2 + 3 by omega]; exact this.2.2⟩
/-- the words so far (the newest first), as tokens of line n -/
def wtk (t : ByteArray) (n : Nat) (L : List (Nat × Nat)) : List Tok := L.reverse.map fun p => (t.extract p.1 p.2, (n : Int), (p.1 : Int))
theorem wtk_cons (t : ByteArray) (n : Nat) (p : Nat × Nat) (L : List (Nat × Nat)) : wtk t n (p :: L) = wtk t n L ++ [(t.extract p.1 p.2, (n : Int), (p.1 : Int))] := by
  unfold wtk; simp
theorem wtk_len (t : ByteArray) (n : Nat) (L : List (Nat × Nat)) : (wtk t n L).length = L.length := by unfold wtk; simp
theorem tkl_wtk (t : ByteArray) (n : Nat) : tkl n t = wtk t n (scn t t.size).2 := rfl

theorem sub_run (t : ByteArray) (a b : Nat) (B : Int) (hB : B = (b : Int)) (h1 : a ≤ b) (h2 : b ≤ t.size) : ∀ w : World, (Instr.slice 9 (.string t) (some (.int .i64 a)) (some (.int .i64 B)) none).run Tryz.prog w = .ok (.string (t.extract a b)) w := by
  intro w
  subst hB
  rw [run_slice_string (P := Tryz.prog) w 9 t .i64 .i64 a b Tryz.underlying9 (by omega) (by omega) (by omega)]
  simp
/-- nothing but the row itself, and new memory -/
theorem grown_set {w : World} {g j : Nat} {u : Value} : w.grownBy (w.setCell ⟨g, j, none⟩ u) (some g) :=
  ⟨rfl, rfl, rfl, by simp [World.setCell], fun k _ hk => Below.heap_setCell _ _ _ _ (fun e => hk (by simp [e]))⟩

theorem grown_al {w w2 : World} {o : Obj} {row : Option Nat} (h : (w.alloc o).drew.grownBy w2 row) : w.grownBy w2 row :=
  ⟨h.os, h.tape, h.output, Nat.le_trans (by simp) h.size, fun k hk hr => (h.block k (by simp; omega) hr).trans (Deep.blk_alloc_lt _ _ _ hk)⟩
theorem ob_or {v : Value} {g cap n H B : Nat} (h : v.ownBlock = some g ∨ g = H) (hH : B ≤ H) : (Value.slice (some ⟨g, 0, none⟩) n cap).ownBlock = v.ownBlock ∨ ∃ q, (Value.slice (some ⟨g, 0, none⟩) n cap).ownBlock = some q ∧ B ≤ q := by
  rcases h with h | h
  · exact .inl h.symm
  · exact .inr ⟨g, rfl, by omega⟩

set_option maxHeartbeats 4000000 in
set_option maxRecDepth 100000 in
/-- a word begins -/
theorem lay_new (w : World) (base : Nat) (v : Value) (t : ByteArray) (n i : Nat) (L : List (Nat × Nat)) (hb : base ≤ w.heap.size) (hn : n ≤ 65536) (hi : i < t.size) (ht : t.size ≤ 65536)
    (hwf : Wfw i L) (hL : ∀ a b r, L = (a, b) :: r → b < i) (hown : w.ownsRow base 225 3 v L.length (tcs (wtk t n L))) :
    Calls Tryz.prog 146 #[v, .string t, .int .i64 n, .int .i64 i] w fun e w' => ∃ v', e = .returned (.tuple #[v', .bool true]) ∧
      w'.ownsRow base 225 3 v' (L.length + 1) (tcs (wtk t n ((i, i + 1) :: L))) ∧ w.grownBy w' v.ownBlock ∧ (v'.ownBlock = v.ownBlock ∨ ∃ g, v'.ownBlock = some g ∧ w.heap.size ≤ g) := by
  have hlen := hwf.len
  obtain ⟨i0, hi0, hz0, hz1, hz2⟩ := info_parts Tryz.infoTok
  have e1 : tcs (wtk t n ((i, i + 1) :: L)) = tcs (wtk t n L) ++ [.string (t.extract i (i + 1)), .int .i64 n, .int .i64 i] := by rw [wtk_cons, tcs_app]; rfl
  rw [e1]
  rcases L with _ | ⟨⟨a, b⟩, r⟩
  · obtain ⟨A, cap, rfl⟩ : ∃ A cap, v = .slice A 0 cap := by
      rcases ownsRow_forms hown with ⟨rfl, _⟩ | ⟨g, cap, rfl⟩
      · exact ⟨_, _, rfl⟩
      · exact ⟨_, _, rfl⟩
    have hown0 : w.ownsRow base 225 3 (.slice A 0 cap) 0 [] := hown
    have hsl := sub_run t i (i + 1) ((i : Int) + 1) (by omega) (by omega) (by omega)
    go_enter Tryz.func146, Tryz.ntmps146
    go_wp2_with fail
    go_region
    go_wp2_with (at_builtin; refine wpList_append_lies _ (by rfl) _ _ 161 (by rfl) base 225 i0 (.agg #[.string ByteArray.empty, .int .i64 0, .int .i64 0]) 3 32 Tryz.underlying161 hi0 hz0 hz1 hz2 (by rfl) (by decide) _ _ _ (by rfl) (hown0.alloc _) ⟨_, 0, none⟩ 1 1 [.string (t.extract i (i + 1)), .int .i64 n, .int .i64 i] (by rfl) (by rfl) ?c1 ?c2 (by decide) ?c3 ?c4 ?c5 _ rfl ?next)
    case c1 => exact World.news_of_block (fr := (0, 0)) (t := 225) (cs := #[.string (t.extract i (i + 1)), .int .i64 n, .int .i64 i]) (heap_alloc_new _ _)
    case c2 => intro u hu; simp at hu; rcases hu with rfl | rfl | rfl <;> rfl
    case c3 => unfold maxLen; omega
    case c4 => omega
    case c5 => simp; omega
    case next =>
      intro g2 cap2 w2 hown2 hgrow hat hlt
      go_wp2_with fail
      go_ret2
      exact ⟨_, rfl, hown2, grown_al hgrow, ob_or hat (by simp)⟩
  · have hbi : b < i := hL a b r rfl
    simp only [List.length_cons] at hlen
    obtain ⟨g, cap, rfl, hgb, hglt⟩ := hown.form (by simp)
    have hown0 : w.ownsRow base 225 3 (.slice (some ⟨g, 0, none⟩) (r.length + 1) cap) (r.length + 1) (tcs (wtk t n ((a, b) :: r))) := hown
    have hgt : (wtk t n ((a, b) :: r))[r.length]? = some (t.extract a b, (n : Int), (a : Int)) := by
      rw [wtk_cons, List.getElem?_append_right (by rw [wtk_len]; omega), wtk_len]; simp
    obtain ⟨k0, k1, k2⟩ := tcs_get hgt
    rw [← hown0.cellAt _ (by omega)] at k0 k2
    have hwf1 := hwf.1
    have hwf2 := hwf.2.1
    have hsz : (t.extract a b).size = b - a := ex_size (by omega)
    have hsl := sub_run t i (i + 1) ((i : Int) + 1) (by omega) (by omega) (by omega)
    show Calls Tryz.prog 146 #[.slice (some ⟨g, 0, none⟩) (r.length + 1) cap, .string t, .int .i64 n, .int .i64 i] w fun e w' => ∃ v', e = .returned (.tuple #[v', .bool true]) ∧
      w'.ownsRow base 225 3 v' (r.length + 1 + 1) _ ∧ w.grownBy w' (Value.slice (some ⟨g, 0, none⟩) (r.length + 1) cap).ownBlock ∧ (v'.ownBlock = (Value.slice (some ⟨g, 0, none⟩) (r.length + 1) cap).ownBlock ∨ ∃ g, v'.ownBlock = some g ∧ w.heap.size ≤ g)
    have HO : Hid (w.ownsRow base 225 3 (.slice (some ⟨g, 0, none⟩) (r.length + 1) cap) (r.length + 1) (tcs (wtk t n ((a, b) :: r)))) := hown0
    clear hown hown0 hgt k1 e1 hwf hL
    generalize tcs (wtk t n ((a, b) :: r)) = XS at HO ⊢
    generalize r.length = m at HO k0 k2 hlen ⊢
    have hneg : decide ((m : Int) < 0) = false := by simp
    have hwr : IntKind.i64.wrap ((a : Int) + ((b - a : Nat) : Int)) = (b : Int) := by
      rw [show (a : Int) + ((b - a : Nat) : Int) = (b : Int) by omega, IntKind.wrap_i64]; omega
    have hix : (m : Int) < (m : Int) + 1 := by omega
    have hbi2 : decide ((b : Int) < (i : Int)) = true := by simp; omega
    go_enter Tryz.func146, Tryz.ntmps146
    go_wp2_with fail
    go_region_held_law (fun w' => w'.cell? ⟨g, m * 3, none⟩ = some (.string (t.extract a b)) ∧ w'.cell? ⟨g, m * 3 + 2, none⟩ = some (.int .i64 a)) (go_keep) (fail)
    go_wp2_with (at_builtin; refine wpList_append_lies _ (by rfl) _ _ 161 (by rfl) base 225 i0 (.agg #[.string ByteArray.empty, .int .i64 0, .int .i64 0]) 3 32 Tryz.underlying161 hi0 hz0 hz1 hz2 (by rfl) (by decide) _ _ _ (by rfl) (HO.out.alloc _) ⟨_, 0, none⟩ 1 1 [.string (t.extract i (i + 1)), .int .i64 n, .int .i64 i] (by rfl) (by rfl) ?c1 ?c2 (by decide) ?c3 ?c4 ?c5 _ rfl ?next)
    case c1 => exact World.news_of_block (fr := (0, 0)) (t := 225) (cs := #[.string (t.extract i (i + 1)), .int .i64 n, .int .i64 i]) (heap_alloc_new _ _)
    case c2 => intro u hu; simp at hu; rcases hu with rfl | rfl | rfl <;> rfl
    case c3 => unfold maxLen; omega
    case c4 => omega
    case c5 => simp; omega
    case next =>
      intro g2 cap2 w2 hown2 hgrow hat hlt
      go_wp2_with fail
      go_ret2
      exact ⟨_, rfl, hown2, grown_al hgrow, ob_or hat (by simp)⟩

set_option maxHeartbeats 4000000 in
set_option maxRecDepth 100000 in
/-- the last word goes on -/
theorem lay_ext (w : World) (base : Nat) (v : Value) (t : ByteArray) (n i a b : Nat) (r : List (Nat × Nat)) (hb : base ≤ w.heap.size) (hn : n ≤ 65536) (hi : i < t.size) (ht : t.size ≤ 65536)
    (hwf : Wfw i ((a, b) :: r)) (hL : ¬ b < i) (hown : w.ownsRow base 225 3 v (r.length + 1) (tcs (wtk t n ((a, b) :: r)))) :
    Calls Tryz.prog 146 #[v, .string t, .int .i64 n, .int .i64 i] w fun e w' => e = .returned (.tuple #[v, .bool (decide (i + 1 - a ≤ 80))]) ∧
      w'.ownsRow base 225 3 v (r.length + 1) (tcs (wtk t n ((a, i + 1) :: r))) ∧ w.grownBy w' v.ownBlock := by
  have hlen := hwf.len
  simp only [List.length_cons] at hlen
  obtain ⟨g, cap, rfl, hgb, hglt⟩ := hown.form (by simp)
  have hgt : (wtk t n ((a, b) :: r))[r.length]? = some (t.extract a b, (n : Int), (a : Int)) := by
    rw [wtk_cons, List.getElem?_append_right (by rw [wtk_len]; omega), wtk_len]; simp
  obtain ⟨k0, k1, k2⟩ := tcs_get hgt
  rw [← hown.cellAt _ (by omega)] at k0 k2
  have hwf1 := hwf.1
  have hwf2 := hwf.2.1
  obtain rfl : b = i := by omega
  have hfz := hown.frozenAt (r.length * 3)
  have HS : Hid (((w.setCell ⟨g, r.length * 3, none⟩ (.string (t.extract a (b + 1)))).ownsRow base 225 3 (.slice (some ⟨g, 0, none⟩) (r.length + 1) cap) (r.length + 1) (tcs (wtk t n ((a, b + 1) :: r)))) ∧ w.grownBy (w.setCell ⟨g, r.length * 3, none⟩ (.string (t.extract a (b + 1)))) (some g)) := by
    have hs := hown.stored (r.length * 3) (.string (t.extract a (b + 1)))
    refine ⟨?_, hs.2⟩
    have he : tcs (wtk t n ((a, b + 1) :: r)) = (tcs (wtk t n ((a, b) :: r))).set (r.length * 3) (.string (t.extract a (b + 1))) := by
      rw [wtk_cons, wtk_cons, tcs_app, tcs_app, List.set_append_right _ _ (by rw [tcs_len, wtk_len]; omega), tcs_len, wtk_len, Nat.sub_self]
      rfl
    rw [he]; exact hs.1
  have hsz : (t.extract a b).size = b - a := ex_size (by omega)
  have hsz2 : (t.extract a (b + 1)).size = b + 1 - a := ex_size (by omega)
  have hsl := sub_run t a (b + 1) ((b : Int) + 1) (by omega) (by omega) (by omega)
  clear hown hgt k1 hwf
  generalize tcs (wtk t n ((a, b + 1) :: r)) = XS at HS ⊢
  generalize r.length = m at HS k0 k2 hlen hfz ⊢
  have hneg : decide ((m : Int) < 0) = false := by simp
  have hwr : IntKind.i64.wrap ((a : Int) + ((b - a : Nat) : Int)) = (b : Int) := by
    rw [show (a : Int) + ((b - a : Nat) : Int) = (b : Int) by omega, IntKind.wrap_i64]; omega
  have hix : (m : Int) < (m : Int) + 1 := by omega
  have hbi2 : decide ((b : Int) < (b : Int)) = false := by simp
  go_enter Tryz.func146, Tryz.ntmps146
  go_wp2_with fail
  go_region_held_law (fun w' => w'.cell? ⟨g, m * 3, none⟩ = some (.string (t.extract a b)) ∧ w'.cell? ⟨g, m * 3 + 2, none⟩ = some (.int .i64 a)) (go_keep) (fail)
  have kc : (w.setCell ⟨g, m * 3, none⟩ (.string (t.extract a (b + 1)))).cell? ⟨g, m * 3, none⟩ = some (.string (t.extract a (b + 1))) := World.cell?_setCell_same _ _ _ k0
  have hle : decide (((b + 1 - a : Nat) : Int) ≤ 80) = decide (b + 1 - a ≤ 80) := by rw [decide_eq_decide]; omega
  clear k0 k2
  go_wp2_with fail
  go_region_held_law (fun w' => w'.cell? ⟨g, m * 3, none⟩ = some (.string (t.extract a (b + 1)))) (go_keep) (fail)
  go_wp2_with fail
  go_ret2
  refine ⟨congrArg (fun x => Ending.returned (Value.tuple #[Value.slice (some ⟨g, 0, none⟩) (m + 1) cap, Value.bool x])) (decide_eq_decide.2 (by omega : b + 1 ≤ 80 + a ↔ b + 1 - a ≤ 80)), HS.out.1, ⟨HS.out.2.os, HS.out.2.tape, HS.out.2.output, HS.out.2.size, HS.out.2.block⟩⟩
end Go.Proofs.YtmpkcioeodlbcaaGreatDoor
