/-
  Several texts in one: Tka Gn Qn Gc.
-/
import Derived.Test.YtmpkcioeodlbcaaGreatDoorChecked
import Derived.WalkKit
import Derived.Below
import Derived.RowKit3
import Derived.WalkLawsBesides
import Derived.Deep.QuietTactic
import Derived.BigQuiet
namespace Go.Proofs.YtmpkcioeodlbcaaGreatDoor
open RowKit
set_option linter.unusedVariables false
/-- a byte of a text (0 outside it) -/
def bty (s : ByteArray) (i : Nat) : Nat := (s.data.getD i 0).toNat
theorem bty_get {s : ByteArray} {i : Nat} (h : i < s.size) : (s[i]'h).toNat = bty s i := by
  have h2 : i < s.data.size := h
  show (s.data[i]'h2).toNat = (s.data.getD i 0).toNat
  rw [Array.getD_eq_getD_getElem?, Array.getElem?_eq_getElem h2]; rfl
theorem bty_lt (s : ByteArray) (i : Nat) : bty s i < 256 := UInt8.toNat_lt _
theorem ex_size {s : ByteArray} {a b : Nat} (h : b ≤ s.size) : (s.extract a b).size = b - a := by simp; omega
theorem bty_ex {s : ByteArray} {a b i : Nat} (hb : b ≤ s.size) (h : i < b - a) : bty (s.extract a b) i = bty s (a + i) := by
  have h1 : i < (s.extract a b).size := by rw [ex_size hb]; exact h
  have h2 : a + i < s.size := by omega
  rw [← bty_get h1, ← bty_get h2, ByteArray.getElem_extract]
theorem ex_ex {s : ByteArray} {a b c d : Nat} (hd : a + d ≤ b) : (s.extract a b).extract c d = s.extract (a + c) (a + d) := by
  rw [ByteArray.extract_extract]
  congr 1
  exact Nat.min_eq_left (by omega)
/-- a byte between words -/
def blk (c : Nat) : Prop := c = 32 ∨ c = 9 ∨ c = 13
instance (c : Nat) : Decidable (blk c) := by unfold blk; infer_instance
/-- one byte further: how it stands (0: going on, 1: a remark, 2: a byte that may not be, 3: too long a word), and the words so far, the newest first -/
def stp_Tka (c i : Nat) (x : Nat × List (Nat × Nat)) : Nat × List (Nat × Nat) :=
  if x.1 ≠ 0 then x
  else if c = 42 ∨ c = 59 then (1, x.2)
  else if blk c then x
  else if c < 33 ∨ 126 < c then (2, x.2)
  else match x.2 with
    | [] => (0, [(i, i + 1)])
    | (a, b) :: r => if b < i then (0, (i, i + 1) :: (a, b) :: r) else if i + 1 - a ≤ 80 then (0, (a, i + 1) :: r) else (3, (a, b) :: r)
def scn (s : ByteArray) : Nat → Nat × List (Nat × Nat)
  | 0 => (0, [])
  | i + 1 => stp_Tka (bty s i) i (scn s i)
theorem stp_off {c i : Nat} {x : Nat × List (Nat × Nat)} (h : x.1 ≠ 0) : stp_Tka c i x = x := if_pos h
theorem scn_stays {s : ByteArray} {i : Nat} (h : (scn s i).1 ≠ 0) : ∀ n, i ≤ n → scn s n = scn s i := by
  intro n hn
  induction n with
  | zero =>
    obtain rfl : i = 0 := by omega
    rfl
  | succ n ih =>
    rcases Nat.lt_or_ge n i with h1 | h1
    · obtain rfl : i = n + 1 := by omega
      rfl
    · have e := ih h1
      show stp_Tka (bty s n) n (scn s n) = _
      rw [e, stp_off h]
theorem scn_rem {s : ByteArray} {i : Nat} {L : List (Nat × Nat)} (h : scn s i = (0, L)) (hc : bty s i = 42 ∨ bty s i = 59) : scn s (i + 1) = (1, L) := by
  show stp_Tka _ _ (scn s i) = _
  rw [h]; unfold stp_Tka
  rw [if_neg (by simp), if_pos hc]
theorem scn_blk {s : ByteArray} {i : Nat} {L : List (Nat × Nat)} (h : scn s i = (0, L)) (hc : blk (bty s i)) : scn s (i + 1) = (0, L) := by
  show stp_Tka _ _ (scn s i) = _
  rw [h]; unfold stp_Tka
  rw [if_neg (by simp), if_neg (by unfold blk at hc; omega), if_pos hc]
theorem scn_bad {s : ByteArray} {i : Nat} {L : List (Nat × Nat)} (h : scn s i = (0, L)) (h1 : ¬ (bty s i = 42 ∨ bty s i = 59)) (h2 : ¬ blk (bty s i)) (h3 : bty s i < 33 ∨ 126 < bty s i) : scn s (i + 1) = (2, L) := by
  show stp_Tka _ _ (scn s i) = _
  rw [h]; unfold stp_Tka
  rw [if_neg (by simp), if_neg h1, if_neg h2, if_pos h3]
theorem scn_new {s : ByteArray} {i : Nat} {L : List (Nat × Nat)} (h : scn s i = (0, L)) (h1 : ¬ (bty s i = 42 ∨ bty s i = 59)) (h2 : ¬ blk (bty s i)) (h3 : ¬ (bty s i < 33 ∨ 126 < bty s i)) (hL : ∀ a b r, L = (a, b) :: r → b < i) : scn s (i + 1) = (0, (i, i + 1) :: L) := by
  show stp_Tka _ _ (scn s i) = _
  rw [h]; unfold stp_Tka
  rw [if_neg (by simp), if_neg h1, if_neg h2, if_neg h3]
  match L, hL with
  | [], _ => rfl
  | (a, b) :: r, hL => exact if_pos (hL a b r rfl)
theorem scn_ext {s : ByteArray} {i a b : Nat} {r : List (Nat × Nat)} (h : scn s i = (0, (a, b) :: r)) (h1 : ¬ (bty s i = 42 ∨ bty s i = 59)) (h2 : ¬ blk (bty s i)) (h3 : ¬ (bty s i < 33 ∨ 126 < bty s i)) (hb : ¬ b < i) : scn s (i + 1) = if i + 1 - a ≤ 80 then (0, (a, i + 1) :: r) else (3, (a, b) :: r) := by
  show stp_Tka _ _ (scn s i) = _
  rw [h]; unfold stp_Tka
  rw [if_neg (by simp), if_neg h1, if_neg h2, if_neg h3]
  exact if_neg hb
/-- the words lie one behind the other, a byte between -/
def Wfw : Nat → List (Nat × Nat) → Prop
  | _, [] => True
  | i, (a, b) :: r => a < b ∧ b ≤ i ∧ Wfw (a - 1) r ∧ (r ≠ [] → 0 < a)
theorem Wfw.mono {i j : Nat} {L : List (Nat × Nat)} (h : Wfw i L) (hij : i ≤ j) : Wfw j L := by
  match L, h with
  | [], _ => exact trivial
  | (a, b) :: r, h => exact ⟨h.1, by have := h.2.1; omega, h.2.2⟩
theorem Wfw.len {i : Nat} {L : List (Nat × Nat)} (h : Wfw i L) : L.length ≤ i := by
  induction L generalizing i with
  | nil => exact Nat.zero_le _
  | cons p r ih =>
    obtain ⟨a, b⟩ := p
    obtain ⟨h1, h2, h3, _⟩ := h
    have := ih h3
    simp only [List.length_cons]; omega
theorem Wfw.mem {i : Nat} {L : List (Nat × Nat)} (h : Wfw i L) : ∀ p ∈ L, p.1 < p.2 ∧ p.2 ≤ i := by
  induction L generalizing i with
  | nil => intro p hp; cases hp
  | cons q r ih =>
    obtain ⟨a, b⟩ := q
    obtain ⟨h1, h2, h3, _⟩ := h
    intro p hp
    rcases List.mem_cons.1 hp with rfl | hp
    · exact ⟨h1, h2⟩
    · have := ih h3 p hp
      exact ⟨this.1, by omega⟩
theorem scn_wf (s : ByteArray) : ∀ i, Wfw i (scn s i).2 := by
  intro i
  induction i with
  | zero => exact trivial
  | succ i ih =>
    show Wfw _ (stp_Tka _ _ (scn s i)).2
    generalize scn s i = x at ih
    obtain ⟨k, L⟩ := x
    unfold stp_Tka
    have ih2 : Wfw i L := ih
    split
    · exact ih2.mono (by omega)
    · split
      · exact ih2.mono (by omega)
      · split
        · exact ih2.mono (by omega)
        · split
          · exact ih2.mono (by omega)
          · match L, ih2 with
            | [], _ => exact ⟨by omega, Nat.le_refl _, trivial, fun h => absurd rfl h⟩
            | (a, b) :: r, ih2 =>
              show Wfw _ (if b < i then (0, (i, i + 1) :: (a, b) :: r) else if i + 1 - a ≤ 80 then (0, (a, i + 1) :: r) else (3, (a, b) :: r) : Nat × List (Nat × Nat)).2
              obtain ⟨q1, q2, q3, q4⟩ := ih2
              split
              · exact ⟨by omega, Nat.le_refl _, ⟨q1, by omega, q3, q4⟩, fun _ => by omega⟩
              · split
                · exact ⟨by omega, Nat.le_refl _, q3, q4⟩
                · exact ⟨q1, by omega, q3, q4⟩

/-- a line's words -/
def wds (t : ByteArray) : List (Nat × Nat) := (scn t t.size).2.reverse
/-- the number of what is wrong with a line (0: nothing) -/
def bdE (t : ByteArray) : Nat := if (scn t t.size).1 = 2 then 240 else if (scn t t.size).1 = 3 then 3 else 0
theorem bd_ok {t : ByteArray} (h : (scn t t.size).1 = 0 ∨ (scn t t.size).1 = 1) : bdE t = 0 := by unfold bdE; rw [if_neg (by omega), if_neg (by omega)]
theorem bd_2 {t : ByteArray} (h : (scn t t.size).1 = 2) : bdE t = 240 := if_pos h
theorem bd_3 {t : ByteArray} (h : (scn t t.size).1 = 3) : bdE t = 3 := by unfold bdE; rw [if_neg (by omega), if_pos h]

/-- a token: text, line, column -/
abbrev Tok := ByteArray × Int × Int
def tkl (n : Nat) (t : ByteArray) : List Tok := (wds t).map fun p => (t.extract p.1 p.2, (n : Int), (p.1 : Int))
/-- the first line that may not be: its number's error and its place; (0, 0): none -/
def erL : Nat → List ByteArray → Nat × Nat
  | _, [] => (0, 0)
  | n, t :: r => if bdE t ≠ 0 then (bdE t, n) else erL (n + 1) r
def tkL : Nat → List ByteArray → List (List Tok)
  | _, [] => []
  | n, t :: r => tkl n t :: tkL (n + 1) r
theorem tkL_len (l : List ByteArray) : ∀ n, (tkL n l).length = l.length := by
  induction l with
  | nil => intro n; rfl
  | cons t r ih => intro n; show (tkL (n + 1) r).length + 1 = r.length + 1; rw [ih]
theorem tkL_get {l : List ByteArray} : ∀ {n k : Nat} {t : ByteArray}, l[k]? = some t → (tkL n l)[k]? = some (tkl (n + k) t) := by
  induction l with
  | nil => intro n k t h; simp at h
  | cons u r ih =>
    intro n k t h
    cases k with
    | zero => simp at h; subst h; rfl
    | succ k =>
      simp only [List.getElem?_cons_succ] at h
      have := ih (n := n + 1) h
      show (tkL (n + 1) r)[k]? = _
      rw [this]; congr 2; omega
theorem erL_ok {l : List ByteArray} : ∀ {n : Nat}, (∀ t ∈ l, bdE t = 0) → erL n l = (0, 0) := by
  induction l with
  | nil => intro n _; rfl
  | cons u r ih =>
    intro n h
    show (if bdE u ≠ 0 then (bdE u, n) else erL (n + 1) r) = _
    rw [if_neg (by simp [h u (by simp)])]
    exact ih fun t ht => h t (List.mem_cons_of_mem _ ht)
theorem erL_at {l : List ByteArray} : ∀ {n k : Nat} {t : ByteArray}, l[k]? = some t → (∀ j u, j < k → l[j]? = some u → bdE u = 0) → bdE t ≠ 0 → erL n l = (bdE t, n + k) := by
  induction l with
  | nil => intro n k t h; simp at h
  | cons u r ih =>
    intro n k t h hj hb
    show (if bdE u ≠ 0 then (bdE u, n) else erL (n + 1) r) = _
    cases k with
    | zero =>
      simp at h; subst h
      rw [if_pos hb]; rfl
    | succ k =>
      simp only [List.getElem?_cons_succ] at h
      rw [if_neg (by simp [hj 0 u (by omega) rfl])]
      rw [ih (n := n + 1) h (fun j v hjk hv => hj (j + 1) v (by omega) (by simpa using hv)) hb]
      congr 1; omega

/-- the pieces of a text between its bytes 10, from a place on -/
def pcs (s : ByteArray) : Nat → Nat → Nat → List (Nat × Nat)
  | 0, i, f => [(f, i)]
  | n + 1, i, f => if bty s i = 10 then (f, i) :: pcs s n (i + 1) (i + 1) else pcs s n (i + 1) f
theorem pcs_ne (s : ByteArray) : ∀ n i f, pcs s n i f ≠ [] := by
  intro n
  induction n with
  | zero => intro i f h; cases h
  | succ n ih =>
    intro i f
    unfold pcs
    split
    · intro h; cases h
    · exact ih _ _
/-- all pieces -/
def alP (s : ByteArray) : List (Nat × Nat) := pcs s s.size 0 0
/-- the pieces as texts -/
def cuT (s : ByteArray) (l : List (Nat × Nat)) : List ByteArray := l.map fun p => s.extract p.1 p.2
/-- a text's lines: all pieces, but for a last one without a byte -/
def liP (s : ByteArray) : List (Nat × Nat) := if (alP s).getLast? = some (s.size, s.size) then (alP s).dropLast else alP s
def liT (s : ByteArray) : List ByteArray := cuT s (liP s)
theorem pcs_last (s : ByteArray) : ∀ n i f, i + n = s.size → f ≤ i → ∃ g, g ≤ s.size ∧ (pcs s n i f).getLast? = some (g, s.size) := by
  intro n
  induction n with
  | zero => intro i f h hf; exact ⟨f, by omega, by show some (f, i) = _; rw [show i = s.size by omega]⟩
  | succ n ih =>
    intro i f h hf
    unfold pcs
    split
    · obtain ⟨g, h1, h2⟩ := ih (i + 1) (i + 1) (by omega) (Nat.le_refl _)
      refine ⟨g, h1, ?_⟩
      rw [List.getLast?_cons, h2]; rfl
    · exact ih _ _ (by omega) (by omega)
/-- every piece lies in the text -/
theorem pcs_in (s : ByteArray) : ∀ n i f, i + n = s.size → f ≤ i → ∀ p ∈ pcs s n i f, p.1 ≤ p.2 ∧ p.2 ≤ s.size := by
  intro n
  induction n with
  | zero => intro i f h hf p hp; rcases List.mem_singleton.1 hp with rfl; exact ⟨hf, by omega⟩
  | succ n ih =>
    intro i f h hf p hp
    unfold pcs at hp
    split at hp
    · rcases List.mem_cons.1 hp with rfl | hp
      · exact ⟨hf, by omega⟩
      · exact ih _ _ (by omega) (Nat.le_refl _) p hp
    · exact ih _ _ (by omega) (by omega) p hp
theorem pcs_len (s : ByteArray) : ∀ n i f, (pcs s n i f).length ≤ n + 1 := by
  intro n
  induction n with
  | zero => intro i f; exact Nat.le_refl _
  | succ n ih =>
    intro i f
    unfold pcs
    split
    · have := ih (i + 1) (i + 1); simp only [List.length_cons]; omega
    · have := ih (i + 1) f; omega
theorem liP_sub {s : ByteArray} {p : Nat × Nat} (h : p ∈ liP s) : p ∈ alP s := by
  unfold liP at h
  split at h
  · exact List.dropLast_subset _ h
  · exact h
theorem liP_in {s : ByteArray} {p : Nat × Nat} (h : p ∈ liP s) : p.1 ≤ p.2 ∧ p.2 ≤ s.size := pcs_in s s.size 0 0 (by omega) (Nat.le_refl _) p (liP_sub h)
theorem liP_len (s : ByteArray) : (liP s).length ≤ s.size + 1 := by
  have := pcs_len s s.size 0 0
  unfold liP
  split
  · rw [List.length_dropLast]; have : (alP s).length ≤ s.size + 1 := this; omega
  · exact this
end Go.Proofs.YtmpkcioeodlbcaaGreatDoor
namespace Go.Proofs.YtmpkcioeodlbcaaGreatDoor
/-- how two numbers stand -/
def cmI (a b : Nat) : Int := if a < b then -1 else if a = b then 0 else 1
end Go.Proofs.YtmpkcioeodlbcaaGreatDoor
namespace Go.Proofs.YtmpkcioeodlbcaaGreatDoor
/-- the number that words are, the lowest first -/
def qn : List Nat → Nat
  | [] => 0
  | x :: l => x + 18446744073709551616 * qn l
def okQ (ws : List Nat) : Prop := ∀ x ∈ ws, x < 18446744073709551616
theorem qn_cons (x : Nat) (l : List Nat) : qn (x :: l) = x + 18446744073709551616 * qn l := rfl
theorem qn_append (a b : List Nat) : qn (a ++ b) = qn a + 18446744073709551616 ^ a.length * qn b := by
  induction a with
  | nil => simp [qn]
  | cons x l ih =>
    rw [List.cons_append, qn_cons, qn_cons, ih, List.length_cons, Nat.pow_succ, Nat.mul_add, ← Nat.add_assoc]
    congr 1
    rw [← Nat.mul_assoc, Nat.mul_comm 18446744073709551616]
theorem qn_lt {ws : List Nat} (h : okQ ws) : qn ws < 18446744073709551616 ^ ws.length := by
  induction ws with
  | nil => simp [qn]
  | cons x l ih =>
    have h1 := h x (List.mem_cons_self ..)
    have h2 := ih (fun y hy => h y (List.mem_cons_of_mem _ hy))
    rw [qn_cons, List.length_cons, Nat.pow_succ, Nat.mul_comm _ 18446744073709551616]
    omega
theorem okQ_take {ws : List Nat} (h : okQ ws) (k : Nat) : okQ (ws.take k) := fun x hx => h x (List.mem_of_mem_take hx)
theorem okQ_append {a b : List Nat} (ha : okQ a) (hb : okQ b) : okQ (a ++ b) := fun x hx => (List.mem_append.1 hx).elim (ha x) (hb x)
theorem okQ_getD {ws : List Nat} (h : okQ ws) (k : Nat) : ws.getD k 0 < 18446744073709551616 := by
  rw [List.getD_eq_getElem?_getD]
  cases hk : ws[k]? with
  | none => simp
  | some x => simp only [Option.getD_some]; exact h x (List.mem_of_getElem? hk)
theorem qn_zero {ws : List Nat} (h : ∀ j, ws.getD j 0 = 0) : qn ws = 0 := by
  induction ws with
  | nil => rfl
  | cons x l ih =>
    have h0 : x = 0 := h 0
    have h1 := ih (fun j => h (j + 1))
    rw [qn_cons, h0, h1]
theorem qn_take_of {ws : List Nat} {m : Nat} (h : ∀ j, m ≤ j → ws.getD j 0 = 0) : qn (ws.take m) = qn ws := by
  have h1 : qn (ws.drop m) = 0 := qn_zero (fun j => by
    rw [List.getD_eq_getElem?_getD, List.getElem?_drop, ← List.getD_eq_getElem?_getD]; exact h (m + j) (by omega))
  have h2 := qn_append (ws.take m) (ws.drop m)
  rw [List.take_append_drop, h1, Nat.mul_zero, Nat.add_zero] at h2
  exact h2.symm
theorem qn_split (ws : List Nat) (k : Nat) (hk : k < ws.length) : qn ws = qn (ws.take k) + 18446744073709551616 ^ k * (ws.getD k 0 + 18446744073709551616 * qn (ws.drop (k + 1))) := by
  have h2 := qn_append (ws.take k) (ws.drop k)
  rw [List.take_append_drop, List.length_take, Nat.min_eq_left (by omega), List.drop_eq_getElem_cons hk, qn_cons] at h2
  rw [h2]
  congr 3
  simp [List.getD_eq_getElem?_getD, hk]
theorem qn_take_succ (ws : List Nat) (k : Nat) (hk : k < ws.length) : qn (ws.take (k + 1)) = qn (ws.take k) + 18446744073709551616 ^ k * ws.getD k 0 := by
  rw [List.take_succ_eq_append_getElem hk, qn_append, List.length_take, Nat.min_eq_left (by omega)]
  congr 2
  simp [qn, List.getD_eq_getElem?_getD, hk]
/-- no nought at the end -/
def trimQ (ws : List Nat) : Prop := 0 < ws.length → ws.getD (ws.length - 1) 0 ≠ 0
theorem qn_ge {ws : List Nat} (ht : trimQ ws) (h0 : 0 < ws.length) : 18446744073709551616 ^ (ws.length - 1) ≤ qn ws := by
  have h := qn_split ws (ws.length - 1) (by omega)
  have h1 := ht h0
  have h2 : 1 ≤ ws.getD (ws.length - 1) 0 := by omega
  rw [h]
  have : 18446744073709551616 ^ (ws.length - 1) * 1 ≤ 18446744073709551616 ^ (ws.length - 1) * (ws.getD (ws.length - 1) 0 + 18446744073709551616 * qn (ws.drop (ws.length - 1 + 1))) := Nat.mul_le_mul_left _ (by omega)
  omega
theorem qn_pos {ws : List Nat} (ht : trimQ ws) : qn ws = 0 ↔ ws.length = 0 := by
  constructor
  · intro h
    rcases Nat.eq_zero_or_pos ws.length with h0 | h0
    · exact h0
    · have := qn_ge ht h0
      have := Nat.pow_pos (n := ws.length - 1) (show 0 < 18446744073709551616 by omega)
      omega
  · intro h
    rw [List.length_eq_zero_iff.1 h]; rfl
theorem cmq_len {a b : List Nat} (ha : okQ a) (htb : trimQ b) (h : a.length < b.length) : qn a < qn b := by
  have h1 := qn_lt ha
  have h2 := qn_ge htb (by omega)
  have h3 : 18446744073709551616 ^ a.length ≤ 18446744073709551616 ^ (b.length - 1) := Nat.pow_le_pow_right (by omega) (by omega)
  omega
theorem cmq_at {a b : List Nat} (ha : okQ a) (hl : a.length = b.length) {i : Nat} (hi : i < a.length) (hd : a.drop (i + 1) = b.drop (i + 1)) (h : a.getD i 0 < b.getD i 0) : qn a < qn b := by
  have h1 := qn_split a i hi
  have h2 := qn_split b i (by omega)
  have h3 := qn_lt (okQ_take ha i)
  rw [List.length_take, Nat.min_eq_left (by omega)] at h3
  rw [h1, h2, hd]
  generalize qn (b.drop (i + 1)) = t at *
  generalize a.getD i 0 = x at *
  generalize b.getD i 0 = y at *
  have h4 : 18446744073709551616 ^ i * (x + 18446744073709551616 * t) + 18446744073709551616 ^ i ≤ 18446744073709551616 ^ i * (y + 18446744073709551616 * t) := by
    rw [← Nat.mul_succ]; exact Nat.mul_le_mul_left _ (by omega)
  omega

end Go.Proofs.YtmpkcioeodlbcaaGreatDoor
namespace Go.Proofs.YtmpkcioeodlbcaaGreatDoor
open RowKit
theorem ret1i {a b : Int} (h : a = b) : Ending.returned (.int .i64 a) = .returned (.int .i64 b) := by rw [h]
end Go.Proofs.YtmpkcioeodlbcaaGreatDoor
