/-
  A net read: pure part; Of of a list that was grown.
-/
import Derived.Test.YtjoncbfaajcioaaGreatDoorNpf
import Derived.Test.YtjoncbfaajcioaaGreatDoorBpd
namespace Go.Proofs.YtjoncbfaajcioaaGreatDoor
open Go.Maps Go.RowKit Joins Deep
set_option linter.unusedVariables false
set_option maxRecDepth 100000

theorem orow_slice {w : World} {base : Nat} {e : TypeId} {sz : Nat} {v : Value} {n : Nat} {xs : List Value} (h : w.ownsRow base e sz v n xs) : ∃ A cap, v = .slice A n cap := by
  obtain ⟨_, ⟨h1, h2⟩ | ⟨g, cap, cur, h1, _⟩⟩ := h
  · exact ⟨none, 0, by rw [h1, h2]⟩
  · exact ⟨_, _, h1⟩
theorem oe8_row {w : World} {base g cap n : Nat} {l : List Elm} (h : w.ownsRow base 31 8 (.slice (some ⟨g, 0, none⟩) n cap) n (elCs l)) {i : Nat} {x : Elm} (hx : l[i]? = some x) (hi : i < n) : E8 w g (i * 8) x := by
  have hc : ∀ c v, c < 8 → (elC x)[c]? = some v → w.cell? ⟨g, i * 8 + c, none⟩ = some v := fun c v h1 h2 => by rw [h.cellAt (i * 8 + c) (by omega), elCs_get hx h1]; exact h2
  exact ⟨hc 0 _ (by omega) rfl, hc 1 _ (by omega) rfl, hc 2 _ (by omega) rfl, hc 3 _ (by omega) rfl, hc 4 _ (by omega) rfl, hc 5 _ (by omega) rfl, hc 6 _ (by omega) rfl, hc 7 _ (by omega) rfl⟩
theorem ordE_row {w : World} {base : Nat} {v : Value} {l : List Elm} (h : w.ownsRow base 31 8 v l.length (elCs l)) (hl : l.length ≤ 1000) : RdE w v l := by
  refine ⟨by omega, ?_⟩
  have h0 := h
  obtain ⟨_, ⟨h1, h2⟩ | ⟨g, cap, cur, h1, _⟩⟩ := h
  · exact ⟨none, 0, by rw [h1, h2], .inl (List.length_eq_zero_iff.1 h2)⟩
  · rw [h1] at h0
    exact ⟨_, cap, h1, .inr ⟨g, rfl, fun k x hk => oe8_row h0 hk (List.getElem?_eq_some_iff.1 hk).1⟩⟩
theorem ofl_long (w : World) (A : Option Addr) (c n : Nat) (l : List Elm) (hl : l.length = n) (hn : 256 < n) (hb : n ≤ 140737488351232) : Calls Tryz.prog 16 #[.slice A n c] w (OfP w l) := by
  have HN : Hid (l.length = n) := hl
  clear hl
  have hbi : (256 : Int) < (n : Int) := by omega
  go_enter Tryz.func16, Tryz.ntmps16
  go_wp2_with fail
  (try simp only [Exit.inBlock, Exit.then])
  refine bodyPost_ret (by simp [results, Tryz.results16, go_sem]; try rfl) rfl ?_
  have hA3 : ofA l = ((3, -1), Ns.nil) := if_pos (by have := HN.out; omega)
  exact ⟨(Below.refl _ w).alloc (Nat.le_refl _) _, .inr ⟨by rw [hA3]; simp, by rw [hA3]⟩⟩
theorem ofl_row (w : World) (base n : Nat) (v : Value) (l : List Elm) (hl : l.length = n) (hb : n ≤ 140737488351232) (hr : w.ownsRow base 31 8 v n (elCs l)) (hok : ∀ x ∈ l, x.ok) : Calls Tryz.prog 16 #[v] w (OfP w l) := by
  by_cases h : n ≤ 1000
  · subst hl
    exact netOf_any w v l (ordE_row hr h) hok
  · obtain ⟨A, c, rfl⟩ := orow_slice hr
    exact ofl_long w A c n l hl (by omega) hb

/-- a line's words -/
abbrev wdL (ts : List Tok) : List ByteArray := ts.map (·.1)
/-- may a line be? -/
def okL (ts : List Tok) : Prop := ts = [] ∨ rdE (wdL ts) = 0
instance (ts : List Tok) : Decidable (okL ts) := by unfold okL; infer_instance
/-- the elements that lines say, and the line of each -/
def acc : Nat → List (List Tok) → List (Elm × Nat)
  | _, [] => []
  | n, ts :: r => (if ts = [] then [] else [(rdX (wdL ts), n)]) ++ acc (n + 1) r
theorem acc_snoc (l : List (List Tok)) (ts : List Tok) : ∀ n, acc n (l ++ [ts]) = acc n l ++ (if ts = [] then [] else [(rdX (wdL ts), n + l.length)]) := by
  induction l with
  | nil => intro n; simp [acc]
  | cons a t ih =>
    intro n
    show (if a = [] then [] else [(rdX (wdL a), n)]) ++ acc (n + 1) (t ++ [ts]) = _
    rw [ih (n + 1), ← List.append_assoc]
    have : n + 1 + t.length = n + (a :: t).length := by simp; omega
    rw [this]
    rfl
/-- the first line that may not be: what is wrong with it, and where it stands -/
def prsE : Nat → List (List Tok) → Int × Int
  | _, [] => (0, 0)
  | n, ts :: r => if okL ts then prsE (n + 1) r else (rdE (wdL ts), (n : Int))
theorem prs_ok {l : List (List Tok)} (h : ∀ ts ∈ l, okL ts) : ∀ n, prsE n l = (0, 0) := by
  induction l with
  | nil => intro n; rfl
  | cons a t ih =>
    intro n
    show (if okL a then prsE (n + 1) t else _) = _
    rw [if_pos (h a (by simp))]
    exact ih (fun ts ht => h ts (by simp [ht])) (n + 1)
theorem prs_bad {l : List (List Tok)} {k : Nat} {ts : List Tok} (hk : l[k]? = some ts) (hb : ¬ okL ts) (h : ∀ j u, j < k → l[j]? = some u → okL u) : ∀ n, prsE n l = (rdE (wdL ts), ((n + k : Nat) : Int)) := by
  induction l generalizing k with
  | nil => cases hk
  | cons a t ih =>
    intro n
    show (if okL a then prsE (n + 1) t else (rdE (wdL a), (n : Int))) = _
    cases k with
    | zero =>
      cases hk
      rw [if_neg hb]; rfl
    | succ k =>
      rw [if_pos (h 0 a (by omega) rfl)]
      rw [ih (k := k) (by simpa using hk) (fun j u hj hu => h (j + 1) u (by omega) (by simpa using hu)) (n + 1)]
      have : n + 1 + k = n + (k + 1) := by omega
      rw [this]
theorem acc_len (l : List (List Tok)) : ∀ n, (acc n l).length ≤ l.length := by
  induction l with
  | nil => intro n; exact Nat.le_refl _
  | cons a t ih =>
    intro n
    show ((if a = [] then [] else [(rdX (wdL a), n)]) ++ acc (n + 1) t).length ≤ _
    rw [List.length_append, List.length_cons]
    have := ih (n + 1)
    split <;> simp <;> omega
/-- what a text's net is: the fault, the elements -/
def psL (s : ByteArray) : List (List Tok) := tkL 0 (liT s)
def psF (s : ByteArray) (r : Int × Int) : Int × Int := if r.1 ≠ 0 ∧ 0 ≤ r.2 then (r.1, ((((acc 0 (psL s)).map (·.2)).getD r.2.toNat 0 : Nat) : Int)) else r
def psE (s : ByteArray) : Int × Int := if (erL 0 (liT s)).1 ≠ 0 then (((erL 0 (liT s)).1 : Int), ((erL 0 (liT s)).2 : Int)) else if (prsE 0 (psL s)).1 ≠ 0 then prsE 0 (psL s) else psF s (ofA ((acc 0 (psL s)).map (·.1))).1
def psA (s : ByteArray) : List Elm := (acc 0 (psL s)).map (·.1)
theorem paW_lt (s : ByteArray) : paW s < 18446744073709551616 := by
  unfold paW
  (repeat' split) <;> omega
end Go.Proofs.YtjoncbfaajcioaaGreatDoor
