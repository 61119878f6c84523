/-
  A byte replaced wherever it stands: ReplaceAll of package strings.
-/
import Derived.Test.YtpfdgibgdehcdaaDoorTkj
import Derived.Test.YtpfdgibgdehcdaaDoorShl
namespace Go.Proofs.YtpfdgibgdehcdaaDoor
open RowKit Go.Lib

/-- a byte in a text's place -/
def rpl (c : UInt8) (new l : List UInt8) : List UInt8 := l.flatMap fun x => if x = c then new else [x]
theorem index_ne {b c : UInt8} {l : List UInt8} (h : b ≠ c) : index (b :: l) [c] = if index l [c] == -1 then -1 else index l [c] + 1 := by
  rw [index]
  have : ([c].isPrefixOf (b :: l)) = false := by simp [List.isPrefixOf]; exact fun e => absurd e.symm h
  simp [this]
theorem index_eq (c : UInt8) (l : List UInt8) : index (c :: l) [c] = 0 := index_first (i := 0) (Nat.zero_le _) (by simp [occAt, List.isPrefixOf]) (fun _ h => absurd h (Nat.not_lt_zero _))
theorem replK (c : UInt8) (new : List UInt8) : ∀ l : List UInt8, replaceK [c] new (count l [c]) l = rpl c new l := by
  intro l
  induction l with
  | nil => rw [count_one]; rfl
  | cons b l ih =>
    by_cases h : b = c
    · subst h
      rw [count_cons_eq, Nat.add_comm, replaceK_hit [b] new _ _ 0 (index_eq b l)]
      simp only [List.take_zero, List.nil_append, List.length_singleton, Nat.zero_add, List.drop_succ_cons, List.drop_zero]
      rw [ih]
      simp [rpl]
    · have e : rpl c new (b :: l) = b :: rpl c new l := by simp [rpl, h]
      rw [count_cons_ne b c l h, e, ← ih]
      cases hk : count l [c] with
      | zero => rfl
      | succ k =>
        obtain ⟨i, hi⟩ := index_of_count (s := l) (old := [c]) (by omega)
        have hi2 : index (b :: l) [c] = ((i + 1 : Nat) : Int) := by
          rw [index_ne h, hi, if_neg (by simp)]; omega
        rw [replaceK_hit [c] new k (b :: l) (i + 1) hi2, replaceK_hit [c] new k l i hi]
        simp
theorem repl_all (c : UInt8) (new l : List UInt8) (hn : ([c] == new) = false) : replaceAll l [c] new = rpl c new l := by
  unfold replaceAll replace
  rw [hn, if_neg (by simp)]
  unfold replaceNum
  rw [if_pos (.inl (by decide))]
  exact replK c new l
theorem replace_any (s new : ByteArray) (c : UInt8) (w : World) (hs : s.size ≤ 100000) (hn : new.size ≤ 1000) (hm : Mln w) (hne : ([c] == new.data.toList) = false) :
    Calls Tryd.prog 18 #[.string s, .string ⟨#[c]⟩, .string new] w fun e w' => ∃ t : ByteArray, e = .returned (.string t) ∧ t.data.toList = rpl c new.data.toList s.data.toList ∧ Below w.heap.size w w' := by
  obtain ⟨m, hm⟩ := hm
  have hc : countB s ⟨#[c]⟩ ≤ s.size + 1 := by
    have := count_le s.data.toList [c]
    have e : s.data.toList.length = s.size := by simp
    unfold countB
    rw [e] at this; exact this
  refine (Go.Proofs.Any.strings_ReplaceAll sh155 shX s ⟨#[c]⟩ new m w (by omega) hm (Nat.le_refl 1) (by have := Nat.mul_le_mul hc hn; omega)).mono ?_
  rintro e w' ⟨rfl, hb⟩
  exact ⟨_, rfl, repl_all c _ _ hne, hb⟩
theorem rpl_len (c : UInt8) (new : List UInt8) : ∀ l : List UInt8, (rpl c new l).length ≤ l.length * (new.length + 1) := by
  intro l
  induction l with
  | nil => simp [rpl]
  | cons b l ih =>
    unfold rpl at ih ⊢
    rw [List.flatMap_cons, List.length_append, List.length_cons, Nat.succ_mul]
    split
    · omega
    · rw [List.length_singleton]; omega

end Go.Proofs.YtpfdgibgdehcdaaDoor
