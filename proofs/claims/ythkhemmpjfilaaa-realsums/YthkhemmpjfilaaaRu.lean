/-
  What LentReals, KeptReals and OverReals of the given package gridworkkit hand back, and which memory they leave.
-/
import Derived.Test.YthkhemmpjfilaaaRt
namespace Go.Proofs.Ythkhemmpjfilaaa
open Fl RowKit

theorem copy_own (ao : Option Addr) (cap : Nat) (xs : List Nat) (w : World) (hsz : xs.length * 8 ≤ 140737488355328) (hc : Sl w ao cap xs) :
    Calls Try.prog 15 #[.slice ao xs.length cap] w fun e w' => ∃ v, e = .returned v ∧ w'.ownsRow w.heap.size 29 1 v xs.length (xs.map (Value.float .f64)) ∧ Below w.heap.size w w' := by
  rcases hc.shape with ⟨rfl, h0⟩ | ⟨g, off, rfl⟩
  · rw [h0]
    refine (copy_nil cap w).mono ?_
    rintro e w' ⟨rfl, rfl⟩
    have : xs = [] := List.length_eq_zero_iff.1 h0
    subst this
    exact ⟨_, rfl, World.ownsRow_nil _ _ _ _, Below.refl _ _⟩
  · exact copy_some g off cap xs w hsz hc.rd
/-- the first m marks of list k -/
def marks (k : Int) (m : Nat) : List Nat := (List.range m).map (fun (i : Nat) => mk k (i : Int))
theorem marks_len (k : Int) (m : Nat) : (marks k m).length = m := by simp [marks]
theorem marks_succ (k : Int) (m : Nat) : marks k (m + 1) = marks k m ++ [mk k (m : Int)] := by simp [marks, List.range_succ]
theorem marks_getD (k : Int) (m j : Nat) (h : j < m) : (marks k m).getD j 0 = mk k (j : Int) := by simp [marks, List.getD_eq_getElem?_getD, h]
set_option maxRecDepth 10000 in
set_option maxHeartbeats 1000000 in
theorem lent_any (ao : Option Addr) (cap : Nat) (xs : List Nat) (w : World) (hsz : xs.length * 8 + 48 ≤ 140737488355328) (hc : Sl w ao cap xs) :
    Calls Try.prog 10 #[.slice ao xs.length cap] w fun e w' => ∃ v, e = .returned v ∧ w'.ownsRow w.heap.size 29 1 v (xs.length + 6) ((xs ++ marks 7 6).map (Value.float .f64)) ∧ Below w.heap.size w w' := by
  obtain ⟨i0, hi, hz0, hz1, hz2⟩ := info_parts Try.infoF
  go_enter Try.func10, Try.ntmps10
  go_wp2_with (first
    | (go_at_call 15; refine (copy_own ao cap xs _ (by omega) hc).mono ?_; rintro e wc ⟨vc, rfl, hoc, hbc⟩))
  go_loopw [3, 4] (fun v i wr => ∃ (k : Nat) (v0 : Value), k ≤ 6 ∧ i = .int .i64 k ∧ v0 = v ∧ wr.ownsRow w.heap.size 29 1 v0 (xs.length + k) ((xs ++ marks 7 k).map (Value.float .f64)) ∧ Below w.heap.size w wr) (fun _ i _ => 6 - (intOf i).toNat)
  case atStart => exact ⟨0, _, by omega, rfl, rfl, by simpa [marks] using hoc, hbc⟩
  case round =>
    obtain ⟨k, v0, hk, rfl, rfl, hown, hbel⟩ := hrel
    have hS := hbel.size
    by_cases hlt : k < 6
    · have HB : Hid (Below w.heap.size w wr) := hbel
      clear hbel hoc hbc hc
      go_wp2_with (first
        | (go_at_call 59; refine (mark_any 7 (k : Int) _ (by omega) (by omega) (by omega) (by omega)).mono ?_; rintro e w' ⟨rfl, rfl⟩)
        | (at_builtin; refine wpList_append_own _ rfl _ _ 23 rfl w.heap.size 29 i0 (.float .f64 0) 1 8 Try.underlying23 hi hz0 hz1 hz2 rfl (by decide) _ _ _ rfl (hown.alloc _) ⟨_, 0, none⟩ 1 1 [.float .f64 (mk 7 (k : Int))] rfl rfl ?c1 ?c2 ?c3 ?c4 ?c5 ?_))
      case c1 =>
        intro j u hj
        match j, hj with
        | 0, hj =>
          simp at hj; subst hj
          simp [Addr.add]
      case c2 => intro u hu; simp at hu; subst hu; rfl
      case c3 => unfold maxLen; omega
      case c4 => omega
      case c5 => simp; omega
      · intro v' w1 hown' hgrow _
        have R2 : Below w.heap.size w w1 := (HB.out.alloc hS _).grown hgrow (by simp; omega) (fun j hj => own_ge hown hj)
        have R : w1.ownsRow w.heap.size 29 1 v' (xs.length + (k + 1)) ((xs ++ marks 7 (k + 1)).map (Value.float .f64)) := by
          rw [marks_succ, List.map_append, List.map_append]; exact hown'
        clear hown' hgrow hown
        go_wp2
        go_roundw
        case rel => exact ⟨k + 1, v', by omega, by go_num, rfl, R, R2⟩
        case measure => simp [intOf]; omega
    · have e : k = 6 := by omega
      subst e
      clear hoc hbc hc
      go_wp2
      go_ret
      exact ⟨_, rfl, hown, hbel⟩

/-- a full list of marks, and what is left of a list, in one row -/
theorem over_step {xs : List Nat} {k : Nat} (hk : k < xs.length) : ((marks 9 k ++ xs.drop k).map (Value.float .f64)).set k (.float .f64 (mk 9 (k : Int))) = (marks 9 (k + 1) ++ xs.drop (k + 1)).map (Value.float .f64) := by
  have e : (marks 9 k ++ xs.drop k).set k (mk 9 (k : Int)) = marks 9 (k + 1) ++ xs.drop (k + 1) := by
    rw [List.set_append_right _ _ (by rw [marks_len]; exact Nat.le_refl _), marks_len, Nat.sub_self, List.drop_eq_getElem_cons hk, marks_succ, List.append_assoc]; rfl
  rw [← e, List.map_set]
/-- the row g alone is written -/
structure OnlyRow (g : Nat) (w w' : World) : Prop where
  os : w'.os = w.os
  tape : w'.tape = w.tape
  output : w'.output = w.output
  size : w'.heap.size = w.heap.size
  block : ∀ b, b ≠ g → w'.heap[b]? = w.heap[b]?
theorem OnlyRow.refl (g : Nat) (w : World) : OnlyRow g w w := ⟨rfl, rfl, rfl, rfl, fun _ _ => rfl⟩
theorem OnlyRow.setCell {g k : Nat} {w w' : World} (h : OnlyRow g w w') (u : Value) : OnlyRow g w (w'.setCell ⟨g, k, none⟩ u) := by
  refine ⟨h.os, h.tape, h.output, by simpa using h.size, fun b hb => ?_⟩
  rw [Below.heap_setCell _ _ _ _ (by exact hb)]
  exact h.block b hb
set_option maxRecDepth 10000 in
set_option maxHeartbeats 1000000 in
theorem over_any (base g cap : Nat) (xs : List Nat) (w : World) (hsz : xs.length * 8 ≤ 140737488355328) (h : w.ownsRow base 29 1 (.slice (some ⟨g, 0, none⟩) xs.length cap) xs.length (xs.map (Value.float .f64))) :
    Calls Try.prog 14 #[.slice (some ⟨g, 0, none⟩) xs.length cap] w fun e w' =>
      e = .returned (.tuple #[]) ∧ w'.ownsRow base 29 1 (.slice (some ⟨g, 0, none⟩) xs.length cap) xs.length ((marks 9 xs.length).map (Value.float .f64)) ∧ OnlyRow g w w' := by
  go_enter Try.func14, Try.ntmps14
  go_wp2
  go_loopw [2] (fun i wr => ∃ k : Nat, k ≤ xs.length ∧ i = .int .i64 k ∧ wr.ownsRow base 29 1 (.slice (some ⟨g, 0, none⟩) xs.length cap) xs.length ((marks 9 k ++ xs.drop k).map (Value.float .f64)) ∧ OnlyRow g w wr) (fun i _ => xs.length - (intOf i).toNat)
  case atStart => exact ⟨0, Nat.zero_le _, rfl, by simpa [marks] using h, OnlyRow.refl _ _⟩
  case round =>
    obtain ⟨k, hk, rfl, hown, honly⟩ := hrel
    by_cases hlt : k < xs.length
    · have hcell := hown.cellAt k (by omega)
      have hfz := hown.frozenAt k
      have hst := (hown.stored k (.float .f64 (mk 9 (k : Int)))).1
      rw [over_step hlt] at hst
      have hget : ((marks 9 k ++ xs.drop k).map (Value.float .f64))[k]? = some (.float .f64 (xs.getD k 0)) := by
        rw [List.getElem?_map, List.getElem?_append_right (by rw [marks_len]; exact Nat.le_refl _), marks_len, Nat.sub_self]
        simp [List.getD_eq_getElem?_getD, hlt]
      rw [hget] at hcell
      obtain ⟨y, hy⟩ : ∃ y, y = xs.getD k 0 := ⟨_, rfl⟩
      rw [← hy] at hcell
      have HO : Hid (OnlyRow g w wr) := honly
      clear hy hget honly hown h
      go_wp2_with (go_at_call 59; refine (mark_any 9 (k : Int) _ (by omega) (by omega) (by omega) (by omega)).mono ?_; rintro e w' ⟨rfl, rfl⟩)
      go_roundw
      case rel => exact ⟨k + 1, by omega, by go_num, hst, HO.out.setCell _⟩
      case measure => simp [intOf]; omega
    · have e : k = xs.length := by omega
      subst e
      clear h
      rw [List.drop_length, List.append_nil] at hown
      go_wp2
      go_end0
      exact ⟨rfl, hown, honly⟩

theorem kept_any (ao : Option Addr) (cap base : Nat) (v : Value) (xs : List Nat) (w : World) (hsz : xs.length * 8 + 48 ≤ 140737488355328) (hc : Sl w ao cap xs)
    (h : w.ownsRow base 29 1 v (xs.length + 6) ((xs ++ marks 7 6).map (Value.float .f64))) :
    Calls Try.prog 12 #[v, .slice ao xs.length cap] w fun e w' => e = .returned (.bool true) ∧ Below w.heap.size w w' := by
  have hl : (xs ++ marks 7 6).length = xs.length + 6 := by rw [List.length_append, marks_len]
  obtain ⟨bo, cb, rfl, _, _, hr⟩ := own_rd hl.symm h
  rw [hl]
  clear h
  go_enter Try.func12, Try.ntmps12
  go_wp2_with (first
    | (go_at_call 10; refine (lent_any ao cap xs _ hsz hc).mono ?_; rintro e w1 ⟨v1, rfl, h1, b1⟩; obtain ⟨co, cc, hv1, _, _, hr1⟩ := own_rd hl.symm h1; rw [hl] at hv1; subst hv1; clear h1)
    | (go_at_call 16; refine (sameReals_len bo co cb cc (xs.length + 6) (xs ++ marks 7 6) (xs ++ marks 7 6) _ (by omega) hl hl (hr.below b1) hr1 (fun j _ => smB_id _)).mono ?_; rintro e w2 ⟨m, rfl, rfl⟩))
  go_ret
  exact ⟨rfl, below_drewN b1 m⟩

end Go.Proofs.Ythkhemmpjfilaaa
