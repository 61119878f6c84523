/-
  What CopyInts, LentInts, KeptInts and OverInts of the given package gridworkkit hand back, and which memory they leave.
-/
import Derived.Test.YtgpjlobclcbniaaYf
namespace Go.Proofs.Ytgpjlobclcbniaa.In
open Fl RowKit

/-- a mark -/
def mk (k i : Int) : Int := -1000 * k - i - 7
theorem mark_any (k i : Int) (w : World) (hk : 0 ≤ k) (hk2 : k ≤ 20) (hi : 0 ≤ i) (hi2 : i ≤ 1000000000000000) :
    Calls Try.prog 54 #[.int .i64 k, .int .i64 i] w fun e w' => e = .returned (.int .i64 (mk k i)) ∧ w' = w := by
  unfold mk
  go_enter Try.func54, Try.ntmps54
  go_wp2
  go_ret
  exact ⟨rfl, rfl⟩
theorem own_rc {w : World} {base n : Nat} {v : Value} {xs : List Int} (hn : n = xs.length) (h : w.ownsRow base 3 1 v n (xs.map ci)) :
    ∃ ao cap, v = .slice ao xs.length cap ∧ xs.length ≤ cap ∧ (xs.length = 0 ∧ ao = none ∧ cap = 0 ∨ ∃ g, ao = some ⟨g, 0, none⟩ ∧ base ≤ g) ∧ Qi w ao xs := by
  subst hn
  rcases h.2 with ⟨hv, h0⟩ | ⟨g, cap, cur, hv, hb, hg, hnc, _, _, htake⟩
  · refine ⟨none, 0, by rw [hv, h0], by omega, .inl ⟨h0, rfl, rfl⟩, fun k hk => by omega⟩
  · refine ⟨some ⟨g, 0, none⟩, cap, hv, hnc, .inr ⟨g, rfl, hb⟩, fun k hk => ⟨g, 0, rfl, (Array.getElem?_eq_some_iff.1 hg).1, ?_⟩⟩
    subst hv
    rw [Nat.zero_add, h.cellAt k (by omega), List.getElem?_map, iat_lt hk]; rfl

theorem copy_nil (ao : Option Addr) (cap : Nat) (w : World) :
    Calls Try.prog 53 #[.slice ao 0 cap] w fun e w' => e = .returned (.slice none 0 0) ∧ w' = w := by
  cases ao with
  | none =>
    go_enter Try.func53, Try.ntmps53
    go_wp2
    go_ret
    exact ⟨rfl, rfl⟩
  | some a =>
  go_enter Try.func53, Try.ntmps53
  go_wp2
  go_ret
  exact ⟨rfl, rfl⟩
set_option maxHeartbeats 1000000 in
theorem copy_some (g off cap : Nat) (xs : List Int) (w : World) (hsz : xs.length * 8 ≤ 140737488355328) (hc : Qi w (some ⟨g, off, none⟩) xs) :
    Calls Try.prog 53 #[.slice (some ⟨g, off, none⟩) xs.length cap] w fun e w' => ∃ v, e = .returned v ∧ w'.ownsRow w.heap.size 3 1 v xs.length (xs.map ci) ∧ Below w.heap.size w w' := by
  obtain ⟨i0, hi, hz0, hz1, hz2⟩ := info_parts Try.infoI
  go_enter Try.func53, Try.ntmps53
  go_wp2_with (at_builtin; refine wpList_append_own _ rfl _ _ 45 rfl w.heap.size 3 i0 (.int .i64 0) 1 8 Try.underlying45 hi hz0 hz1 hz2 rfl (by decide) _ 0 [] rfl (World.ownsRow_nil _ _ _ _) ⟨g, off, none⟩ xs.length cap (xs.map ci) rfl (by simp) ?c1 ?c2 ?c3 ?c4 ?c5 ?_)
  case c1 =>
    intro j u hj
    rw [List.getElem?_map] at hj
    have hl : j < xs.length := by
      rcases Nat.lt_or_ge j xs.length with h | h
      · exact h
      · rw [List.getElem?_eq_none h] at hj; simp at hj
    obtain ⟨b, o, h1, _, h3⟩ := hc j hl
    simp only [Option.some.injEq, Addr.mk.injEq, and_true] at h1
    obtain ⟨rfl, rfl⟩ := h1
    have ha : (⟨g, off, none⟩ : Addr).add j = ⟨g, off + j, none⟩ := by unfold Addr.add; split <;> simp_all
    rw [ha, h3]
    rw [iat_lt hl] at hj
    exact hj
  case c2 => intro u hu; rw [List.mem_map] at hu; obtain ⟨n, _, rfl⟩ := hu; rfl
  case c3 => unfold maxLen; omega
  case c4 => omega
  case c5 => exact Nat.le_refl _
  · intro v' w1 hown' hgrow _
    have R2 : Below w.heap.size w w1 := (Below.refl _ _).grown hgrow (Nat.le_refl _) (by intro k hk; simp [Value.ownBlock] at hk)
    clear hgrow
    go_wp2
    go_ret
    exact ⟨_, rfl, hown', R2⟩

/-- a list that is read: its address is none only if it is empty -/
structure Sl (w : World) (ao : Option Addr) (cap : Nat) (xs : List Int) : Prop where
  rd : Qi w ao xs
  shape : xs.length = 0 ∨ ∃ g off, ao = some ⟨g, off, none⟩
  cap : xs.length ≤ cap
theorem Sl.below {w w' : World} {ao : Option Addr} {cap : Nat} {xs : List Int} (h : Sl w ao cap xs) (hb : Below w.heap.size w w') : Sl w' ao cap xs := ⟨h.rd.below hb, h.shape, h.cap⟩
theorem Sl.drewN {w : World} {ao : Option Addr} {cap : Nat} {xs : List Int} (h : Sl w ao cap xs) (n : Nat) : Sl (w.drewN n) ao cap xs := ⟨h.rd.drewN n, h.shape, h.cap⟩
theorem own_sl {w : World} {base : Nat} {v : Value} {xs : List Int} (h : w.ownsRow base 3 1 v xs.length (xs.map ci)) :
    ∃ ao cap, v = .slice ao xs.length cap ∧ Sl w ao cap xs := by
  obtain ⟨ao, cap, h1, h2, h3, h4⟩ := own_rc rfl h
  refine ⟨ao, cap, h1, h4, ?_, h2⟩
  rcases h3 with ⟨a, b, _⟩ | ⟨g, a, _⟩
  · exact .inl a
  · exact .inr ⟨g, 0, a⟩
theorem copy_own (ao : Option Addr) (cap : Nat) (xs : List Int) (w : World) (hsz : xs.length * 8 ≤ 140737488355328) (hc : Sl w ao cap xs) :
    Calls Try.prog 53 #[.slice ao xs.length cap] w fun e w' => ∃ v, e = .returned v ∧ w'.ownsRow w.heap.size 3 1 v xs.length (xs.map ci) ∧ Below w.heap.size w w' := by
  rcases hc.shape with h0 | ⟨g, off, rfl⟩
  · rw [h0]
    refine (copy_nil ao cap w).mono ?_
    rintro e w' ⟨rfl, rfl⟩
    have : xs = [] := List.length_eq_zero_iff.1 h0
    subst this
    exact ⟨_, rfl, World.ownsRow_nil _ _ _ _, Below.refl _ _⟩
  · exact copy_some g off cap xs w hsz hc.rd
/-- the first m marks of list k -/
def marks (k : Int) (m : Nat) : List Int := (List.range m).map (fun (i : Nat) => mk k (i : Int))
theorem marks_len (k : Int) (m : Nat) : (marks k m).length = m := by simp [marks]
theorem marks_succ (k : Int) (m : Nat) : marks k (m + 1) = marks k m ++ [mk k (m : Int)] := by simp [marks, List.range_succ]
theorem marks_getD (k : Int) (m j : Nat) (h : j < m) : iat (marks k m) j = mk k (j : Int) := by simp [marks, iat, List.getD_eq_getElem?_getD, h]
set_option maxRecDepth 10000 in
set_option maxHeartbeats 1000000 in
theorem lent_any (ao : Option Addr) (cap : Nat) (xs : List Int) (w : World) (hsz : xs.length * 8 + 48 ≤ 140737488355328) (hc : Sl w ao cap xs) :
    Calls Try.prog 22 #[.slice ao xs.length cap] w fun e w' => ∃ v, e = .returned v ∧ w'.ownsRow w.heap.size 3 1 v (xs.length + 6) ((xs ++ marks 7 6).map ci) ∧ Below w.heap.size w w' := by
  obtain ⟨i0, hi, hz0, hz1, hz2⟩ := info_parts Try.infoI
  go_enter Try.func22, Try.ntmps22
  go_wp2_with (first
    | (go_at_call 53; refine (copy_own ao cap xs _ (by omega) hc).mono ?_; rintro e wc ⟨vc, rfl, hoc, hbc⟩))
  go_loopw [3, 4] (fun v i wr => ∃ (k : Nat) (v0 : Value), k ≤ 6 ∧ i = .int .i64 k ∧ v0 = v ∧ wr.ownsRow w.heap.size 3 1 v0 (xs.length + k) ((xs ++ marks 7 k).map ci) ∧ Below w.heap.size w wr) (fun _ i _ => 6 - (intOf i).toNat)
  case atStart => exact ⟨0, _, by omega, rfl, rfl, by simpa [marks] using hoc, hbc⟩
  case round =>
    obtain ⟨k, v0, hk, rfl, rfl, hown, hbel⟩ := hrel
    have hS := hbel.size
    by_cases hlt : k < 6
    · have HB : Hid (Below w.heap.size w wr) := hbel
      clear hbel hoc hbc hc
      go_wp2_with (first
        | (go_at_call 54; refine (mark_any 7 (k : Int) _ (by omega) (by omega) (by omega) (by omega)).mono ?_; rintro e w' ⟨rfl, rfl⟩)
        | (at_builtin; refine wpList_append_own _ rfl _ _ 45 rfl w.heap.size 3 i0 (.int .i64 0) 1 8 Try.underlying45 hi hz0 hz1 hz2 rfl (by decide) _ _ _ rfl (hown.alloc _) ⟨_, 0, none⟩ 1 1 [.int .i64 (mk 7 (k : Int))] rfl rfl ?c1 ?c2 ?c3 ?c4 ?c5 ?_))
      case c1 =>
        intro j u hj
        match j, hj with
        | 0, hj =>
          simp at hj; subst hj
          simp [Addr.add]
      case c2 => intro u hu; simp at hu; subst hu; rfl
      case c3 => unfold maxLen; omega
      case c4 => omega
      case c5 => simp; omega
      · intro v' w1 hown' hgrow _
        have R2 : Below w.heap.size w w1 := (HB.out.alloc hS _).grown hgrow (by simp; omega) (fun j hj => own_ge hown hj)
        have R : w1.ownsRow w.heap.size 3 1 v' (xs.length + (k + 1)) ((xs ++ marks 7 (k + 1)).map ci) := by
          rw [marks_succ, List.map_append, List.map_append]; exact hown'
        clear hown' hgrow hown
        go_wp2
        go_roundw
        case rel => exact ⟨k + 1, v', by omega, by go_num, rfl, R, R2⟩
        case measure => simp [intOf]; omega
    · have e : k = 6 := by omega
      subst e
      clear hoc hbc hc
      go_wp2
      go_ret
      exact ⟨_, rfl, hown, hbel⟩

/-- a full list of marks, and what is left of a list, in one row -/
theorem over_step {xs : List Int} {k : Nat} (hk : k < xs.length) : ((marks 9 k ++ xs.drop k).map ci).set k (ci (mk 9 (k : Int))) = (marks 9 (k + 1) ++ xs.drop (k + 1)).map ci := by
  have e : (marks 9 k ++ xs.drop k).set k (mk 9 (k : Int)) = marks 9 (k + 1) ++ xs.drop (k + 1) := by
    rw [List.set_append_right _ _ (by rw [marks_len]; exact Nat.le_refl _), marks_len, Nat.sub_self, List.drop_eq_getElem_cons hk, marks_succ, List.append_assoc]; rfl
  rw [← e, List.map_set]
set_option maxRecDepth 10000 in
set_option maxHeartbeats 1000000 in
theorem over_any (base g cap : Nat) (xs : List Int) (w : World) (hsz : xs.length * 8 ≤ 140737488355328) (h : w.ownsRow base 3 1 (.slice (some ⟨g, 0, none⟩) xs.length cap) xs.length (xs.map ci)) :
    Calls Try.prog 28 #[.slice (some ⟨g, 0, none⟩) xs.length cap] w fun e w' =>
      e = .returned (.tuple #[]) ∧ w'.ownsRow base 3 1 (.slice (some ⟨g, 0, none⟩) xs.length cap) xs.length ((marks 9 xs.length).map ci) ∧ OnlyRow g w w' := by
  go_enter Try.func28, Try.ntmps28
  go_wp2
  go_loopw [2] (fun i wr => ∃ k : Nat, k ≤ xs.length ∧ i = .int .i64 k ∧ wr.ownsRow base 3 1 (.slice (some ⟨g, 0, none⟩) xs.length cap) xs.length ((marks 9 k ++ xs.drop k).map ci) ∧ OnlyRow g w wr) (fun i _ => xs.length - (intOf i).toNat)
  case atStart => exact ⟨0, Nat.zero_le _, rfl, by simpa [marks] using h, OnlyRow.refl _ _⟩
  case round =>
    obtain ⟨k, hk, rfl, hown, honly⟩ := hrel
    by_cases hlt : k < xs.length
    · have hcell := hown.cellAt k (by omega)
      have hfz := hown.frozenAt k
      have hst := (hown.stored k (ci (mk 9 (k : Int)))).1
      rw [over_step hlt] at hst
      have hget : ((marks 9 k ++ xs.drop k).map ci)[k]? = some (ci (iat xs k)) := by
        rw [List.getElem?_map, List.getElem?_append_right (by rw [marks_len]; exact Nat.le_refl _), marks_len, Nat.sub_self]
        simp [iat, List.getD_eq_getElem?_getD, hlt]
      rw [hget] at hcell
      obtain ⟨y, hy⟩ : ∃ y, y = iat xs k := ⟨_, rfl⟩
      rw [← hy] at hcell
      have HO : Hid (OnlyRow g w wr) := honly
      clear hy hget honly hown h
      go_wp2_with (go_at_call 54; refine (mark_any 9 (k : Int) _ (by omega) (by omega) (by omega) (by omega)).mono ?_; rintro e w' ⟨rfl, rfl⟩)
      go_roundw
      case rel => exact ⟨k + 1, by omega, by go_num, hst, HO.out.setCell _⟩
      case measure => simp [intOf]; omega
    · have e : k = xs.length := by omega
      subst e
      clear h
      rw [List.drop_length, List.append_nil] at hown
      go_wp2
      go_end0
      exact ⟨rfl, hown, honly⟩

theorem kept_any (ao : Option Addr) (cap base : Nat) (v : Value) (xs : List Int) (w : World) (hsz : xs.length * 8 + 48 ≤ 140737488355328) (hc : Sl w ao cap xs)
    (h : w.ownsRow base 3 1 v (xs.length + 6) ((xs ++ marks 7 6).map ci)) :
    Calls Try.prog 27 #[v, .slice ao xs.length cap] w fun e w' => e = .returned (.bool true) ∧ Below w.heap.size w w' := by
  have hl : (xs ++ marks 7 6).length = xs.length + 6 := by rw [List.length_append, marks_len]
  obtain ⟨bo, cb, rfl, _, _, hr⟩ := own_rc hl.symm h
  rw [hl]
  clear h
  go_enter Try.func27, Try.ntmps27
  go_wp2_with (first
    | (go_at_call 22; refine (lent_any ao cap xs _ hsz hc).mono ?_; rintro e w1 ⟨v1, rfl, h1, b1⟩; obtain ⟨co, cc, hv1, _, _, hr1⟩ := own_rc hl.symm h1; rw [hl] at hv1; subst hv1; clear h1)
    | (go_at_call 29; refine (ksameI bo co cb cc (xs.length + 6) (xs ++ marks 7 6) _ hl (by omega) (hr.below b1) hr1).mono ?_; rintro e w2 ⟨m, rfl, rfl⟩))
  go_ret
  exact ⟨rfl, below_drewN b1 m⟩

end Go.Proofs.Ytgpjlobclcbniaa.In
