/-
  What CopyNumbers, LentNumbers, KeptNumbers and OverNumbers of the given package gridworkkit hand back, and which memory they leave.
-/
import Derived.Test.YtgpjlobclcbniaaWVMirror
namespace Go.Proofs.Ytgpjlobclcbniaa
open Fl RowKit

/-- a mark -/
def mkO (k i : Int) : Option Nat := subO (floatOfInt .f64 (-1000 * k - i)) 4620130267728707584
def mk1 (k i : Int) : Nat := (mkO k i).getD 0
def mk (k i : Int) : Cw := (mk1 k i, floatOfInt .f64 k)
theorem int_not_nan (n : Int) : nan (floatOfInt .f64 n) = false := nearest_not_nan _ _ _
theorem sub_some {x y : Nat} (hx : nan x = false) (hy : fin y) : ∃ r, subO x y = some r := by
  unfold subO Ieee.Format.sub
  rw [read_fin y hy]
  rcases kinds x with h | h | h
  · rw [read_fin x h]; exact ⟨_, rfl⟩
  · rw [read_inf x h]; exact ⟨_, rfl⟩
  · rw [h] at hx; cases hx
theorem mk_some (k i : Int) : mkO k i = some (mk1 k i) := by
  obtain ⟨r, h⟩ := sub_some (int_not_nan (-1000 * k - i)) (y := 4620130267728707584) (by unfold Fl.fin; decide)
  have : mkO k i = some r := h
  unfold mk1; rw [this]; rfl
theorem subV_of {x y s : Nat} (h : subO x y = some s) (W : World) : subV W x y = s := by unfold subV fV; rw [h]
theorem mark_any (k i : Int) (w : World) (hk : 0 ≤ k) (hk2 : k ≤ 20) (hi : 0 ≤ i) (hi2 : i ≤ 1000000000000000) :
    Calls Try.prog 41 #[.int .i64 k, .int .i64 i] w fun e w' => e = .returned (.complex .f64 (mk1 k i) (floatOfInt .f64 k)) ∧ w' = w := by
  have hv : ∀ W, subV W (floatOfInt .f64 (-1000 * k - i)) 4620130267728707584 = mk1 k i := fun W => subV_of (mk_some k i) W
  have hn : subO (floatOfInt .f64 (-1000 * k - i)) 4620130267728707584 = some (mk1 k i) := mk_some k i
  have hz : fN (subO (floatOfInt .f64 (-1000 * k - i)) 4620130267728707584) = 0 := by rw [hn]; rfl
  clear hn
  go_enter Try.func41, Try.ntmps41
  go_wp2
  go_ret
  exact ⟨rfl, rfl⟩

theorem copy_nil (cap : Nat) (w : World) :
    Calls Try.prog 40 #[.slice none 0 cap] w fun e w' => e = .returned (.slice none 0 0) ∧ w' = w := by
  go_enter Try.func40, Try.ntmps40
  go_wp2
  go_ret
  exact ⟨rfl, rfl⟩
set_option maxHeartbeats 1000000 in
theorem copy_some (g off cap : Nat) (xs : List Cw) (w : World) (hsz : xs.length * 16 ≤ 140737488355328) (hc : Rc w (some ⟨g, off, none⟩) xs) :
    Calls Try.prog 40 #[.slice (some ⟨g, off, none⟩) xs.length cap] w fun e w' => ∃ v, e = .returned v ∧ w'.ownsRow w.heap.size 55 1 v xs.length (xs.map cx) ∧ Below w.heap.size w w' := by
  obtain ⟨i0, hi, hz0, hz1, hz2⟩ := info_parts Try.infoC
  go_enter Try.func40, Try.ntmps40
  go_wp2_with (at_builtin; refine wpList_append_own _ rfl _ _ 23 rfl w.heap.size 55 i0 (.complex .f64 0 0) 1 16 Try.underlying23 hi hz0 hz1 hz2 rfl (by decide) _ 0 [] rfl (World.ownsRow_nil _ _ _ _) ⟨g, off, none⟩ xs.length cap (xs.map cx) rfl (by simp) ?c1 ?c2 ?c3 ?c4 ?c5 ?_)
  case c1 =>
    intro j u hj
    rw [List.getElem?_map] at hj
    have hl : j < xs.length := by
      rcases Nat.lt_or_ge j xs.length with h | h
      · exact h
      · rw [List.getElem?_eq_none h] at hj; simp at hj
    obtain ⟨b, o, h1, _, h3⟩ := hc j hl
    simp only [Option.some.injEq, Addr.mk.injEq, and_true] at h1
    obtain ⟨rfl, rfl⟩ := h1
    have ha : (⟨g, off, none⟩ : Addr).add j = ⟨g, off + j, none⟩ := by unfold Addr.add; split <;> simp_all
    rw [ha, h3]
    rw [zat_lt hl] at hj
    exact hj
  case c2 => intro u hu; rw [List.mem_map] at hu; obtain ⟨n, _, rfl⟩ := hu; rfl
  case c3 => unfold maxLen; omega
  case c4 => omega
  case c5 => exact Nat.le_refl _
  · intro v' w1 hown' hgrow _
    have R2 : Below w.heap.size w w1 := (Below.refl _ _).grown hgrow (Nat.le_refl _) (by intro k hk; simp [Value.ownBlock] at hk)
    clear hgrow
    go_wp2
    go_ret
    exact ⟨_, rfl, hown', R2⟩

/-- a list that is read: its address is none only if it is empty -/
structure Sl (w : World) (ao : Option Addr) (cap : Nat) (xs : List Cw) : Prop where
  rd : Rc w ao xs
  shape : ao = none ∧ xs.length = 0 ∨ ∃ g off, ao = some ⟨g, off, none⟩
  cap : xs.length ≤ cap
theorem Sl.below {w w' : World} {ao : Option Addr} {cap : Nat} {xs : List Cw} (h : Sl w ao cap xs) (hb : Below w.heap.size w w') : Sl w' ao cap xs := ⟨h.rd.below hb, h.shape, h.cap⟩
theorem Sl.drewN {w : World} {ao : Option Addr} {cap : Nat} {xs : List Cw} (h : Sl w ao cap xs) (n : Nat) : Sl (w.drewN n) ao cap xs := ⟨h.rd.drewN n, h.shape, h.cap⟩
theorem own_sl {w : World} {base : Nat} {v : Value} {xs : List Cw} (h : w.ownsRow base 55 1 v xs.length (xs.map cx)) :
    ∃ ao cap, v = .slice ao xs.length cap ∧ Sl w ao cap xs := by
  obtain ⟨ao, cap, h1, h2, h3, h4⟩ := own_rc rfl h
  refine ⟨ao, cap, h1, h4, ?_, h2⟩
  rcases h3 with ⟨a, b, _⟩ | ⟨g, a, _⟩
  · exact .inl ⟨b, a⟩
  · exact .inr ⟨g, 0, a⟩
theorem copy_any (ao : Option Addr) (cap : Nat) (xs : List Cw) (w : World) (hsz : xs.length * 16 ≤ 140737488355328) (hc : Sl w ao cap xs) :
    Calls Try.prog 40 #[.slice ao xs.length cap] w fun e w' => ∃ ao' cap', e = .returned (.slice ao' xs.length cap') ∧ Sl w' ao' cap' xs ∧ Below w.heap.size w w' := by
  rcases hc.shape with ⟨rfl, h0⟩ | ⟨g, off, rfl⟩
  · rw [h0]
    refine (copy_nil cap w).mono ?_
    rintro e w' ⟨rfl, rfl⟩
    exact ⟨none, 0, rfl, ⟨fun k hk => by omega, .inl ⟨rfl, h0⟩, by omega⟩, Below.refl _ _⟩
  · refine (copy_some g off cap xs w hsz hc.rd).mono ?_
    rintro e w' ⟨v, rfl, hown, hb⟩
    obtain ⟨ao', cap', rfl, h⟩ := own_sl hown
    exact ⟨ao', cap', rfl, h, hb⟩
theorem ksameL_len (ao bo : Option Addr) (ca cb n : Nat) (es fs : List Cw) (w : World) (hsz : n * 16 ≤ 140737488355328) (h1 : es.length = n) (h2 : fs.length = n) (hc : Rc w ao es) (hd : Rc w bo fs)
    (hs : ∀ k, k < n → smB (zat es k).1 (zat fs k).1 = true ∧ smB (zat es k).2 (zat fs k).2 = true) :
    Calls Try.prog 48 #[.slice ao n ca, .slice bo n cb] w fun e w' => ∃ m, e = .returned (.bool true) ∧ w' = w.drewN m := by
  subst h1
  exact ksameL_yes ao bo ca cb es fs w hsz h2 hc hd hs
theorem copy_own (ao : Option Addr) (cap : Nat) (xs : List Cw) (w : World) (hsz : xs.length * 16 ≤ 140737488355328) (hc : Sl w ao cap xs) :
    Calls Try.prog 40 #[.slice ao xs.length cap] w fun e w' => ∃ v, e = .returned v ∧ w'.ownsRow w.heap.size 55 1 v xs.length (xs.map cx) ∧ Below w.heap.size w w' := by
  rcases hc.shape with ⟨rfl, h0⟩ | ⟨g, off, rfl⟩
  · rw [h0]
    refine (copy_nil cap w).mono ?_
    rintro e w' ⟨rfl, rfl⟩
    have : xs = [] := List.length_eq_zero_iff.1 h0
    subst this
    exact ⟨_, rfl, World.ownsRow_nil _ _ _ _, Below.refl _ _⟩
  · exact copy_some g off cap xs w hsz hc.rd
/-- the first m marks of list k -/
def marks (k : Int) (m : Nat) : List Cw := (List.range m).map (fun (i : Nat) => mk k (i : Int))
theorem marks_len (k : Int) (m : Nat) : (marks k m).length = m := by simp [marks]
theorem marks_succ (k : Int) (m : Nat) : marks k (m + 1) = marks k m ++ [mk k (m : Int)] := by simp [marks, List.range_succ]
theorem marks_getD (k : Int) (m j : Nat) (h : j < m) : zat (marks k m) j = mk k (j : Int) := by simp [marks, zat, List.getD_eq_getElem?_getD, h]
set_option maxRecDepth 10000 in
set_option maxHeartbeats 1000000 in
theorem lent_any (ao : Option Addr) (cap : Nat) (xs : List Cw) (w : World) (hsz : xs.length * 16 + 96 ≤ 140737488355328) (hc : Sl w ao cap xs) :
    Calls Try.prog 10 #[.slice ao xs.length cap] w fun e w' => ∃ v, e = .returned v ∧ w'.ownsRow w.heap.size 55 1 v (xs.length + 6) ((xs ++ marks 7 6).map cx) ∧ Below w.heap.size w w' := by
  obtain ⟨i0, hi, hz0, hz1, hz2⟩ := info_parts Try.infoC
  go_enter Try.func10, Try.ntmps10
  go_wp2_with (first
    | (go_at_call 40; refine (copy_own ao cap xs _ (by omega) hc).mono ?_; rintro e wc ⟨vc, rfl, hoc, hbc⟩))
  go_loopw [3, 4] (fun v i wr => ∃ (k : Nat) (v0 : Value), k ≤ 6 ∧ i = .int .i64 k ∧ v0 = v ∧ wr.ownsRow w.heap.size 55 1 v0 (xs.length + k) ((xs ++ marks 7 k).map cx) ∧ Below w.heap.size w wr) (fun _ i _ => 6 - (intOf i).toNat)
  case atStart => exact ⟨0, _, by omega, rfl, rfl, by simpa [marks] using hoc, hbc⟩
  case round =>
    obtain ⟨k, v0, hk, rfl, rfl, hown, hbel⟩ := hrel
    have hS := hbel.size
    by_cases hlt : k < 6
    · have HB : Hid (Below w.heap.size w wr) := hbel
      clear hbel hoc hbc hc
      go_wp2_with (first
        | (go_at_call 41; refine (mark_any 7 (k : Int) _ (by omega) (by omega) (by omega) (by omega)).mono ?_; rintro e w' ⟨rfl, rfl⟩)
        | (at_builtin; refine wpList_append_own _ rfl _ _ 23 rfl w.heap.size 55 i0 (.complex .f64 0 0) 1 16 Try.underlying23 hi hz0 hz1 hz2 rfl (by decide) _ _ _ rfl (hown.alloc _) ⟨_, 0, none⟩ 1 1 [.complex .f64 (mk1 7 (k : Int)) (floatOfInt .f64 7)] rfl rfl ?c1 ?c2 ?c3 ?c4 ?c5 ?_))
      case c1 =>
        intro j u hj
        match j, hj with
        | 0, hj =>
          simp at hj; subst hj
          simp [Addr.add]
      case c2 => intro u hu; simp at hu; subst hu; rfl
      case c3 => unfold maxLen; omega
      case c4 => omega
      case c5 => simp; omega
      · intro v' w1 hown' hgrow _
        have R2 : Below w.heap.size w w1 := (HB.out.alloc hS _).grown hgrow (by simp; omega) (fun j hj => own_ge hown hj)
        have R : w1.ownsRow w.heap.size 55 1 v' (xs.length + (k + 1)) ((xs ++ marks 7 (k + 1)).map cx) := by
          rw [marks_succ, List.map_append, List.map_append]; exact hown'
        clear hown' hgrow hown
        go_wp2
        go_roundw
        case rel => exact ⟨k + 1, v', by omega, by go_num, rfl, R, R2⟩
        case measure => simp [intOf]; omega
    · have e : k = 6 := by omega
      subst e
      clear hoc hbc hc
      go_wp2
      go_ret
      exact ⟨_, rfl, hown, hbel⟩

/-- a full list of marks, and what is left of a list, in one row -/
theorem over_step {xs : List Cw} {k : Nat} (hk : k < xs.length) : ((marks 9 k ++ xs.drop k).map cx).set k (cx (mk 9 (k : Int))) = (marks 9 (k + 1) ++ xs.drop (k + 1)).map cx := by
  have e : (marks 9 k ++ xs.drop k).set k (mk 9 (k : Int)) = marks 9 (k + 1) ++ xs.drop (k + 1) := by
    rw [List.set_append_right _ _ (by rw [marks_len]; exact Nat.le_refl _), marks_len, Nat.sub_self, List.drop_eq_getElem_cons hk, marks_succ, List.append_assoc]; rfl
  rw [← e, List.map_set]
/-- the row g alone is written -/
structure OnlyRow (g : Nat) (w w' : World) : Prop where
  os : w'.os = w.os
  tape : w'.tape = w.tape
  output : w'.output = w.output
  size : w'.heap.size = w.heap.size
  block : ∀ b, b ≠ g → w'.heap[b]? = w.heap[b]?
theorem OnlyRow.refl (g : Nat) (w : World) : OnlyRow g w w := ⟨rfl, rfl, rfl, rfl, fun _ _ => rfl⟩
theorem OnlyRow.setCell {g k : Nat} {w w' : World} (h : OnlyRow g w w') (u : Value) : OnlyRow g w (w'.setCell ⟨g, k, none⟩ u) := by
  refine ⟨h.os, h.tape, h.output, by simpa using h.size, fun b hb => ?_⟩
  rw [Below.heap_setCell _ _ _ _ (by exact hb)]
  exact h.block b hb
theorem kept_any (ao : Option Addr) (cap base : Nat) (v : Value) (xs : List Cw) (w : World) (hsz : xs.length * 16 + 96 ≤ 140737488355328) (hc : Sl w ao cap xs)
    (h : w.ownsRow base 55 1 v (xs.length + 6) ((xs ++ marks 7 6).map cx)) :
    Calls Try.prog 14 #[v, .slice ao xs.length cap] w fun e w' => e = .returned (.bool true) ∧ Below w.heap.size w w' := by
  have hl : (xs ++ marks 7 6).length = xs.length + 6 := by rw [List.length_append, marks_len]
  obtain ⟨bo, cb, rfl, _, _, hr⟩ := own_rc hl.symm h
  rw [hl]
  clear h
  go_enter Try.func14, Try.ntmps14
  go_wp2_with (first
    | (go_at_call 10; refine (lent_any ao cap xs _ hsz hc).mono ?_; rintro e w1 ⟨v1, rfl, h1, b1⟩; obtain ⟨co, cc, hv1, _, _, hr1⟩ := own_rc hl.symm h1; rw [hl] at hv1; subst hv1; clear h1)
    | (go_at_call 48; refine (ksameL_len bo co cb cc (xs.length + 6) (xs ++ marks 7 6) (xs ++ marks 7 6) _ (by omega) hl hl (hr.below b1) hr1 (fun j _ => ⟨smB_self _, smB_self _⟩)).mono ?_; rintro e w2 ⟨m, rfl, rfl⟩))
  go_ret
  exact ⟨rfl, below_drewN b1 m⟩

end Go.Proofs.Ytgpjlobclcbniaa
