/-
  A line's words read: read of package netlist, whole.
-/
import Derived.Test.YtjoncbfaajcioaaGreatDoorNpe
namespace Go.Proofs.YtjoncbfaajcioaaGreatDoor
open Go.Maps Go.RowKit Joins Deep
set_option linter.unusedVariables false
set_option maxRecDepth 100000

def wdA (ws : List ByteArray) (i : Nat) : ByteArray := ws.getD i ⟨#[]⟩
/-- what is wrong with a line's words -/
def rdE (ws : List ByteArray) : Int :=
  if ofK (byt (wdA ws 0) 0) = 0 then 8
  else if lnK (ofK (byt (wdA ws 0) 0)) = 1 then (if ws.length = 4 then paE (wdA ws 3) else 4)
  else if lnK (ofK (byt (wdA ws 0) 0)) = 2 then (if ws.length = 4 ∨ ws.length = 5 then srE ws.length (wdA ws 3) (wdA ws 4) else 4)
  else (if ws.length = 6 then paE (wdA ws 5) else 4)
/-- the element that they say -/
def rdX (ws : List ByteArray) : Elm :=
  if lnK (ofK (byt (wdA ws 0) 0)) = 1 then ⟨ofK (byt (wdA ws 0) 0), wdA ws 0, wdA ws 1, wdA ws 2, ⟨#[]⟩, ⟨#[]⟩, paW (wdA ws 3), 0⟩
  else if lnK (ofK (byt (wdA ws 0) 0)) = 2 then ⟨ofK (byt (wdA ws 0) 0), wdA ws 0, wdA ws 1, wdA ws 2, ⟨#[]⟩, ⟨#[]⟩, paW (wdA ws 3), srP ws.length (wdA ws 3) (wdA ws 4)⟩
  else ⟨ofK (byt (wdA ws 0) 0), wdA ws 0, wdA ws 1, wdA ws 2, wdA ws 3, wdA ws 4, paW (wdA ws 5), 0⟩
theorem ofK_le8 (c : Nat) : ofK c ≤ 8 := by unfold ofK; (repeat' split) <;> omega
theorem lnK_of {k : Nat} (h : k ≤ 8) (h0 : k ≠ 0) : lnK k = 1 ∨ lnK k = 2 ∨ lnK k = 3 := by
  unfold lnK; (repeat' split) <;> omega
def zElm : Elm := ⟨0, ⟨#[]⟩, ⟨#[]⟩, ⟨#[]⟩, ⟨#[]⟩, ⟨#[]⟩, 0, 0⟩
theorem wdA_get {ws : List ByteArray} {i : Nat} (h : i < ws.length) : ws[i]? = some (wdA ws i) := by
  unfold wdA; rw [List.getD_eq_getElem?_getD, List.getElem?_eq_getElem h]; rfl
theorem four_of {ws : List ByteArray} (h : 4 ≤ ws.length) : ∃ r, ws = wdA ws 0 :: wdA ws 1 :: wdA ws 2 :: wdA ws 3 :: r := by
  match ws, h with
  | a :: b :: c :: d :: r, _ => exact ⟨r, rfl⟩
theorem six_of {ws : List ByteArray} (h : 6 ≤ ws.length) : ∃ r, ws = wdA ws 0 :: wdA ws 1 :: wdA ws 2 :: wdA ws 3 :: wdA ws 4 :: wdA ws 5 :: r := by
  match ws, h with
  | a :: b :: c :: d :: e :: f :: r, _ => exact ⟨r, rfl⟩
theorem read_any (w : World) (B bk m cp : Nat) (ws : List ByteArray) (hl : ws.length = m) (hm : 0 < m) (hL : Lns w B) (hw : Wow w) (hWd : Wd w bk ws) (hs0 : 0 < (wdA ws 0).size) (hsz : ∀ i, (wdA ws i).size ≤ 65536) :
    Calls Tryz.prog 27 #[.map (some B), .slice (some ⟨bk, 0, none⟩) m cp] w fun e w' => ∃ y : Elm, e = .returned (.tuple #[elV y, .int .i64 (rdE ws)]) ∧ (rdE ws = 0 → y = rdX ws) ∧ Below w.heap.size w w' := by
  obtain ⟨k, hk⟩ : ∃ k, ofK (byt (wdA ws 0) 0) = k := ⟨_, rfl⟩
  have h0 := hWd 0 _ (wdA_get (by omega))
  have hE : rdE ws = if k = 0 then 8 else if lnK k = 1 then (if m = 4 then paE (wdA ws 3) else 4) else if lnK k = 2 then (if m = 4 ∨ m = 5 then srE m (wdA ws 3) (wdA ws 4) else 4) else (if m = 6 then paE (wdA ws 5) else 4) := by unfold rdE; rw [hk, hl]
  have hX : rdX ws = if lnK k = 1 then ⟨k, wdA ws 0, wdA ws 1, wdA ws 2, ⟨#[]⟩, ⟨#[]⟩, paW (wdA ws 3), 0⟩ else if lnK k = 2 then ⟨k, wdA ws 0, wdA ws 1, wdA ws 2, ⟨#[]⟩, ⟨#[]⟩, paW (wdA ws 3), srP m (wdA ws 3) (wdA ws 4)⟩ else ⟨k, wdA ws 0, wdA ws 1, wdA ws 2, wdA ws 3, wdA ws 4, paW (wdA ws 5), 0⟩ := by unfold rdX; rw [hk, hl]
  have hk8 : k ≤ 8 := by rw [← hk]; exact ofK_le8 _
  by_cases hk0 : k = 0
  · rw [if_pos hk0] at hE
    rw [hE]
    refine (read_0 w B bk m cp _ hs0 h0 hm (hk.trans hk0)).mono ?_
    rintro e w' ⟨rfl, hb⟩
    exact ⟨zElm, rfl, (fun h => by cases h), hb⟩
  · rw [if_neg hk0] at hE
    rcases lnK_of hk8 hk0 with hi | hi | hi
    · rw [if_pos hi] at hE hX
      by_cases h4 : m = 4
      · rw [if_pos h4] at hE
        rw [hE, hX]
        obtain ⟨r, hr⟩ := four_of (ws := ws) (by omega)
        refine (read_1 w B bk m cp _ k 0 (paE (wdA ws 3)) _ _ _ _ _ _ _ hL hs0 h0 (by omega) (by omega) hk hk8 hk0 hi (fun W hB => readTwo_w W bk m cp ws _ _ _ _ r hr (by omega) (hWd.below hB))).mono ?_
        rintro e w' ⟨rfl, hb⟩
        exact ⟨_, rfl, fun _ => rfl, hb⟩
      · rw [if_neg h4] at hE
        rw [hE]
        rcases (by omega : m < 4 ∨ 4 < m) with q | q
        · refine (read_1lo w B bk m cp _ k hL hs0 h0 hm q hk hk8 hk0 hi).mono ?_
          rintro e w' ⟨rfl, hb⟩
          exact ⟨zElm, rfl, (fun h => by cases h), hb⟩
        · refine (read_1hi w B bk m cp _ k hL hs0 h0 hm q hk hk8 hk0 hi).mono ?_
          rintro e w' ⟨rfl, hb⟩
          exact ⟨zElm, rfl, (fun h => by cases h), hb⟩
    · rw [if_neg (by omega), if_pos hi] at hE hX
      by_cases h4 : m = 4 ∨ m = 5
      · rw [if_pos h4] at hE
        rw [hE, hX]
        obtain ⟨r, hr⟩ := four_of (ws := ws) (by omega)
        refine (read_2 w B bk m cp _ k 0 (srE m (wdA ws 3) (wdA ws 4)) _ _ _ _ _ _ _ hL hs0 h0 (by omega) (by omega) hk hk8 hk0 hi (fun W hB => readSource_w W bk m cp ws _ _ _ _ (wdA ws 4) r hr (fun h5 => wdA_get (by omega)) h4 (hWd.below hB) (hw.kept hB) (hsz 4))).mono ?_
        rintro e w' ⟨rfl, hb⟩
        exact ⟨_, rfl, fun _ => rfl, hb⟩
      · rw [if_neg h4] at hE
        rw [hE]
        rcases (by omega : m < 4 ∨ 5 < m) with q | q
        · refine (read_2lo w B bk m cp _ k hL hs0 h0 hm q hk hk8 hk0 hi).mono ?_
          rintro e w' ⟨rfl, hb⟩
          exact ⟨zElm, rfl, (fun h => by cases h), hb⟩
        · refine (read_2hi w B bk m cp _ k hL hs0 h0 hm q hk hk8 hk0 hi).mono ?_
          rintro e w' ⟨rfl, hb⟩
          exact ⟨zElm, rfl, (fun h => by cases h), hb⟩
    · rw [if_neg (by omega), if_neg (by omega)] at hE hX
      by_cases h4 : m = 6
      · rw [if_pos h4] at hE
        rw [hE, hX]
        obtain ⟨r, hr⟩ := six_of (ws := ws) (by omega)
        refine (read_3 w B bk m cp _ k 0 (paE (wdA ws 5)) _ _ _ _ _ _ _ hL hs0 h0 (by omega) (by omega) hk hk8 hk0 hi (fun W hB => readFour_w W bk m cp ws _ _ _ _ _ _ r hr (by omega) (hWd.below hB))).mono ?_
        rintro e w' ⟨rfl, hb⟩
        exact ⟨_, rfl, fun _ => rfl, hb⟩
      · rw [if_neg h4] at hE
        rw [hE]
        rcases (by omega : m < 6 ∨ 6 < m) with q | q
        · refine (read_3lo w B bk m cp _ k hL hs0 h0 hm q hk hk8 hk0 hi).mono ?_
          rintro e w' ⟨rfl, hb⟩
          exact ⟨zElm, rfl, (fun h => by cases h), hb⟩
        · refine (read_3hi w B bk m cp _ k hL hs0 h0 hm q hk hk8 hk0 hi).mono ?_
          rintro e w' ⟨rfl, hb⟩
          exact ⟨zElm, rfl, (fun h => by cases h), hb⟩
end Go.Proofs.YtjoncbfaajcioaaGreatDoor
