/-
  TokensLong: the longest texts, and the walk.
-/
import Derived.Test.YtdcodajjcaipdaaDoorTfr
namespace Go.Proofs.YtdcodajjcaipdaaDoor
open RowKit Joins Deep
set_option linter.unusedVariables false

theorem rep_get (l : List UInt8) (hl : 0 < l.length) : ∀ (c i : Nat), i < c * l.length → (Lib.repeatL l c)[i]? = l[i % l.length]? := by
  intro c
  induction c with
  | zero => intro i h; omega
  | succ c ih =>
    intro i h
    show (l ++ Lib.repeatL l c)[i]? = _
    rcases Nat.lt_or_ge i l.length with q | q
    · rw [List.getElem?_append_left q, Nat.mod_eq_of_lt q]
    · rw [List.getElem?_append_right q, ih _ (by rw [Nat.add_mul] at h; omega), Nat.mod_eq_sub_mod q]
theorem bty_arr (l : List UInt8) (i : Nat) : bty ⟨l.toArray⟩ i = (l.getD i 0).toNat := by
  show (l.toArray.getD i 0).toNat = _
  rw [Array.getD_eq_getD_getElem?, List.getD_eq_getElem?_getD]; simp
def lgS : ByteArray := ⟨(Lib.repeatL [97, 98, 32, 10] 16384).toArray⟩
theorem lg_size : lgS.size = 65536 := by
  show (Lib.repeatL [97, 98, 32, 10] 16384).toArray.size = _
  rw [List.size_toArray, Lib.repeatL_length]; rfl
theorem lg_b (q j : Nat) (hj : j < 4) (hq : 4 * q + j < 65536) : bty lgS (4 * q + j) = ([97, 98, 32, 10] : List Nat).getD j 0 := by
  unfold lgS
  rw [bty_arr, List.getD_eq_getElem?_getD, rep_get _ (by decide) _ _ (by show _ < 16384 * 4; omega)]
  have e : (4 * q + j) % ([97, 98, 32, 10] : List UInt8).length = j := by show (4 * q + j) % 4 = j; omega
  rw [e]
  match j, hj with
  | 0, _ => rfl
  | 1, _ => rfl
  | 2, _ => rfl
  | 3, _ => rfl
def lgP : Nat → Nat → List (Nat × Nat)
  | q, 0 => [(4 * q, 4 * q)]
  | q, r + 1 => (4 * q, 4 * q + 3) :: lgP (q + 1) r
theorem lg_pcs : ∀ r q, 4 * (q + r) = 65536 → pcs lgS (4 * r) (4 * q) (4 * q) = lgP q r := by
  intro r
  induction r with
  | zero => intro q _; rfl
  | succ r ih =>
    intro q h
    rw [pcs_hit (m := 3) (n := 4 * (r + 1)) (i := 4 * q) ?_ ?_ (by omega)]
    · show _ = (4 * q, 4 * q + 3) :: lgP (q + 1) r
      rw [← ih (q + 1) (by omega), show 4 * (r + 1) - 3 - 1 = 4 * r by omega, show 4 * q + 3 + 1 = 4 * (q + 1) by omega]
    · intro j h1 h2
      obtain ⟨d, rfl⟩ : ∃ d, j = 4 * q + d := ⟨j - 4 * q, by omega⟩
      rw [lg_b q d (by omega) (by omega)]
      match d, (show d < 3 by omega) with
      | 0, _ => decide
      | 1, _ => decide
      | 2, _ => decide
    · rw [lg_b q 3 (by decide) (by omega)]; rfl
theorem lgP_len : ∀ r q, (lgP q r).length = r + 1 := by
  intro r
  induction r with
  | zero => intro q; rfl
  | succ r ih => intro q; show (lgP (q + 1) r).length + 1 = _; rw [ih]
theorem lgP_last : ∀ r q, (lgP q r)[r]? = some (4 * (q + r), 4 * (q + r)) := by
  intro r
  induction r with
  | zero => intro q; rfl
  | succ r ih => intro q; show (lgP (q + 1) r)[r]? = _; rw [ih, show q + 1 + r = q + (r + 1) by omega]
theorem lgP_get : ∀ r q k, k < r → (lgP q r)[k]? = some (4 * (q + k), 4 * (q + k) + 3) := by
  intro r
  induction r with
  | zero => intro q k h; omega
  | succ r ih =>
    intro q k h
    cases k with
    | zero => rfl
    | succ k => show (lgP (q + 1) r)[k]? = _; rw [ih _ _ (by omega), show q + 1 + k = q + (k + 1) by omega]
theorem lg_al : alP lgS = lgP 0 16384 := by
  unfold alP
  rw [lg_size]
  exact lg_pcs 16384 0 (by omega)
theorem lg_li : liP lgS = (lgP 0 16384).dropLast := by
  rw [← lg_al]
  apply liP_drop
  rw [lg_al, lgP_len, lg_size]
  exact lgP_last 16384 0
theorem lg_len : (liP lgS).length = 16384 := by rw [lg_li, List.length_dropLast, lgP_len]
theorem lg_er : erL 0 (liT lgS) = (0, 0) := by
  apply erL_ok
  intro t ht
  obtain ⟨k, hk⟩ := List.getElem?_of_mem ht
  have hlt : k < 16384 := by
    have := (List.getElem?_eq_some_iff.1 hk).1
    rw [liT_len, lg_len] at this; exact this
  obtain ⟨p, hp, h1, h2⟩ := liT_get (s := lgS) (n := k) (by rw [lg_len]; exact hlt)
  rw [lg_li, List.getElem?_dropLast, lgP_len, if_pos (by omega), lgP_get _ _ _ hlt] at h1
  cases h1
  rw [hk] at h2
  cases h2
  have hsz : lgS.size = 65536 := lg_size
  have e : lgS.extract (4 * (0 + k)) (4 * (0 + k) + 3) = ⟨#[97, 98, 32]⟩ := by
    apply bty_all
    · rw [ex_size (by omega)]; show 4 * (0 + k) + 3 - 4 * (0 + k) = 3; omega
    · intro i hi
      rw [ex_size (by omega)] at hi
      rw [bty_ex (by omega) (by omega), Nat.zero_add, lg_b k i (by omega) (by omega)]
      match i, (show i < 3 by omega) with
      | 0, _ => rfl
      | 1, _ => rfl
      | 2, _ => rfl
  show bdE (lgS.extract (4 * (0 + k)) (4 * (0 + k) + 3)) = 0
  rw [e]
  kernel_rfl
def zrS (n : Nat) : ByteArray := ⟨(Lib.repeatL [0] n).toArray⟩
theorem zr_size (n : Nat) : (zrS n).size = n := by
  show (Lib.repeatL [0] n).toArray.size = _
  rw [List.size_toArray, Lib.repeatL_length]; simp
theorem zr_b (n i : Nat) (h : i < n) : bty (zrS n) i = 0 := by
  unfold zrS
  rw [bty_arr, List.getD_eq_getElem?_getD, rep_get _ (by decide) _ _ (by show _ < n * 1; omega)]
  have e : i % ([0] : List UInt8).length = 0 := Nat.mod_one i
  rw [e]; rfl
theorem zr_er (n : Nat) (hn : 0 < n) : erL 0 (liT (zrS n)) = (240, 0) := by
  have h1 : alP (zrS n) = [(0, n)] := by
    unfold alP
    rw [pcs_no (fun j _ h => by rw [zr_b n j (by rw [zr_size] at h; omega)]; decide), zr_size, Nat.zero_add]
  have h2 : liP (zrS n) = [(0, n)] := by
    rw [← h1]
    exact liP_all (g := 0) (by rw [h1, zr_size]; rfl) (by rw [zr_size]; omega)
  have h3 : liT (zrS n) = [zrS n] := by
    show cuT (zrS n) (liP (zrS n)) = _
    rw [h2]
    show [(zrS n).extract 0 n] = _
    have this : (zrS n).extract 0 (zrS n).size = zrS n := by simp
    rw [zr_size] at this
    rw [this]
  have h4 : scn (zrS n) 1 = (2, []) := scn_bad (i := 0) (L := []) rfl (by rw [zr_b n 0 hn]; decide) (by rw [zr_b n 0 hn]; decide) (by rw [zr_b n 0 hn]; decide)
  have h5 : scn (zrS n) (zrS n).size = (2, []) := by rw [scn_stays (i := 1) (by rw [h4]; simp) _ (by rw [zr_size]; omega), h4]
  have h6 : bdE (zrS n) = 240 := bd_2 (by rw [h5])
  rw [h3]
  show (if bdE (zrS n) ≠ 0 then (bdE (zrS n), 0) else _) = _
  rw [h6]; rfl
theorem lg_sp : (lgS ++ ⟨#[32]⟩).size = 65537 := by rw [ByteArray.size_append, lg_size]; rfl
theorem rept_any (s : ByteArray) (c : Nat) (w : World) (hc : c ≤ 70000) (hs : s.size ≤ 100) :
    Calls Tryd.prog 24 #[.string s, .int .i64 c] w fun e w' => e = .returned (.string ⟨(Lib.repeatL s.data.toList c).toArray⟩) ∧ Below w.heap.size w w' :=
  Any.strings_Repeat sh105 shX s c w (by omega) (by have := Nat.mul_le_mul hs hc; omega)

theorem kp0 {w w' : World} {k : Nat} {c : Obj} (h : w.heap[k]? = some c) (hb : Below w.heap.size w w') : w'.heap[k]? = some c := by
  have hlt : k < w.heap.size := by
    rcases Nat.lt_or_ge k w.heap.size with q | q
    · exact q
    · rw [Array.getElem?_eq_none q] at h; cases h
  exact (hb.block k hlt).trans h
theorem kpa {w : World} {k : Nat} {c : Obj} (h : w.heap[k]? = some c) (o : Obj) : (w.alloc o).heap[k]? = some c := kp0 h ((Below.refl _ w).alloc (Nat.le_refl _) o)
theorem bl_al {w w' : World} {o : Obj} {n : Nat} {W : World} (h0 : Below n W w) (hn : n ≤ w.heap.size) (hb : Below (w.alloc o).heap.size (w.alloc o) w') : Below n W w' := (h0.alloc hn o).trans (hb.mono (by simp; omega))

set_option maxHeartbeats 4000000 in
set_option maxRecDepth 100000 in
theorem long_walk (w : World) (hm : Mln w) : Calls Tryd.prog 7 #[] w fun e w' => e = .returned (.bool true) ∧ Below w.heap.size w w' := by
  have HM : Hid (Mln w) := hm
  have HR1 : Hid (∀ w : World, Calls Tryd.prog 24 #[.string ⟨#[97, 98, 32, 10]⟩, .int .i64 16384] w fun e w' => e = .returned (.string lgS) ∧ Below w.heap.size w w') := fun w => rept_any ⟨#[97, 98, 32, 10]⟩ 16384 w (by decide) (by decide)
  have HR2 : Hid (∀ w : World, Calls Tryd.prog 24 #[.string ⟨#[0]⟩, .int .i64 65537] w fun e w' => e = .returned (.string (zrS 65537)) ∧ Below w.heap.size w w') := fun w => rept_any ⟨#[0]⟩ 65537 w (by decide) (by decide)
  have HR3 : Hid (∀ w : World, Calls Tryd.prog 24 #[.string ⟨#[0]⟩, .int .i64 65536] w fun e w' => e = .returned (.string (zrS 65536)) ∧ Below w.heap.size w w') := fun w => rept_any ⟨#[0]⟩ 65536 w (by decide) (by decide)
  have HC1 : Hid (∀ w : World, Mln w → Calls Tryd.prog 9 #[.string lgS] w fun e w' => ∃ A c, e = .returned (.tuple #[.slice A 16384 c, fltV 0 0]) ∧ Below w.heap.size w w') := fun w hm => by
    refine (cut_ok lgS w (by rw [lg_size]; decide) hm lg_er).mono ?_
    rintro e w' ⟨v, h1, ⟨_, A, c, h2, _⟩, h3⟩
    rw [tkL_len, liT_len, lg_len] at h2
    subst h2
    exact ⟨A, c, h1, h3⟩
  have HC2 : Hid (∀ w : World, Calls Tryd.prog 9 #[.string (lgS ++ ⟨#[32]⟩)] w fun e w' => e = .returned (.tuple #[.slice none 0 0, fltV 3 (-1)]) ∧ Below w.heap.size w w') := fun w => cut_long _ w (by rw [lg_sp]; decide)
  have HC3 : Hid (∀ w : World, Calls Tryd.prog 9 #[.string (zrS 65537)] w fun e w' => e = .returned (.tuple #[.slice none 0 0, fltV 3 (-1)]) ∧ Below w.heap.size w w') := fun w => cut_long _ w (by rw [zr_size]; decide)
  have HC4 : Hid (∀ w : World, Mln w → Calls Tryd.prog 9 #[.string (zrS 65536)] w fun e w' => e = .returned (.tuple #[.slice none 0 0, fltV 240 0]) ∧ Below w.heap.size w w') := fun w hm => cut_bad _ w (by rw [zr_size]; decide) hm (zr_er 65536 (by decide)) (by decide)
  clear hm
  obtain ⟨S2, hS2⟩ : ∃ S2, lgS ++ (⟨#[32]⟩ : ByteArray) = S2 := ⟨_, rfl⟩
  rw [hS2] at HC2
  have hS1 := lg_size
  generalize lgS = S1 at HR1 HC1 hS2 hS1
  generalize zrS 65537 = S3 at HR2 HC3
  generalize zrS 65536 = S4 at HR3 HC4
  go_enter Tryd.func7, Tryd.ntmps7
  go_wp2_with (first
    | (go_at_call 24; (with_reducible refine (HR1.out _).mono ?_); rintro e w1 ⟨rfl, hb⟩; (have HB1 : Hid (Below w.heap.size w w1) := hb); clear hb)
    | (go_at_call 9; (with_reducible refine (HC1.out w1 (HM.out.kept HB1.out)).mono ?_); rintro e w2 ⟨A, c, rfl, hb⟩; (have HB2 : Hid (Below w.heap.size w w2) := HB1.out.trans (hb.mono HB1.out.size)); clear hb)
    | (go_at_call 9; (with_reducible refine (HC2.out _).mono ?_); rintro e w3 ⟨rfl, hb⟩; (have HB3 : Hid (Below w.heap.size w w3) := bl_al HB2.out HB2.out.size hb); (have KA : Hid (w3.heap[w2.heap.size]? = some (.cells #[.int .i64 0, .int .i64 0] 25 (0, 0))) := kp0 (heap_alloc_new _ _) hb); clear hb)
    | (go_at_call 24; (with_reducible refine (HR2.out _).mono ?_); rintro e w4 ⟨rfl, hb⟩; (have HB4 : Hid (Below w.heap.size w w4) := bl_al HB3.out HB3.out.size hb); (have KB : Hid (w4.heap[w2.heap.size]? = some (.cells #[.int .i64 0, .int .i64 0] 25 (0, 0)) ∧ w4.heap[w3.heap.size]? = some (.cells #[.int .i64 3, .int .i64 (-1)] 25 (0, 0))) := ⟨kp0 (kpa KA.out _) hb, kp0 (heap_alloc_new _ _) hb⟩); clear hb)
    | (go_at_call 9; (with_reducible refine (HC3.out _).mono ?_); rintro e w5 ⟨rfl, hb⟩; (have HB5 : Hid (Below w.heap.size w w5) := HB4.out.trans (hb.mono HB4.out.size)); (have KC : Hid (w5.heap[w2.heap.size]? = some (.cells #[.int .i64 0, .int .i64 0] 25 (0, 0)) ∧ w5.heap[w3.heap.size]? = some (.cells #[.int .i64 3, .int .i64 (-1)] 25 (0, 0))) := ⟨kp0 KB.out.1 hb, kp0 KB.out.2 hb⟩); clear hb)
    | (go_at_call 24; (with_reducible refine (HR3.out _).mono ?_); rintro e w6 ⟨rfl, hb⟩; (have HB6 : Hid (Below w.heap.size w w6) := bl_al HB5.out HB5.out.size hb); (have KD : Hid (w6.heap[w2.heap.size]? = some (.cells #[.int .i64 0, .int .i64 0] 25 (0, 0)) ∧ w6.heap[w3.heap.size]? = some (.cells #[.int .i64 3, .int .i64 (-1)] 25 (0, 0)) ∧ w6.heap[w5.heap.size]? = some (.cells #[.int .i64 3, .int .i64 (-1)] 25 (0, 0))) := ⟨kp0 (kpa KC.out.1 _) hb, kp0 (kpa KC.out.2 _) hb, kp0 (heap_alloc_new _ _) hb⟩); clear hb)
    | (go_at_call 9; (with_reducible refine (HC4.out _ (HM.out.kept HB6.out)).mono ?_); rintro e w7 ⟨rfl, hb⟩; (have HB7 : Hid (Below w.heap.size w w7) := HB6.out.trans (hb.mono HB6.out.size)); (have KE : Hid (w7.heap[w2.heap.size]? = some (.cells #[.int .i64 0, .int .i64 0] 25 (0, 0)) ∧ w7.heap[w3.heap.size]? = some (.cells #[.int .i64 3, .int .i64 (-1)] 25 (0, 0)) ∧ w7.heap[w5.heap.size]? = some (.cells #[.int .i64 3, .int .i64 (-1)] 25 (0, 0))) := ⟨kp0 KD.out.1 hb, kp0 KD.out.2.1 hb, kp0 KD.out.2.2 hb⟩); clear hb)
    | (go_at_call 12; (with_reducible refine (lives_any _ (HM.out.kept ((HB7.out.alloc HB7.out.size _).alloc (by have := HB7.out.size; simp; omega) _))).mono ?_); rintro e w8 ⟨rfl, hb⟩; (have HB8 : Hid (Below w.heap.size w w8) := ((HB7.out.alloc HB7.out.size _).alloc (by have := HB7.out.size; simp; omega) _).trans (hb.mono (by have := HB7.out.size; simp; omega))); (obtain ⟨a0, a1, _, _⟩ := two_c (kp0 (kpa (kpa KE.out.1 _) _) hb)); (obtain ⟨b0, b1, _, _⟩ := two_c (kp0 (kpa (kpa KE.out.2.1 _) _) hb)); (obtain ⟨c0, c1, _, _⟩ := two_c (kp0 (kpa (kpa KE.out.2.2 _) _) hb)); (obtain ⟨d0, d1, _, _⟩ := two_c (kp0 (kpa (heap_alloc_new _ _) _) hb)); (obtain ⟨e0, e1, _, _⟩ := two_c (kp0 (heap_alloc_new _ _) hb)); (simp only [World.alloc, Array.size_push] at e0 e1); clear hb))
  go_ret
  exact ⟨rfl, HB8.out⟩
end Go.Proofs.YtdcodajjcaipdaaDoor
