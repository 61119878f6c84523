/-
  TokensCuts: the walk.
-/
import Derived.Test.YtdcodajjcaipdaaDoorTfr
import Derived.Test.YtdcodajjcaipdaaDoorTkg
import Derived.Test.YtdcodajjcaipdaaDoorTkk
namespace Go.Proofs.YtdcodajjcaipdaaDoor
open RowKit Joins Deep
set_option linter.unusedVariables false

set_option maxHeartbeats 4000000 in
set_option maxRecDepth 100000 in
theorem cuts_nil (w : World) (hm : Mln w) (s : ByteArray) (x y : Int)
    (hc : ∀ w : World, Mln w → Calls Tryd.prog 9 #[.string s] w fun e w' => e = .returned (.tuple #[.slice none 0 0, fltV x y]) ∧ Below w.heap.size w w')
    (hr : ∀ w : World, Calls Tryd.prog 10 #[.string s] w fun e w' => e = .returned (.tuple #[.slice none 0 0, fltV x y]) ∧ Below w.heap.size w w') :
    Calls Tryd.prog 3 #[.string s] w fun e w' => e = .returned (.bool true) ∧ Below w.heap.size w w' := by
  have HC : Hid (∀ w : World, Mln w → Calls Tryd.prog 9 #[.string s] w fun e w' => e = .returned (.tuple #[.slice none 0 0, fltV x y]) ∧ Below w.heap.size w w') := hc
  have HR : Hid (∀ w : World, Calls Tryd.prog 10 #[.string s] w fun e w' => e = .returned (.tuple #[.slice none 0 0, fltV x y]) ∧ Below w.heap.size w w') := hr
  clear hc hr
  have HM : Hid (Mln w) := hm
  clear hm
  have bx : (x == x) = true := by simp
  have by1 : (y == y) = true := by simp
  go_enter Tryd.func3, Tryd.ntmps3
  go_wp2_with (first
    | (go_at_call 9; (with_reducible refine (HC.out w HM.out).mono ?_); rintro e w1 ⟨rfl, hb⟩; (have HB1 : Hid (Below w.heap.size w w1) := hb); clear hb)
    | (go_at_call 9; (with_reducible refine (HC.out _ (HM.out.kept (HB1.out.alloc HB1.out.size _))).mono ?_); rintro e w2 ⟨rfl, hb⟩; (have HB2 : Hid (Below w.heap.size w w2) := (HB1.out.alloc HB1.out.size _).trans (hb.mono (by have := HB1.out.size; simp; omega))); (have F1 : Hid (w2.heap[w1.heap.size]? = some (.cells #[.int .i64 x, .int .i64 y] 25 (0, 0))) := (hb.block w1.heap.size (by simp)).trans (heap_alloc_new _ _)); (have hsz2 : w1.heap.size < w2.heap.size := (by have := hb.size; simp at this; omega)); clear hb)
    | (go_at_call 10; (with_reducible refine (HR.out _).mono ?_); rintro e w3 ⟨rfl, hb⟩; (have HB3 : Hid (Below w.heap.size w w3) := (HB2.out.alloc HB2.out.size _).trans (hb.mono (by have := HB2.out.size; simp; omega))); (obtain ⟨g10, g11, _, _⟩ := two_c ((hb.block w1.heap.size (by simp; omega)).trans ((blk_alloc_lt _ _ _ hsz2).trans F1.out))); (obtain ⟨g20, g21, _, _⟩ := two_c ((hb.block w2.heap.size (by simp)).trans (heap_alloc_new _ _))); (have hsz3 : w2.heap.size < w3.heap.size := (by have := hb.size; simp at this; omega)); (have hsz13 : w1.heap.size < w3.heap.size := (by omega)); clear hb)
    | (go_at_call 11; (with_reducible refine (same_any _ _ _ [] [] (RdL.none _) (RdL.none _)).mono ?_); rintro e w4 ⟨rfl, q4, hw4⟩; (rw [decide_eq_true (rfl : ([] : List (List Tok)) = [])]); (have HB4 : Hid (Below w.heap.size w w4) := (by rw [hw4]; exact below_dn (HB3.out.alloc HB3.out.size _) q4)); clear hw4)
    | (go_at_call 11; (with_reducible refine (same_any _ _ _ [] [] (RdL.none _) (RdL.none _)).mono ?_); rintro e w5 ⟨rfl, q4, hw4⟩; (rw [decide_eq_true (rfl : ([] : List (List Tok)) = [])]); (have HB5 : Hid (Below w.heap.size w w5) := (by rw [hw4]; exact below_dn HB4.out q4)); clear hw4)
    | (go_at_call 12; (with_reducible refine (lives_any _ (HM.out.kept HB5.out)).mono ?_); rintro e w6 ⟨rfl, hb⟩; (have HB6 : Hid (Below w.heap.size w w6) := HB5.out.trans (hb.mono HB5.out.size)); clear hb))
  go_loopw [9] (fun iv wr => iv = .int .i64 0 ∧ Hid (Below w.heap.size w wr)) (fun _ _ => 0)
  case atStart => exact ⟨rfl, HB6.out⟩
  case round =>
    obtain ⟨rfl, HW⟩ := hrel
    go_wp2_with fail
    go_loopw [11] (fun iv wr => iv = .int .i64 0 ∧ Hid (Below w.heap.size w wr)) (fun _ _ => 0)
    case atStart => exact ⟨rfl, HW.out⟩
    case round =>
      obtain ⟨rfl, HW2⟩ := hrel
      go_wp2_with (first
        | (go_at_call 11; (with_reducible refine (same_any _ _ _ [] [] (RdL.none _) (RdL.none _)).mono ?_); rintro e w6 ⟨rfl, q6, hw6⟩; (subst w6); (rw [decide_eq_true (rfl : ([] : List (List Tok)) = [])])))
      go_ret
      exact ⟨rfl, below_dn HW2.out _⟩

theorem erL_zero {l : List ByteArray} : ∀ {n : Nat}, (erL n l).1 = 0 → erL n l = (0, 0) := by
  induction l with
  | nil => intro n _; rfl
  | cons t r ih =>
    intro n h
    have e : erL n (t :: r) = if bdE t ≠ 0 then (bdE t, n) else erL (n + 1) r := rfl
    rw [e] at h ⊢
    by_cases q : bdE t ≠ 0
    · rw [if_pos q] at h; exact absurd h q
    · rw [if_neg q] at h ⊢; exact ih h
theorem cut_fam (s : ByteArray) (w : World) (hs : s.size ≤ 65536) (hm : Mln w) (he : erL 0 (liT s) = (0, 0)) :
    Calls Tryd.prog 9 #[.string s] w fun e w' => e = .returned (.tuple #[.slice (some ⟨w.heap.size + 2, 0, none⟩) (liP s).length (liP s).length, fltV 0 0]) ∧ Below w.heap.size w w' ∧
      ∃ vs ts, Fam w' (w.heap.size + 3) (w.heap.size + 2) (liP s).length vs ts ∧ ∀ j u, (liT s)[j]? = some u → ts j = tkl j u := by
  obtain ⟨m, hm⟩ := hm
  refine (cut_any s m w hs hm).mono ?_
  rintro e w' ⟨hb, v, h1, h2⟩
  rw [he] at h1 h2
  rcases h2 with ⟨_, _, rfl, hf⟩ | ⟨h, _⟩
  · exact ⟨h1, hb, hf⟩
  · exact absurd rfl h
theorem rcut_ok (s : ByteArray) (w : World) (hs : s.size ≤ 65536) (he : erL 0 (liT s) = (0, 0)) :
    Calls Tryd.prog 10 #[.string s] w fun e w' => ∃ v, e = .returned (.tuple #[v, fltV 0 0]) ∧ Below w.heap.size w w' ∧ RdL w' v (tkL 0 (liT s)) ∧ Abv w.heap.size w' v (tkL 0 (liT s)).length := by
  refine (rcut_any s w hs).mono ?_
  rintro e w' ⟨hb, v, h1, h2⟩
  rw [he] at h1 h2
  rcases h2 with ⟨_, _, h3, h4⟩ | ⟨h, _⟩
  · exact ⟨v, h1, hb, h3, h4⟩
  · exact absurd rfl h
/-- what is known of both lists b and want while a is written over -/
structure Oth2 (mid : Nat) (w6 : World) (b v : Value) (ls : List (List Tok)) : Prop where
  rb : RdL w6 b ls
  ab : Abv mid w6 b ls.length
  rv : RdL w6 v ls
  av : Abv mid w6 v ls.length

set_option maxHeartbeats 4000000 in
set_option maxRecDepth 100000 in
/-- from the first loop on -/
theorem cuts_main (w : World) (hm : Mln w) (s : ByteArray) (hs : s.size ≤ 65536) (he : erL 0 (liT s) = (0, 0)) :
    Calls Tryd.prog 3 #[.string s] w fun e w' => e = .returned (.bool true) ∧ Below w.heap.size w w' := by
  have hlen := liP_len s
  have hll : (tkL 0 (liT s)).length = (liP s).length := by rw [tkL_len, liT_len]
  have HC : Hid (∀ w : World, Mln w → Calls Tryd.prog 9 #[.string s] w fun e w' => e = .returned (.tuple #[.slice (some ⟨w.heap.size + 2, 0, none⟩) (liP s).length (liP s).length, fltV 0 0]) ∧ Below w.heap.size w w' ∧
      ∃ vs ts, Fam w' (w.heap.size + 3) (w.heap.size + 2) (liP s).length vs ts ∧ (∀ j, j < (liP s).length → (ts j).length ≤ 65536) ∧ RdL w' (.slice (some ⟨w.heap.size + 2, 0, none⟩) (liP s).length (liP s).length) (tkL 0 (liT s))) := by
    intro w hm
    refine (cut_fam s w hs hm he).mono ?_
    rintro e w' ⟨h1, h2, vs, ts, h3, h4⟩
    refine ⟨h1, h2, vs, ts, h3, fun j hj => ?_, RdL.fam hs h3 h4⟩
    obtain ⟨p, hp, _, ht⟩ := liT_get hj
    rw [h4 j _ ht]
    have := tkl_len j (s.extract p.1 p.2)
    have := liT_size ht
    omega
  have HR : Hid (∀ w : World, Calls Tryd.prog 10 #[.string s] w fun e w' => ∃ v, e = .returned (.tuple #[v, fltV 0 0]) ∧ Below w.heap.size w w' ∧ RdL w' v (tkL 0 (liT s)) ∧ Abv w.heap.size w' v (tkL 0 (liT s)).length) := fun w => rcut_ok s w hs he
  have HM : Hid (Mln w) := hm
  clear hm he
  obtain ⟨N, hN⟩ : ∃ N, (liP s).length = N := ⟨_, rfl⟩
  rw [hN] at HC hlen hll
  clear hN
  generalize tkL 0 (liT s) = LS at HC HR hll
  have HLS : Hid (LS.length = N) := hll
  clear hll
  go_enter Tryd.func3, Tryd.ntmps3
  go_wp2_with (first
    | (go_at_call 9; (with_reducible refine (HC.out w HM.out).mono ?_); rintro e w1 ⟨rfl, hb, vs, ts, hf, hts, hra⟩; (have HB1 : Hid (Below w.heap.size w w1) := hb); (have HF1 : Hid (Fam w1 (w.heap.size + 3) (w.heap.size + 2) N vs ts ∧ (∀ j, j < N → (ts j).length ≤ 65536) ∧ RdL w1 (.slice (some ⟨w.heap.size + 2, 0, none⟩) N N) LS) := ⟨hf, hts, hra⟩); clear hb hf hts hra)
    | (go_at_call 9; (with_reducible refine (HC.out _ (HM.out.kept (HB1.out.alloc HB1.out.size _))).mono ?_); rintro e w2 ⟨rfl, hb, vs2, ts2, hf, _, hrb⟩; (have HB2 : Hid (Below w1.heap.size w1 w2) := ((Below.refl _ w1).alloc (Nat.le_refl _) _).trans (hb.mono (by simp))); (have F1 : Hid (w2.heap[w1.heap.size]? = some (.cells #[.int .i64 0, .int .i64 0] 25 (0, 0))) := (hb.block w1.heap.size (by simp)).trans (heap_alloc_new _ _)); (have hsz2 : w1.heap.size < w2.heap.size := (by have := hb.size; simp at this; omega)); (have hab := Abv.fam hf (lo := w1.heap.size) (by simp; omega) (by simp; omega)); (simp only [World.alloc, Array.size_push] at hrb hab ⊢); (generalize (Value.slice (some ⟨w1.heap.size + 1 + 2, 0, none⟩) N N) = bv at hrb hab ⊢); (have HBV : Hid (RdL w2 bv LS ∧ Abv w1.heap.size w2 bv LS.length) := ⟨hrb, (by rw [HLS.out]; exact hab)⟩); clear hb hf hrb hab)
    | (go_at_call 10; (with_reducible refine (HR.out _).mono ?_); rintro e w3 ⟨v, rfl, hb, hrv, hav⟩; (have HB3 : Hid (Below w2.heap.size w2 w3) := ((Below.refl _ w2).alloc (Nat.le_refl _) _).trans (hb.mono (by simp))); (obtain ⟨g10, g11, _, _⟩ := two_c ((hb.block w1.heap.size (by simp; omega)).trans ((blk_alloc_lt _ _ _ hsz2).trans F1.out))); (obtain ⟨g20, g21, _, _⟩ := two_c ((hb.block w2.heap.size (by simp)).trans (heap_alloc_new _ _))); (have hsz3 : w2.heap.size < w3.heap.size := (by have := hb.size; simp at this; omega)); (have hsz13 : w1.heap.size < w3.heap.size := (by omega)); (have HV : Hid (RdL w3 v LS ∧ Abv w1.heap.size w3 v LS.length) := ⟨hrv, hav.mono (by simp; omega)⟩); clear hb hrv hav)
    | (go_at_call 11; (with_reducible refine (same_any _ _ _ LS LS (((HF1.out.2.2.kept HB2.out).kept HB3.out).kept ((Below.refl _ w3).alloc (Nat.le_refl _) _)) (HV.out.1.kept ((Below.refl _ w3).alloc (Nat.le_refl _) _))).mono ?_); rintro e w4 ⟨rfl, q4, hw4⟩; (rw [decide_eq_true (rfl : LS = LS)]); (have HB4 : Hid (Below w3.heap.size w3 w4) := (by rw [hw4]; exact below_dn ((Below.refl _ w3).alloc (Nat.le_refl _) _) q4)); clear hw4)
    | (go_at_call 11; (with_reducible refine (same_any _ _ _ LS LS ((HBV.out.1.kept HB3.out).kept HB4.out) (HV.out.1.kept HB4.out)).mono ?_); rintro e w5 ⟨rfl, q5, hw5⟩; (rw [decide_eq_true (rfl : LS = LS)]); (have HB5 : Hid (Below w3.heap.size w3 w5) := (by rw [hw5]; exact below_dn HB4.out q5)); clear hw5)
    | (go_at_call 12; (with_reducible refine (lives_any _ ((HM.out.kept (HB1.out.trans ((HB2.out.trans (HB3.out.mono HB2.out.size)).mono HB1.out.size))).kept HB5.out)).mono ?_); rintro e w6 ⟨rfl, hb⟩; (have HB6 : Hid (Below w3.heap.size w3 w6) := HB5.out.trans (hb.mono HB5.out.size)); clear hb))
  have HO : Hid (Oth2 w1.heap.size w6 bv v LS) := ⟨(HBV.out.1.kept HB3.out).kept HB6.out, ((HBV.out.2.kept HBV.out.1 HB3.out).kept (HBV.out.1.kept HB3.out) HB6.out), HV.out.1.kept HB6.out, HV.out.2.kept HV.out.1 HB6.out⟩
  have HB16 : Hid (Below w1.heap.size w1 w6) := (HB2.out.trans (HB3.out.mono HB2.out.size)).trans (HB6.out.mono (by have := HB2.out.size; have := HB3.out.size; omega))
  have HK : Hid (Mrk w.heap.size w1.heap.size w6 w6 (w.heap.size + 3) (w.heap.size + 2) N vs ts) :=
    ⟨HF1.out.1.kept HB16.out, fun j g hj hg => .inl ((HF1.out.1.own j hj).lt g hg).2, Below.refl _ _, fun _ _ _ => rfl, ⟨by omega, by omega, HF1.out.1.lt⟩⟩
  have HW6 : Hid (Below w.heap.size w w6) := HB1.out.trans (HB16.out.mono HB1.out.size)
  have HTS : Hid (∀ j, j < N → (ts j).length ≤ 65536) := HF1.out.2.1
  clear HBV HB3 HB2 HB6 HV HF1 HB16 HB5 HB4 HB1 HC HR HM F1 g10 g11 g20 g21
  clear hsz2 hsz3 hsz13
  generalize w1.heap.size = mid at HO HK
  obtain ⟨i0, hi0, hz0, hz1, hz2⟩ := info_parts Tryd.infoTok
  go_loopw [9] (fun iv wr => ∃ (i : Nat) (us : Nat → Value) (xs : Nat → List Tok), i ≤ N ∧ iv = .int .i64 i ∧ Hid (Mrk w.heap.size mid w6 wr (w.heap.size + 3) (w.heap.size + 2) N us xs ∧ (∀ j, j < i → xs j = mkd j (ts j).length (ts j) ++ [mrT j]) ∧ ∀ j, i ≤ j → xs j = ts j)) (fun iv _ => N - (intOf iv).toNat)
  case atStart => exact ⟨0, vs, ts, Nat.zero_le _, rfl, HK.out, fun j hj => absurd hj (by omega), fun _ _ => rfl⟩
  case round =>
    clear HK
    obtain ⟨i, us, xs, hle, rfl, HI⟩ := hrel
    by_cases hp : i < N
    · have hpi : (i : Int) < (N : Int) := by omega
      go_wp2_with fail
      go_loopw [10] (fun iv wr => ∃ (k : Nat) (xs : Nat → List Tok), k ≤ (ts i).length ∧ iv = .int .i64 k ∧ Hid (Mrk w.heap.size mid w6 wr (w.heap.size + 3) (w.heap.size + 2) N us xs ∧ (∀ j, j < i → xs j = mkd j (ts j).length (ts j) ++ [mrT j]) ∧ (∀ j, i < j → xs j = ts j) ∧ xs i = mkd i k (ts i))) (fun iv _ => (ts i).length - (intOf iv).toNat)
      case atStart => exact ⟨0, xs, Nat.zero_le _, rfl, HI.out.1, HI.out.2.1, fun j hj => HI.out.2.2 j (by omega), by rw [mkd_zero]; exact HI.out.2.2 i (by omega)⟩
      case round =>
        clear HI
        obtain ⟨k, ys, hkl, rfl, HI⟩ := hrel
        have hil := HTS.out i hp
        have hownA := HI.out.1.fam.own i hp
        rw [HI.out.2.2.2, mkd_len] at hownA
        have hcell : wr.cell? ⟨w.heap.size + 2, i, none⟩ = some (us i) := HI.out.1.fam.row.cell hp
        have hfz : wr.frozen? ⟨w.heap.size + 2, i, none⟩ = false := HI.out.1.fam.row.frozen i
        obtain ⟨A, cap, hus⟩ := own_sl hownA
        rw [hus] at hcell
        obtain ⟨n, hn⟩ : ∃ n, (ts i).length = n := ⟨_, rfl⟩
        rw [hn] at hkl hcell hil hownA hus
        have HN : Hid ((ts i).length = n ∧ us i = .slice A n cap) := ⟨hn, hus⟩
        have HOW : Hid (wr.ownsRow (w.heap.size + 3) 32 3 (us i) n (tcs (mkd i k (ts i)))) := hownA
        clear hn hus hownA
        by_cases hp2 : k < n
        · have hpk : (k : Int) < (n : Int) := by omega
          obtain ⟨g, rfl⟩ : ∃ g, A = some ⟨g, 0, none⟩ := by
            obtain ⟨g, c, e, _⟩ := HOW.out.form (by omega)
            rw [HN.out.2] at e
            simp only [Value.slice.injEq] at e
            exact ⟨g, e.1⟩
          have hOW2 : wr.ownsRow (w.heap.size + 3) 32 3 (.slice (some ⟨g, 0, none⟩) n cap) (mkd i k (ts i)).length (tcs (mkd i k (ts i))) := by
            have := HOW.out
            rw [HN.out.2] at this
            rw [mkd_len, HN.out.1]; exact this
          have hmn : (mkd i k (ts i)).length = n := by rw [mkd_len]; exact HN.out.1
          obtain ⟨⟨p0, p1, p2⟩, hpp⟩ : ∃ p, (mkd i k (ts i))[k]? = some p := ⟨_, List.getElem?_eq_getElem (by omega)⟩
          obtain ⟨k0, k1, k2⟩ := tcs_get hpp
          have hOW3 := hOW2
          rw [hmn] at hOW3
          rw [← hOW3.cellAt _ (by omega)] at k0 k1 k2
          have z0 := hOW3.frozenAt (k * 3)
          have z1 := hOW3.frozenAt (k * 3 + 1)
          have z2 := hOW3.frozenAt (k * 3 + 2)
          obtain ⟨w1o, w1g⟩ := own_write hOW2 hmn hp2 (mkT i k)
          have HST : Hid (Mrk w.heap.size mid w6 (((wr.setCell ⟨g, k * 3, none⟩ (.string ⟨#[109, 97, 114, 107]⟩)).setCell ⟨g, k * 3 + 1, none⟩ (.int .i64 (-(i : Int)))).setCell ⟨g, k * 3 + 2, none⟩ (.int .i64 (-(k : Int)))) (w.heap.size + 3) (w.heap.size + 2) N us (fun j => if j = i then (mkd i k (ts i)).set k (mkT i k) else ys j)) :=
            HI.out.1.step hp (by rw [HN.out.2]; exact w1g) (by rw [HN.out.2]; exact w1o)
          have HIJ : Hid ((∀ j, j < i → ys j = mkd j (ts j).length (ts j) ++ [mrT j]) ∧ (∀ j, i < j → ys j = ts j)) := ⟨HI.out.2.1, HI.out.2.2.1⟩
          clear w1o w1g hOW2 hOW3 hpp hmn HI HOW
          have ng1 : IntKind.i64.wrap (-(i : Int)) = -(i : Int) := by rw [IntKind.wrap_i64]; omega
          have ng2 : IntKind.i64.wrap (-(k : Int)) = -(k : Int) := by rw [IntKind.wrap_i64]; omega
          go_wp2_with fail
          go_roundw
          case rel =>
            refine ⟨k + 1, _, by have := HN.out.1; omega, by go_num, HST.out, ?_, ?_, ?_⟩
            · intro j hj; simp only [show j ≠ i by omega, if_false]; exact HIJ.out.1 j hj
            · intro j hj; simp only [show j ≠ i by omega, if_false]; exact HIJ.out.2 j hj
            · simp only [if_true]; exact mkd_set (by have := HN.out.1; omega)
          case measure => simp [intOf]; have := HN.out.1; omega
        · have e : k = n := by omega
          subst e
          have hpk : ¬ (k : Int) < (k : Int) := by omega
          have HOW2 : Hid (wr.ownsRow (w.heap.size + 3) 32 3 (.slice A k cap) k (tcs (mkd i k (ts i)))) := by
            have := HOW.out
            rw [HN.out.2] at this; exact this
          clear HOW
          go_wp2_with (at_builtin; refine wpList_append_lies _ (by rfl) _ _ 30 (by rfl) (w.heap.size + 3) 32 i0 (.agg #[.string ByteArray.empty, .int .i64 0, .int .i64 0]) 3 32 Tryd.underlying30 hi0 hz0 hz1 hz2 (by rfl) (by decide) _ _ _ (by rfl) (HOW2.out.alloc _) ⟨_, 0, none⟩ 1 1 [.string ⟨#[109, 111, 114, 101]⟩, .int .i64 i, .int .i64 0] (by rfl) (by rfl) ?c1 ?c2 (by decide) ?c3 ?c4 ?c5 _ rfl ?next)
          try (case c1 => exact World.news_of_block (fr := (0, 0)) (t := 32) (cs := #[.string ⟨#[109, 111, 114, 101]⟩, .int .i64 i, .int .i64 0]) (heap_alloc_new _ _))
          case c2 => first | exact ⟨rfl, rfl, rfl⟩ | (intro u hu; simp at hu; rcases hu with rfl | rfl | rfl <;> rfl)
          case c3 => unfold maxLen; omega
          case c4 => omega
          case c5 => have := HI.out.1.fam.lt; simp; omega
          case next =>
            intro g2 cap2 w2 hown2 hgrow hat hlt
            have hgr : wr.grownBy w2 (us i).ownBlock := by rw [HN.out.2]; exact grown_al2 hgrow
            have hcc := HI.out.1.fam.far i hp
            have y1 : w2.cell? ⟨w.heap.size + 2, i, none⟩ = some (.slice A k cap) := (hgr.cell_far _ HI.out.1.fam.lt (fun e => hcc e.symm)).trans hcell
            have y2 : w2.frozen? ⟨w.heap.size + 2, i, none⟩ = false := (hgr.frozen_far _ HI.out.1.fam.lt (fun e => hcc e.symm)).trans hfz
            have HST : Hid (Mrk w.heap.size mid w6 (w2.setCell ⟨w.heap.size + 2, i, none⟩ (.slice (some ⟨g2, 0, none⟩) (k + 1) cap2)) (w.heap.size + 3) (w.heap.size + 2) N (fun j => if j = i then .slice (some ⟨g2, 0, none⟩) (k + 1) cap2 else us j) (fun j => if j = i then mkd i k (ts i) ++ [mrT i] else ys j)) := by
              refine HI.out.1.push hp hgr ?_ ?_
              · rw [List.length_append, mkd_len, HN.out.1, tcs_app]; exact hown2
              · rw [HN.out.2]; exact ob_or hat (by simp)
            clear hown2 hgrow hat hlt hgr hcc
            go_wp2_with fail
            go_roundw
            case rel =>
              refine ⟨i + 1, _, _, by omega, by go_num, HST.out, ?_, ?_⟩
              · intro j hj
                rcases Nat.lt_succ_iff_lt_or_eq.1 hj with q | rfl
                · simp only [show j ≠ i by omega, if_false]; exact HI.out.2.1 j q
                · simp only [if_true]; rw [HN.out.1]
              · intro j hj; simp only [show j ≠ i by omega, if_false]; exact HI.out.2.2.1 j (by omega)
            case measure => simp [intOf]; omega
    · have e : i = N := by omega
      subst e
      have hpi : ¬ (i : Int) < (i : Int) := by omega
      have HE : Hid (Mrk w.heap.size mid w6 wr (w.heap.size + 3) (w.heap.size + 2) i us xs ∧ ∀ j, j < i → xs j = mkd j (ts j).length (ts j) ++ [mrT j]) := ⟨HI.out.1, HI.out.2.1⟩
      clear HI
      revert HE
      generalize wr = wE
      intro HE
      go_wp2_with fail
      go_loopw [11] (fun iv wr => ∃ j : Nat, j ≤ i ∧ iv = .int .i64 j ∧ wr = wE) (fun iv _ => i - (intOf iv).toNat)
      case atStart => exact ⟨0, Nat.zero_le _, rfl, rfl⟩
      case round =>
        obtain ⟨j, hjl, rfl, hw⟩ := hrel
        subst hw
        by_cases hj : j < i
        · have hji : (j : Int) < (i : Int) := by omega
          have hjl2 := HTS.out j hj
          have hown := HE.out.1.fam.own j hj
          rw [HE.out.2 j hj, List.length_append, mkd_len] at hown
          have hcell : wr.cell? ⟨w.heap.size + 2, j, none⟩ = some (us j) := HE.out.1.fam.row.cell hj
          obtain ⟨g, cap, hus, _, _⟩ := hown.form (by simp)
          rw [hus] at hown hcell
          obtain ⟨n, hn⟩ : ∃ n, (ts j).length = n := ⟨_, rfl⟩
          rw [hn] at hcell hown hjl2
          have HOW : Hid (wr.ownsRow (w.heap.size + 3) 32 3 (.slice (some ⟨g, 0, none⟩) (n + 1) cap) (n + 1) (tcs (mkd j n (ts j) ++ [mrT j]))) := hown
          have HN : Hid ((ts j).length = n) := hn
          simp only [List.length_singleton] at hcell
          clear hn hown hus
          go_wp2_with fail
          go_loopw [12] (fun iv w' => ∃ k : Nat, k ≤ n ∧ iv = .int .i64 k ∧ w' = wr) (fun iv _ => n - (intOf iv).toNat)
          case atStart => exact ⟨0, Nat.zero_le _, rfl, rfl⟩
          case round =>
            obtain ⟨k, hkl, rfl, hw⟩ := hrel
            subst hw
            by_cases hk : k < n
            · have hki : (k : Int) < (n : Int) := by omega
              have hpp : (mkd j n (ts j) ++ [mrT j])[k]? = some (mkT j k) := by
                rw [List.getElem?_append_left (by rw [mkd_len, HN.out]; exact hk)]
                exact mkd_get (by rw [HN.out]; exact hk) hk
              obtain ⟨k0, k1, k2⟩ := tcs_get hpp
              rw [← HOW.out.cellAt _ (by omega)] at k0 k1 k2
              have l0 : wr.cell? ⟨g, k * 3, none⟩ = some (.string ⟨#[109, 97, 114, 107]⟩) := k0
              have l1 : wr.cell? ⟨g, k * 3 + 1, none⟩ = some (.int .i64 (-(j : Int))) := k1
              have l2 : wr.cell? ⟨g, k * 3 + 2, none⟩ = some (.int .i64 (-(k : Int))) := k2
              clear k0 k1 k2 hpp
              have ng1 : IntKind.i64.wrap (-(j : Int)) = -(j : Int) := by rw [IntKind.wrap_i64]; omega
              have ng2 : IntKind.i64.wrap (-(k : Int)) = -(k : Int) := by rw [IntKind.wrap_i64]; omega
              go_wp2_with fail
              go_roundw
              case rel => exact ⟨k + 1, by omega, by go_num, trivial⟩
              case measure => simp [intOf]; omega
            · have e : k = n := by omega
              subst e
              have hki : ¬ (k : Int) < (k : Int) := by omega
              go_wp2_with fail
              go_roundw
              case rel => exact ⟨j + 1, by omega, by go_num, trivial⟩
              case measure => simp [intOf]; omega
        · have e : j = i := by omega
          subst e
          have hji : ¬ (j : Int) < (j : Int) := by omega
          have HRB : Hid (RdL wr bv LS ∧ RdL wr v LS) := ⟨HO.out.rb.move HO.out.ab HE.out.1.sty, HO.out.rv.move HO.out.av HE.out.1.sty⟩
          go_wp2_with (first
            | (go_at_call 11; (with_reducible refine (same_any _ _ _ LS LS HRB.out.1 HRB.out.2).mono ?_); rintro e wF ⟨rfl, q6, hw6⟩; (rw [decide_eq_true (rfl : LS = LS)]); (have HBF : Hid (Below w.heap.size w wF) := (by rw [hw6]; exact below_dn (HW6.out.trans HE.out.1.bel) q6)); clear hw6))
          go_ret
          exact ⟨rfl, HBF.out⟩

theorem cuts_walk (w : World) (hm : Mln w) (s : ByteArray) (hs : s.size ≤ 140737488351232) :
    Calls Tryd.prog 3 #[.string s] w fun e w' => e = .returned (.bool true) ∧ Below w.heap.size w w' := by
  by_cases h : s.size ≤ 65536
  · by_cases he : (erL 0 (liT s)).1 = 0
    · have hz : erL 0 (liT s) = (0, 0) := by
        obtain ⟨m, hm'⟩ := hm
        exact erL_zero he
      exact cuts_main w hm s h hz
    · refine cuts_nil w hm s _ _ (fun w hm => cut_bad s w h hm (Prod.eta _).symm he) (fun w => ?_)
      refine (rcut_any s w h).mono ?_
      rintro e w' ⟨hb, v, h1, h2⟩
      rcases h2 with ⟨q, _⟩ | ⟨_, rfl⟩
      · exact absurd q he
      · exact ⟨h1, hb⟩
  · exact cuts_nil w hm s 3 (-1) (fun w _ => cut_long s w (by omega)) (fun w => rcut_long s w (by omega))
end Go.Proofs.YtdcodajjcaipdaaDoor
