/-
  The walk of TokensBare.
-/
import Derived.Test.YtpfdgibgdehcdaaDoorTbt
import Derived.Test.YtpfdgibgdehcdaaDoorTbb
import Derived.Test.YtpfdgibgdehcdaaDoorTbc
import Derived.Deep.Cut
import Derived.Deep.DeepCutAuto
import Derived.Deep.CutBlock
namespace Go.Proofs.YtpfdgibgdehcdaaDoor
open RowKit

/-- a fault that lies in memory -/
def FB (w : World) (b : Nat) (e a : Int) : Prop := w.heap[b]? = some (.cells #[.int .i64 e, .int .i64 a] 30 (0, 0))
theorem FB.new (w : World) (e a : Int) : FB (w.alloc (.cells #[.int .i64 e, .int .i64 a] 30)) w.heap.size e a := heap_alloc_new w _
theorem FB.cells {w : World} {b : Nat} {e a : Int} (h : FB w b e a) : w.cell? ⟨b, 0, none⟩ = some (.int .i64 e) ∧ w.cell? ⟨b, 1, none⟩ = some (.int .i64 a) :=
  ⟨by rw [cell_of_row w b 0 _ _ (0, 0) h]; rfl, by rw [cell_of_row w b 1 _ _ (0, 0) h]; rfl⟩
theorem hid_q {P : Prop} (h : P) : Hid P := h
theorem below_le {m n : Nat} {w w' : World} (h : Below n w w') (hm : m ≤ n) : Below m w w' := ⟨h.os, h.tape, h.output, h.size, fun k hk => h.block k (Nat.lt_of_lt_of_le hk hm)⟩

theorem erL_fst : ∀ {l : List ByteArray} {n b : Nat}, erL n l = (0, b) → erL n l = (0, 0)
  | [], _, _, _ => rfl
  | t :: r, n, b, h => by
    unfold erL at h ⊢
    split
    · next hb => rw [if_pos hb] at h; exact absurd (congrArg Prod.fst h) hb
    · next hb => rw [if_neg hb] at h; exact erL_fst h
set_option maxRecDepth 10000 in
set_option maxHeartbeats 1000000 in
theorem bare_early (s r : ByteArray) (w : World) (hm : Mln w) (hr : r.size ≤ 140737488351232) (hss : s.size ≤ 140737488351232) (h : 65536 < s.size ∨ erL 0 (liT s) ≠ (0, 0) ∨ 2000 < s.size ∨ 100 < r.size) :
    Calls Tryd.prog 5 #[.string s, .string r] w fun e w' => e = .returned (.bool true) ∧ Below w.heap.size w w' := by
  have hl := fun W h => lives_any W h
  rcases Nat.lt_or_ge 65536 s.size with h6 | h6
  · have hc := fun W => cut_long s W h6
    go_enter Tryd.func5, Tryd.ntmps5
    go_wp2_with (first
      | (go_at_call 16; (with_reducible refine (hc _).mono ?_); rintro e1 w1 ⟨rfl, B1⟩; have B2 := B1.alloc B1.size (.cells #[.int .i64 3, .int .i64 (-1)] 30); obtain ⟨c0, c1⟩ := (FB.new w1 3 (-1)).cells)
      | (go_at_call 17; (with_reducible refine (hl _ (hm.kept B2)).mono ?_); rintro e2 w2 ⟨rfl, B3⟩))
    go_ret
    exact ⟨rfl, B2.trans (below_le B3 B2.size)⟩
  · by_cases he : erL 0 (liT s) = (0, 0)
    · have hc := cut_ok s w h6 hm he
      have h : 2000 < s.size ∨ 100 < r.size := by rcases h with h | h | h | h; omega; exact absurd he h; exact .inl h; exact .inr h
      by_cases h2 : 2000 < s.size
      · have h2I : (2000 : Int) < (s.size : Int) := by omega
        go_enter Tryd.func5, Tryd.ntmps5
        go_wp2_with (first
          | (go_at_call 16; (with_reducible refine hc.mono ?_); rintro e1 w1 ⟨v1, rfl, R1, B1⟩; have B2 := B1.alloc B1.size (.cells #[.int .i64 0, .int .i64 0] 30); obtain ⟨c0, c1⟩ := (FB.new w1 0 0).cells)
          | (go_at_call 17; (with_reducible refine (hl _ (hm.kept B2)).mono ?_); rintro e2 w2 ⟨rfl, B3⟩))
        go_ret
        exact ⟨rfl, B2.trans (below_le B3 B2.size)⟩
      · have h2I : ¬ (2000 : Int) < (s.size : Int) := by omega
        have h3I : (100 : Int) < (r.size : Int) := by omega
        go_enter Tryd.func5, Tryd.ntmps5
        go_wp2_with (first
          | (go_at_call 16; (with_reducible refine hc.mono ?_); rintro e1 w1 ⟨v1, rfl, R1, B1⟩; have B2 := B1.alloc B1.size (.cells #[.int .i64 0, .int .i64 0] 30); obtain ⟨c0, c1⟩ := (FB.new w1 0 0).cells)
          | (go_at_call 17; (with_reducible refine (hl _ (hm.kept B2)).mono ?_); rintro e2 w2 ⟨rfl, B3⟩))
        go_ret
        exact ⟨rfl, B2.trans (below_le B3 B2.size)⟩
    · obtain ⟨a, b, hab⟩ : ∃ a b, erL 0 (liT s) = (a, b) := ⟨_, _, rfl⟩
      have ha : a ≠ 0 := fun h0 => he (erL_fst (b := b) (by rw [hab, h0]))
      have hc := cut_bad s w h6 hm hab ha
      have haI : ((a : Int) == 0) = false := by simp; omega
      have haJ : ¬ (a : Int) = 0 := by omega
      go_enter Tryd.func5, Tryd.ntmps5
      go_wp2_with (first
        | (go_at_call 16; (with_reducible refine hc.mono ?_); rintro e1 w1 ⟨rfl, B1⟩; have B2 := B1.alloc B1.size (.cells #[.int .i64 a, .int .i64 b] 30); obtain ⟨c0, c1⟩ := (FB.new w1 a b).cells)
        | (go_at_call 17; (with_reducible refine (hl _ (hm.kept B2)).mono ?_); rintro e2 w2 ⟨rfl, B3⟩))
      go_ret
      exact ⟨rfl, B2.trans (below_le B3 B2.size)⟩

theorem str_at {w : World} {B : Nat} {l : List ByteArray} {j : Nat} {u : ByteArray} (h : w.heap[B]? = some (.cells (l.map Value.string).toArray 9 (0, 0))) (hj : l[j]? = some u) : w.cell? ⟨B, j, none⟩ = some (.string u) := by
  rw [cell_of_row w B j _ _ (0, 0) h]
  simp [hj]
theorem texts_li (s : ByteArray) (hs : s.size ≤ 65536) (w : World) (v : Value) (hv : RdL w v (tkL 0 (liT s))) :
    Calls Tryd.prog 20 #[v] w fun e w' => ∃ A c, e = .returned (.slice A ((liT s).map txq).length c) ∧ RdSL w' (.slice A ((liT s).map txq).length c) ((liT s).map txq) ∧ Below w.heap.size w w' ∧ ((liT s).map txq).length ≤ c := by
  have hp := liP_len s
  refine (texts_cap w v _ hv (by rw [tkL_len, liT_len]; omega) (fun l hl => ?_)).mono ?_
  · obtain ⟨k, hk⟩ := List.getElem?_of_mem hl
    obtain ⟨t, h1, rfl⟩ := tkL_inv hk
    have := tkl_len k t; have := liT_size h1; omega
  · rintro e w' ⟨u, rfl, h2, h3, h4⟩
    rw [txs_tkL] at h2
    have h2' := h2
    obtain ⟨_, A, c, rfl, _⟩ := h2
    exact ⟨A, c, rfl, h2', h3, h4⟩
theorem RdSL.cut {w : World} {A : Option Addr} {c n : Nat} {la : List (List ByteArray)} {x : List ByteArray} (h : RdSL w (.slice A (la ++ [x]).length c) (la ++ [x])) (hn : la.length = n) :
    ∃ b u, A = some ⟨b, 0, none⟩ ∧ w.cell? ⟨b, n, none⟩ = some u ∧ RdS w u x ∧ RdSL w (.slice A n c) la := by
  obtain ⟨h0, A', c', e, h1⟩ := h
  obtain ⟨rfl, _, rfl⟩ := Value.slice.inj e
  obtain ⟨b, rfl, h3⟩ := h1.resolve_left (by simp)
  obtain ⟨u, h4, h5⟩ := h3 la.length x (by simp)
  subst hn
  refine ⟨b, u, rfl, h4, h5, by simp at h0; omega, _, _, rfl, .inr ⟨b, rfl, fun k ts hk => h3 k ts ?_⟩⟩
  rw [List.getElem?_append_left (by obtain ⟨hlt, _⟩ := List.getElem?_eq_some_iff.1 hk; exact hlt)]; exact hk
/-- the text so far, as TokensBare writes it -/
def BtI (w : World) (rm : List UInt8) (ps : List ByteArray) (BL : Nat) (W : World) (i : Nat) (t : ByteArray) : Prop :=
  i ≤ ps.length ∧ t.data.toList = bT rm ps i ∧ t.size ≤ (if i = ps.length then 60000 else 60200) ∧ W.heap[BL]? = some (.cells (ps.map Value.string).toArray 9 (0, 0)) ∧ Below w.heap.size w W
set_option maxRecDepth 100000 in
set_option maxHeartbeats 4000000 in
theorem bare_main (s r : ByteArray) (w : World) (hm : Mln w) (hs : s.size ≤ 2000) (hr : r.size ≤ 100) (he : erL 0 (liT s) = (0, 0)) :
    Calls Tryd.prog 5 #[.string s, .string r] w fun e w' => e = .returned (.bool true) ∧ Below w.heap.size w w' := by
  have hc := cut_ok s w (by omega) hm he
  have h1I : ¬ (2000 : Int) < (s.size : Int) := by omega
  have h2I : ¬ (100 : Int) < (r.size : Int) := by omega
  obtain ⟨qs, z, hqz⟩ := cu_last s
  obtain ⟨ps, hps⟩ : ∃ ps, cuT s (alP s) = ps := ⟨_, rfl⟩
  have hln := cuT_len s (alP s)
  have hsz : ∀ u ∈ ps, u.size ≤ 2000 := fun u hu => Nat.le_trans (cu_size (s := s) (by rw [hps]; exact hu)) hs
  have hsp := fun W m h => split_any s m W (by omega) h
  rw [hps] at hln hqz
  have hpl : ps.length ≤ 2001 := by rw [hln]; exact Nat.le_trans (alP_len s) (by omega)
  simp only [← hln, hps] at hsp
  have HPS := hid_q (And.intro hps hqz)
  have HSZ := hid_q hsz
  have HE := hid_q he
  clear hps hqz hln hsz he
  obtain ⟨n, hn⟩ : ∃ n, ps.length = n := ⟨_, rfl⟩
  simp only [hn] at hsp
  rw [hn] at hpl
  have HN := hid_q hn
  clear hn
  go_enter Tryd.func5, Tryd.ntmps5
  go_wp2_with (first
    | (go_at_call 16; (with_reducible refine hc.mono ?_); rintro e1 w1 ⟨v1, rfl, R1, B1⟩; have B2 := B1.alloc B1.size (.cells #[.int .i64 0, .int .i64 0] 30); obtain ⟨c0, c1⟩ := (FB.new w1 0 0).cells; have R2 := R1.kept ((Below.refl _ w1).alloc (Nat.le_refl _) (.cells #[.int .i64 0, .int .i64 0] 30)))
    | (go_at_call 18; (with_reducible refine (replace_any r ⟨#[]⟩ 10 _ (by omega) (by decide) (hm.kept B2) (by decide)).mono ?_); rintro e3 w3 ⟨rm, rfl, hrm, B3⟩; have R3 := R2.kept B3; have B4 := B2.trans (below_le B3 B2.size))
    | (go_at_call 19; obtain ⟨mm, hmm⟩ := hm.kept B4; (with_reducible refine (hsp _ mm hmm).mono ?_); rintro e5 w5 ⟨rfl, hw5⟩; rw [hw5]; clear hw5 w5))
  obtain ⟨w6, hw6⟩ : ∃ w6, w6 = w3.alloc (.cells (ps.map Value.string).toArray 9) := ⟨_, rfl⟩
  have RB : w6.heap[w3.heap.size]? = some (.cells (ps.map Value.string).toArray 9 (0, 0)) := by rw [hw6]; exact heap_alloc_new _ _
  have B6 : Below w.heap.size w w6 := by rw [hw6]; exact B4.alloc B4.size _
  have R6 : RdL w6 v1 (tkL 0 (liT s)) := by rw [hw6]; exact R3.kept ((Below.refl _ w3).alloc (Nat.le_refl _) _)
  rw [← hw6]
  have hrs : rm.size ≤ 100 := by
    have := rpl_nil_len r.data.toList
    rw [← hrm, dt_size, dt_size] at this; omega
  have HRM : Hid (rm.data.toList = rpl 10 [] r.data.toList) := hrm
  obtain ⟨BL, hBL⟩ : ∃ BL, BL = w3.heap.size := ⟨_, rfl⟩
  rw [← hBL] at RB ⊢
  have HR6 := hid_q R6
  clear hw6 hrm R1 R2 R3 B1 B2 B3 B4 c0 c1 hmm hBL hc hsp R6
  go_loopw [8, 9] (fun tv iv wr => ∃ (i : Nat) (t : ByteArray), iv = .int .i64 i ∧ tv = .string t ∧ BtI w rm.data.toList ps BL wr i t ∧ Below w6.heap.size w6 wr) (fun _ iv _ => n - (intOf iv).toNat)
  case atStart => exact ⟨0, ⟨#[]⟩, rfl, rfl, ⟨Nat.zero_le _, rfl, by split <;> decide, RB, B6⟩, Below.refl _ _⟩
  case round =>
    clear RB B6
    obtain ⟨i, t, rfl, rfl, ⟨hin, ht, hts, RB, B6⟩, B7⟩ := hrel
    rw [HN.out] at hin hts
    have HTT := hid_q ht
    have hm6 := hm.kept B6
    clear ht
    by_cases hi : i < n
    · have hiI : (i : Int) < (n : Int) := by omega
      have hts2 : t.size ≤ 60200 := by split at hts <;> omega
      obtain ⟨u, hu⟩ : ∃ u, ps[i]? = some u := ⟨ps[i]'(by rw [HN.out]; exact hi), List.getElem?_eq_getElem _⟩
      have cu := str_at RB hu
      have hus : u.size ≤ 2000 := HSZ.out u (List.mem_of_getElem? hu)
      have HU : Hid (ps.getD i ByteArray.empty = u) := by show _ = _; rw [List.getD_eq_getElem?_getD, hu]; rfl
      have HRA := replace_any u ⟨#[32, 13, 32]⟩ 32 wr (by omega) (by decide) hm6 (by decide)
      clear hts hu
      by_cases hi0 : i = 0
      · subst hi0
        go_upto_if 57 with (go_at_call 18; (with_reducible refine HRA.mono ?_); rintro e8 w8 ⟨R, rfl, hR, B8⟩; have hRs : R.size ≤ 8000 := (by have h0 := rpl_len 32 [32, 13, 32] u.data.toList; rw [← show R.data.toList = rpl 32 [32, 13, 32] u.data.toList from hR, dt_size, dt_size] at h0; simp at h0; omega); have HR := hid_q hR; clear hR; have g0 : ¬ 9223372036854775807 < t.size + 2 := (by omega); have g1 : ¬ 9223372036854775807 < t.size + 2 + R.size := (by omega); have g2 : ¬ 9223372036854775807 < t.size + 2 + R.size + 2 := (by omega); have g3 : ¬ 9223372036854775807 < t.size + 2 + R.size + 2 + rm.size := (by omega))
        have RB8 : w8.heap[BL]? = some (.cells (ps.map Value.string).toArray 9 (0, 0)) := (B8.block BL (Array.getElem?_eq_some_iff.1 RB).1).trans RB
        have B68 := B6.trans (below_le B8 B6.size)
        have B78 := B7.trans (below_le B8 B7.size)
        by_cases hL : 60000 < t.size + 2 + R.size
        · have hLI : (60000 : Int) < (t.size : Int) + 2 + (R.size : Int) := by omega
          clear HTT HU HR HPS HSZ HE HN HRM HR6
          go_wp2_with fail
          go_ret
          exact ⟨rfl, B68⟩
        · have hLI : ¬ (60000 : Int) < (t.size : Int) + 2 + (R.size : Int) := by omega
          by_cases hJ : 0 + 1 < n
          · have hJI : ((0 : Nat) : Int) < (n : Int) - 1 := by omega
            have hJK : (0 : Int) < (n : Int) - 1 := by omega
            have HD : Hid ((t ++ ⟨#[9, 32]⟩ ++ R ++ ⟨#[32, 59]⟩ ++ rm).data.toList = bT rm.data.toList ps (0 + 1)) := by
              show _ = _
              rw [bT_step, ← HTT.out, HU.out, brz_rpl, ← HR.out, HN.out, if_pos (by omega), if_pos (by omega)]
              simp
            have HZ : Hid ((t ++ ⟨#[9, 32]⟩ ++ R ++ ⟨#[32, 59]⟩ ++ rm).size ≤ (if (0 + 1) = ps.length then 60000 else 60200)) := by
              show _ ≤ _
              rw [HN.out, if_neg (by omega)]
              simp [ByteArray.size_append]
              have : (⟨#[9, 32]⟩ : ByteArray).size = 2 := rfl
              have : (⟨#[32, 59]⟩ : ByteArray).size = 2 := rfl
              omega
            clear HTT HU HR
            go_wp2_with fail
            go_roundw
            case rel => exact ⟨(0 + 1), _, by go_num, rfl, ⟨by rw [HN.out]; omega, HD.out, HZ.out, RB8, B68⟩, B78⟩
            case measure => simp [intOf]; omega
          · have hJI : ¬ ((0 : Nat) : Int) < (n : Int) - 1 := by omega
            have hJK : ¬ (0 : Int) < (n : Int) - 1 := by omega
            have HD : Hid ((t ++ ⟨#[9, 32]⟩ ++ R).data.toList = bT rm.data.toList ps (0 + 1)) := by
              show _ = _
              rw [bT_step, ← HTT.out, HU.out, brz_rpl, ← HR.out, HN.out, if_pos (by omega), if_neg (by omega)]
              simp
            have HZ : Hid ((t ++ ⟨#[9, 32]⟩ ++ R).size ≤ (if (0 + 1) = ps.length then 60000 else 60200)) := by
              show _ ≤ _
              rw [HN.out, if_pos (by omega)]
              simp [ByteArray.size_append]
              have : (⟨#[9, 32]⟩ : ByteArray).size = 2 := rfl
              omega
            clear HTT HU HR
            go_wp2_with fail
            go_roundw
            case rel => exact ⟨(0 + 1), _, by go_num, rfl, ⟨by rw [HN.out]; omega, HD.out, HZ.out, RB8, B68⟩, B78⟩
            case measure => simp [intOf]; omega
      · have hi0I : (0 : Int) < (i : Int) := by omega
        go_upto_if 57 with (go_at_call 18; (with_reducible refine HRA.mono ?_); rintro e8 w8 ⟨R, rfl, hR, B8⟩; have hRs : R.size ≤ 8000 := (by have h0 := rpl_len 32 [32, 13, 32] u.data.toList; rw [← show R.data.toList = rpl 32 [32, 13, 32] u.data.toList from hR, dt_size, dt_size] at h0; simp at h0; omega); have HR := hid_q hR; clear hR; have g0 : ¬ 9223372036854775807 < t.size + 1 := (by omega); have g1 : ¬ 9223372036854775807 < t.size + 1 + 2 := (by omega); have g2 : ¬ 9223372036854775807 < t.size + 1 + 2 + R.size := (by omega); have g3 : ¬ 9223372036854775807 < t.size + 1 + 2 + R.size + 2 := (by omega); have g4 : ¬ 9223372036854775807 < t.size + 1 + 2 + R.size + 2 + rm.size := (by omega))
        have RB8 : w8.heap[BL]? = some (.cells (ps.map Value.string).toArray 9 (0, 0)) := (B8.block BL (Array.getElem?_eq_some_iff.1 RB).1).trans RB
        have B68 := B6.trans (below_le B8 B6.size)
        have B78 := B7.trans (below_le B8 B7.size)
        by_cases hL : 60000 < t.size + 1 + 2 + R.size
        · have hLI : (60000 : Int) < (t.size : Int) + 1 + 2 + (R.size : Int) := by omega
          clear HTT HU HR HPS HSZ HE HN HRM HR6
          go_wp2_with fail
          go_ret
          exact ⟨rfl, B68⟩
        · have hLI : ¬ (60000 : Int) < (t.size : Int) + 1 + 2 + (R.size : Int) := by omega
          by_cases hJ : i + 1 < n
          · have hJI : ((i : Nat) : Int) < (n : Int) - 1 := by omega
            have HD : Hid ((t ++ ⟨#[10]⟩ ++ ⟨#[9, 32]⟩ ++ R ++ ⟨#[32, 59]⟩ ++ rm).data.toList = bT rm.data.toList ps (i + 1)) := by
              show _ = _
              rw [bT_step, ← HTT.out, HU.out, brz_rpl, ← HR.out, HN.out, if_neg (by omega), if_pos (by omega)]
              simp
            have HZ : Hid ((t ++ ⟨#[10]⟩ ++ ⟨#[9, 32]⟩ ++ R ++ ⟨#[32, 59]⟩ ++ rm).size ≤ (if (i + 1) = ps.length then 60000 else 60200)) := by
              show _ ≤ _
              rw [HN.out, if_neg (by omega)]
              simp [ByteArray.size_append]
              have : (⟨#[9, 32]⟩ : ByteArray).size = 2 := rfl
              have : (⟨#[10]⟩ : ByteArray).size = 1 := rfl
              have : (⟨#[32, 59]⟩ : ByteArray).size = 2 := rfl
              omega
            clear HTT HU HR
            go_wp2_with fail
            go_roundw
            case rel => exact ⟨(i + 1), _, by go_num, rfl, ⟨by rw [HN.out]; omega, HD.out, HZ.out, RB8, B68⟩, B78⟩
            case measure => simp [intOf]; omega
          · have hJI : ¬ ((i : Nat) : Int) < (n : Int) - 1 := by omega
            have HD : Hid ((t ++ ⟨#[10]⟩ ++ ⟨#[9, 32]⟩ ++ R).data.toList = bT rm.data.toList ps (i + 1)) := by
              show _ = _
              rw [bT_step, ← HTT.out, HU.out, brz_rpl, ← HR.out, HN.out, if_neg (by omega), if_neg (by omega)]
              simp
            have HZ : Hid ((t ++ ⟨#[10]⟩ ++ ⟨#[9, 32]⟩ ++ R).size ≤ (if (i + 1) = ps.length then 60000 else 60200)) := by
              show _ ≤ _
              rw [HN.out, if_pos (by omega)]
              simp [ByteArray.size_append]
              have : (⟨#[9, 32]⟩ : ByteArray).size = 2 := rfl
              have : (⟨#[10]⟩ : ByteArray).size = 1 := rfl
              omega
            clear HTT HU HR
            go_wp2_with fail
            go_roundw
            case rel => exact ⟨(i + 1), _, by go_num, rfl, ⟨by rw [HN.out]; omega, HD.out, HZ.out, RB8, B68⟩, B78⟩
            case measure => simp [intOf]; omega
    · have hiI : ¬ (i : Int) < (n : Int) := by omega
      have ein : i = n := by omega
      rw [if_pos ein] at hts
      obtain ⟨hp1, hp2⟩ := HPS.out
      have hcq : cuT s (alP s) = qs ++ [z] := hp1.trans hp2
      have hd : t.data.toList = ((qs.map (brr rm.data.toList)).flatMap fun l => l ++ [10]) ++ brz z := by
        rw [HTT.out, ein, ← HN.out, hp2, List.length_append]; exact bT_all _ qs z
      have hal := erL_allq HE.out
      have hbl := bare_last hcq
      have hbz : ∀ u ∈ qs ++ [z], bdE u = 0 := by
        rcases hbl with ⟨_, h2, h3⟩ | h3
        · intro u hu
          rcases List.mem_append.1 hu with h | h
          · exact hal u (by rw [h3]; exact h)
          · rw [List.mem_singleton.1 h]; exact h2
        · intro u hu; exact hal u (by rw [h3]; exact hu)
      obtain ⟨b1, b2⟩ := bare_text hcq hd (by rw [HRM.out]; exact rpl_no _) hbz
      have hc2 := cut_ok t wr (by omega) hm6 b1
      rw [txs_tkL] at b2
      have hR7 := HR6.out.kept B7
      have hl := fun W h => lives_any W h
      have ht1 := fun W v h => texts_li s (by omega) W v h
      have ht2 := fun W v h => texts_li t (by omega) W v h
      simp only [b2] at ht2
      have hsm := fun W a b la lb h1 h2 => sameT_any W a b la lb h1 h2
      clear HTT HPS HSZ HE HRM HR6 hal hbz hd hcq hp1 hp2 b1 b2 RB
      rcases hbl with ⟨h1, _, h3⟩ | h3
      · rw [h3] at hR7
        simp only [h3, List.map_append, List.map_cons, List.map_nil, h1] at ht1 ht2
        obtain ⟨la, hla⟩ : ∃ la, qs.map txq = la := ⟨_, rfl⟩
        simp only [hla] at ht1 ht2
        obtain ⟨k, hk⟩ : ∃ k, la.length = k := ⟨_, rfl⟩
        have hk2 : (la ++ [([] : List ByteArray)]).length = k + 1 := by simp [hk]
        simp only [hk, hk2] at ht1 ht2
        have HK := hid_q hk
        have HK2 := hid_q hk2
        have hkb : k ≤ 3000 := by
          rw [← hk, ← hla, List.length_map, ← h3, liT_len]; have := liP_len s; omega
        have hwk : wrap64 ((k : Int) + 1) = (k : Int) + 1 := by unfold wrap64; omega
        clear h1 h3 hla hk hk2
        go_upto_region 21 with (first
          | (go_at_call 16; (with_reducible refine hc2.mono ?_); rintro e1 w9 ⟨v2, rfl, R9, B9⟩; have A9 := (Below.refl w9.heap.size w9).alloc (Nat.le_refl _) (.cells #[.int .i64 0, .int .i64 0] 30); have R9a := R9.kept A9; have B9a := B9.alloc B9.size (.cells #[.int .i64 0, .int .i64 0] 30); obtain ⟨c0, c1⟩ := (FB.new w9 0 0).cells; have R7a := (hR7.kept B9).kept A9; have C9 := B6.trans (below_le B9a B6.size))
          | (go_at_call 17; (with_reducible refine (hl _ (hm.kept C9)).mono ?_); rintro e2 w10 ⟨rfl, B10⟩; have C10 := C9.trans (below_le B10 C9.size); have R9b := R9a.kept B10; have R7b := R7a.kept B10)
          | (go_at_call 20; (with_reducible refine (ht1 _ v1 R7b).mono ?_); rintro e3 w11 ⟨A1, k1, rfl, S1, B11, K1⟩; have C11 := C10.trans (below_le B11 C10.size); have R9c := R9b.kept B11)
          | (go_at_call 20; (with_reducible refine (ht2 _ v2 R9c).mono ?_); rintro e4 w12 ⟨A2, k2, rfl, S2, B12, K2⟩; have C12 := C11.trans (below_le B12 C11.size); have S1b := S1.kept B12))
        have S2' : RdSL w12 (.slice A2 (la ++ [([] : List ByteArray)]).length k2) (la ++ [([] : List ByteArray)]) := by rw [HK2.out]; exact S2
        obtain ⟨b, u, rfl, cu, RS, S3⟩ := RdSL.cut S2' HK.out
        obtain ⟨_, A0, c0', rfl, _⟩ := RS
        have cu' : w12.cell? ⟨b, k, none⟩ = some (.slice A0 0 c0') := cu
        have hkk : (((k + 1 : Nat) : Int) == (k : Int) + 1) = true := by simp
        have HSM := hid_q (hsm w12 _ _ la la S1b S3)
        clear cu S2 S2' R9 R9a R9b R9c R7a R7b S1 hc2 ht1 ht2 hsm hl hR7 S1b S3 ein hi hin hiI
        go_wp2_with (go_at_call 21; (with_reducible refine HSM.out.mono ?_); rintro e5 w13 ⟨rfl, q5, rfl⟩)
        go_ret
        refine ⟨?_, ⟨C12.os, C12.tape, C12.output, C12.size, C12.block⟩⟩
        rfl
      · rw [h3] at hR7
        simp only [h3] at ht1
        obtain ⟨la, hla⟩ : ∃ la, (qs ++ [z]).map txq = la := ⟨_, rfl⟩
        simp only [hla] at ht1 ht2
        obtain ⟨k, hk⟩ : ∃ k, la.length = k := ⟨_, rfl⟩
        simp only [hk] at ht1 ht2
        have hkk : ((k : Int) == (k : Int) + 1) = false := by rw [beq_eq_false_iff_ne]; omega
        have hkj : ¬ (k : Int) = (k : Int) + 1 := by omega
        have hkb : k ≤ 3000 := by
          rw [← hk, ← hla, List.length_map, ← h3, liT_len]; have := liP_len s; omega
        have hwk : wrap64 ((k : Int) + 1) = (k : Int) + 1 := by unfold wrap64; omega
        clear h3 hla hk
        go_upto_region 21 with (first
          | (go_at_call 16; (with_reducible refine hc2.mono ?_); rintro e1 w9 ⟨v2, rfl, R9, B9⟩; have A9 := (Below.refl w9.heap.size w9).alloc (Nat.le_refl _) (.cells #[.int .i64 0, .int .i64 0] 30); have R9a := R9.kept A9; have B9a := B9.alloc B9.size (.cells #[.int .i64 0, .int .i64 0] 30); obtain ⟨c0, c1⟩ := (FB.new w9 0 0).cells; have R7a := (hR7.kept B9).kept A9; have C9 := B6.trans (below_le B9a B6.size))
          | (go_at_call 17; (with_reducible refine (hl _ (hm.kept C9)).mono ?_); rintro e2 w10 ⟨rfl, B10⟩; have C10 := C9.trans (below_le B10 C9.size); have R9b := R9a.kept B10; have R7b := R7a.kept B10)
          | (go_at_call 20; (with_reducible refine (ht1 _ v1 R7b).mono ?_); rintro e3 w11 ⟨A1, k1, rfl, S1, B11, K1⟩; have C11 := C10.trans (below_le B11 C10.size); have R9c := R9b.kept B11)
          | (go_at_call 20; (with_reducible refine (ht2 _ v2 R9c).mono ?_); rintro e4 w12 ⟨A2, k2, rfl, S2, B12, K2⟩; have C12 := C11.trans (below_le B12 C11.size); have S1b := S1.kept B12))
        have HSM := hid_q (hsm w12 _ _ la la S1b S2)
        clear R9 R9a R9b R9c R7a R7b S1 hc2 ht1 ht2 hsm hl hR7 S1b S2 ein hi hin hiI
        go_wp2_with (go_at_call 21; (with_reducible refine HSM.out.mono ?_); rintro e5 w13 ⟨rfl, q5, rfl⟩)
        go_ret
        refine ⟨?_, ⟨C12.os, C12.tape, C12.output, C12.size, C12.block⟩⟩
        rfl
theorem bare_all (w : World) (hm : Mln w) (s : ByteArray) (hss : s.size ≤ 140737488351232) (r : ByteArray) (hr : r.size ≤ 140737488351232) :
    Calls Tryd.prog 5 #[.string s, .string r] w fun e w' => e = .returned (.bool true) ∧ Below w.heap.size w w' := by
  by_cases h : 65536 < s.size ∨ erL 0 (liT s) ≠ (0, 0) ∨ 2000 < s.size ∨ 100 < r.size
  · exact bare_early s r w hm hr hss h
  · refine bare_main s r w hm ?_ ?_ ?_
    · rcases Nat.lt_or_ge 2000 s.size with h1 | h1
      · exact absurd (.inr (.inr (.inl h1))) h
      · exact h1
    · rcases Nat.lt_or_ge 100 r.size with h1 | h1
      · exact absurd (.inr (.inr (.inr h1))) h
      · exact h1
    · by_cases h1 : erL 0 (liT s) = (0, 0)
      · exact h1
      · exact absurd (.inr (.inl h1)) h

end Go.Proofs.YtpfdgibgdehcdaaDoor
