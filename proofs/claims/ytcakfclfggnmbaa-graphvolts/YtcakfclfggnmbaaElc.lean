/-
  Elements: Name of package value.
-/
import Derived.Test.YtcakfclfggnmbaaElb
import Derived.WalkSpells
namespace Go.Proofs.Ytcakfclfggnmbaa
open Fl RowKit
set_option linter.unusedVariables false

theorem ext_size {s : ByteArray} (h : 1 ≤ s.size) : (s.extract 1 s.size).size = s.size - 1 := by simp
theorem ext_byt {s : ByteArray} {i : Nat} (h : i < s.size - 1) : byt (s.extract 1 s.size) i = byt s (i + 1) := by
  have h1 : i < (s.extract 1 s.size).size := by simp; omega
  have h2 : i + 1 < s.size := by omega
  rw [← byt_get h1, ← byt_get h2, ByteArray.getElem_extract]
  congr 2
  omega
theorem ext_plF {s : ByteArray} (h : 1 ≤ s.size) : plF (s.extract 1 s.size) 0 = plF s 1 := by
  rw [Bool.eq_iff_iff]
  unfold plF
  rw [decide_eq_true_iff, decide_eq_true_iff]
  constructor
  · intro q i hi h1
    have := q (i - 1) (by rw [ext_size h]; omega) (Nat.zero_le _)
    rwa [ext_byt (by omega), Nat.sub_add_cancel h1] at this
  · intro q i hi _
    rw [ext_size h] at hi
    rw [ext_byt hi]
    exact q (i + 1) (by omega) (by omega)
/-- the kind of which a text is a name; 0: none -/
def nmK (s : ByteArray) : Nat := if (2 ≤ s.size ∧ s.size ≤ 16) ∧ plF s 1 = true then ofK (byt s 0) else 0
theorem nm_out {s : ByteArray} (h : ¬ (2 ≤ s.size ∧ s.size ≤ 16)) : nmK s = 0 := if_neg (fun q => h q.1)
theorem nm_bad {s : ByteArray} (h : plF s 1 = false) : nmK s = 0 := if_neg (fun q => by rw [h] at q; cases q.2)
theorem nm_in {s : ByteArray} (h1 : 2 ≤ s.size) (h2 : s.size ≤ 16) (h : plF s 1 = true) : nmK s = ofK (byt s 0) := if_pos ⟨⟨h1, h2⟩, h⟩
theorem nmK_le (s : ByteArray) : nmK s ≤ 8 := by
  unfold nmK
  split
  · exact ofK_le _
  · omega
theorem ndx {s : ByteArray} (h1 : 1 ≤ s.size) (h2 : s.size ≤ 16) : ndF (s.extract 1 s.size) = (decide (2 ≤ s.size) && plF s 1) := by
  unfold ndF
  rw [ext_plF h1, ext_size h1]
  congr 1
  rw [decide_eq_decide]; omega
set_option maxRecDepth 100000 in
theorem name_any (s : ByteArray) (w : World) (hs : s.size ≤ 140737488351232) :
    Calls Try.prog 80 #[.string s] w fun e w' => e = .returned (.tuple #[.int .u8 (nmK s : Nat), .bool (nmK s != 0)]) ∧ Below w.heap.size w w' := by
  rcases (show s.size = 0 ∨ 16 < s.size ∨ (1 ≤ s.size ∧ s.size ≤ 16) from by omega) with h | h | h
  · rw [nm_out (by omega)]
    go_enter Try.func80, Try.ntmps80
    go_wp2_with fail
    go_ret2
    exact ⟨rfl, Below.refl _ _⟩
  · rw [nm_out (by omega)]
    have h0 : ((s.size : Int) == 0) = false := by rw [beq_eq_false_iff_ne]; omega
    go_enter Try.func80, Try.ntmps80
    go_wp2_with fail
    go_ret2
    exact ⟨rfl, Below.refl _ _⟩
  · obtain ⟨h1, h2⟩ := h
    have h0 : ((s.size : Int) == 0) = false := by rw [beq_eq_false_iff_ne]; omega
    have hpos : 0 < s.size := h1
    have hg := byt_get hpos
    have hlt := byt_lt s 0
    have hx := ndx h1 h2
    have hxs : (s.extract 1 s.size).size ≤ 140737488351232 := by rw [ext_size h1]; omega
    obtain ⟨c, hc⟩ : ∃ c, c = byt s 0 := ⟨_, rfl⟩
    rw [← hc] at hg hlt
    have HC : Hid (c = byt s 0) := hc
    clear hc
    cases hk : (ofK c != 0)
    · have hn : nmK s = 0 := by
        have hc0 : ofK c = 0 := by simpa using hk
        unfold nmK; split
        · rw [← HC.out]; exact hc0
        · rfl
      rw [hn]
      clear hn hx hxs
      go_enter Try.func80, Try.ntmps80
      go_wp2_with (first
        | (go_at_call 89; (try rw [hg]); (with_reducible refine (kof_any c _ hlt).mono ?_); rintro e w' ⟨rfl, hb⟩; (have HB : Hid (Below w.heap.size w w') := hb); clear hb; rw [hk]))
      go_ret2
      exact ⟨rfl, HB.out⟩
    · cases hd : ndF (s.extract 1 s.size)
      · have hn : nmK s = 0 := by
          rw [hx] at hd
          unfold nmK; split
          · next q => rw [q.2] at hd; simp at hd; omega
          · rfl
        rw [hn]
        clear hn hx
        go_enter Try.func80, Try.ntmps80
        go_wp2_with (first
          | (go_at_call 89; (try rw [hg]); (with_reducible refine (kof_any c _ hlt).mono ?_); rintro e w' ⟨rfl, hb⟩; (have HB : Hid (Below w.heap.size w w') := hb); clear hb; rw [hk])
          | (go_at_call 81; (with_reducible refine (node_any _ _ hxs).mono ?_); rintro e w2 ⟨rfl, hb⟩; (have HB2 : Hid (Below w'.heap.size w' w2) := hb); clear hb; rw [hd]))
        go_ret2
        exact ⟨rfl, HB.out.trans (HB2.out.mono HB.out.size)⟩
      · have hn : nmK s = ofK c := by
          rw [hx] at hd
          simp at hd
          rw [HC.out]
          exact nm_in hd.1 h2 hd.2
        rw [hn, hk]
        clear hn hx
        go_enter Try.func80, Try.ntmps80
        go_wp2_with (first
          | (go_at_call 89; (try rw [hg]); (with_reducible refine (kof_any c _ hlt).mono ?_); rintro e w' ⟨rfl, hb⟩; (have HB : Hid (Below w.heap.size w w') := hb); clear hb; rw [hk])
          | (go_at_call 81; (with_reducible refine (node_any _ _ hxs).mono ?_); rintro e w2 ⟨rfl, hb⟩; (have HB2 : Hid (Below w'.heap.size w' w2) := hb); clear hb; rw [hd]))
        go_ret2
        exact ⟨rfl, HB.out.trans (HB2.out.mono HB.out.size)⟩
end Go.Proofs.Ytcakfclfggnmbaa
