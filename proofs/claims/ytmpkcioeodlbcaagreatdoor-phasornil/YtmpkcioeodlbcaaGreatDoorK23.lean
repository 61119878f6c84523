/-
  Several texts in one: Elb Elc Eld Elf Elg Elh Ada Adb Adc Add Ade.
-/
import Derived.Test.YtmpkcioeodlbcaaGreatDoorK20
import Derived.WalkSpells
namespace Go.Proofs.YtmpkcioeodlbcaaGreatDoor
open Fl RowKit
set_option linter.unusedVariables false
/-- the table: letter, unit, above, phase, four -/
def ltr : Nat → Nat
  | 1 => 82 | 2 => 76 | 3 => 67 | 4 => 73 | 5 => 86 | 6 => 71 | 7 => 69 | 8 => 80 | _ => 0
def unS : Nat → ByteArray
  | 1 => ⟨#[111, 104, 109]⟩ | 2 => ⟨#[104, 101, 110, 114, 121]⟩ | 3 => ⟨#[102, 97, 114, 97, 100]⟩ | 4 => ⟨#[97, 109, 112, 101, 114, 101]⟩ | 5 => ⟨#[118, 111, 108, 116]⟩ | 6 => ⟨#[115, 105, 101, 109, 101, 110, 115]⟩ | 7 => ⟨#[]⟩ | 8 => ⟨#[111, 104, 109]⟩ | _ => ⟨#[]⟩
def abv : Nat → Bool
  | 1 => true | 2 => true | 3 => true | 8 => true | _ => false
def phs : Nat → Bool
  | 4 => true | 5 => true | _ => false
def fou : Nat → Bool
  | 6 => true | 7 => true | _ => false
def natV (k : Nat) : Value := .agg #[.int .u8 (ltr k : Nat), .string (unS k), .bool (abv k), .bool (phs k), .bool (fou k)]
theorem nat_none {k : Nat} (h : k = 0 ∨ 8 < k) : ltr k = 0 ∧ unS k = ⟨#[]⟩ ∧ abv k = false ∧ phs k = false ∧ fou k = false := by
  rcases h with rfl | h
  · exact ⟨rfl, rfl, rfl, rfl, rfl⟩
  · match k, h with
    | n + 9, _ => exact ⟨rfl, rfl, rfl, rfl, rfl⟩
set_option maxRecDepth 100000 in
set_option maxHeartbeats 2000000 in
theorem nature_any (k : Nat) (w : World) :
    Calls Tryz.prog 108 #[.int .u8 (k : Int)] w fun e w' => e = .returned (natV k) ∧ Below w.heap.size w w' := by
  have HB : Hid (∀ a b c d e t, Below w.heap.size w (w.alloc (.cells #[a, b, c, d, e] t))) := fun a b c d e t => (Below.refl _ _).alloc (Nat.le_refl _) _
  rcases (show k = 1 ∨ k = 2 ∨ k = 3 ∨ k = 4 ∨ k = 5 ∨ k = 6 ∨ k = 7 ∨ k = 8 ∨ (k = 0 ∨ 8 < k) from by omega) with rfl | rfl | rfl | rfl | rfl | rfl | rfl | rfl | h
  case inr.inr.inr.inr.inr.inr.inr.inr =>
    have h1 : ((k : Int) == 1) = false := by simp; omega
    have h2 : ((k : Int) == 2) = false := by simp; omega
    have h3 : ((k : Int) == 3) = false := by simp; omega
    have h4 : ((k : Int) == 4) = false := by simp; omega
    have h5 : ((k : Int) == 5) = false := by simp; omega
    have h6 : ((k : Int) == 6) = false := by simp; omega
    have h7 : ((k : Int) == 7) = false := by simp; omega
    have h8 : ((k : Int) == 8) = false := by simp; omega
    obtain ⟨e1, e2, e3, e4, e5⟩ := nat_none h
    unfold natV
    rw [e1, e2, e3, e4, e5]
    clear h e1 e2 e3 e4 e5
    go_enter Tryz.func108, Tryz.ntmps108
    go_wp2_with fail
    refine bodyPost_ret (by simp [results, Tryz.results108, go_sem]; try rfl) rfl ?_
    exact ⟨rfl, HB.out _ _ _ _ _ _⟩
  all_goals
    go_enter Tryz.func108, Tryz.ntmps108
    go_wp2_with fail
    refine bodyPost_ret (by simp [results, Tryz.results108, go_sem]; try rfl) rfl ?_
    exact ⟨rfl, HB.out _ _ _ _ _ _⟩

@[go_sem] theorem run_fieldL (a b c d e : Value) (w : World) : Sem.run Tryz.prog (Instr.field 166 (.agg #[a, b, c, d, e]) 0) w = .ok a w := by kernel_rfl
@[go_sem] theorem run_fieldU (a b c d e : Value) (w : World) : Sem.run Tryz.prog (Instr.field 166 (.agg #[a, b, c, d, e]) 1) w = .ok b w := by kernel_rfl
/-- the kind of a letter; 0: none -/
def ofK (c : Nat) : Nat := if c = 82 then 1 else if c = 76 then 2 else if c = 67 then 3 else if c = 73 then 4 else if c = 86 then 5 else if c = 71 then 6 else if c = 69 then 7 else if c = 80 then 8 else 0
theorem of_ltr {k : Nat} (h1 : 1 ≤ k) (h8 : k ≤ 8) : ofK (ltr k) = k := by
  rcases (show k = 1 ∨ k = 2 ∨ k = 3 ∨ k = 4 ∨ k = 5 ∨ k = 6 ∨ k = 7 ∨ k = 8 from by omega) with rfl | rfl | rfl | rfl | rfl | rfl | rfl | rfl <;> rfl
theorem of_none {c : Nat} (h : ∀ j, 1 ≤ j → j < 9 → ltr j ≠ c) : ofK c = 0 := by
  have h1 : 82 ≠ c := h 1 (by omega) (by omega)
  have h2 : 76 ≠ c := h 2 (by omega) (by omega)
  have h3 : 67 ≠ c := h 3 (by omega) (by omega)
  have h4 : 73 ≠ c := h 4 (by omega) (by omega)
  have h5 : 86 ≠ c := h 5 (by omega) (by omega)
  have h6 : 71 ≠ c := h 6 (by omega) (by omega)
  have h7 : 69 ≠ c := h 7 (by omega) (by omega)
  have h8 : 80 ≠ c := h 8 (by omega) (by omega)
  unfold ofK
  rw [if_neg (Ne.symm h1), if_neg (Ne.symm h2), if_neg (Ne.symm h3), if_neg (Ne.symm h4), if_neg (Ne.symm h5), if_neg (Ne.symm h6), if_neg (Ne.symm h7), if_neg (Ne.symm h8)]
theorem ltr_lt (k : Nat) : ltr k < 256 := by unfold ltr; split <;> omega
set_option maxRecDepth 100000 in
theorem kof_any (c : Nat) (w : World) (hc : c < 256) :
    Calls Tryz.prog 153 #[.int .u8 (c : Int)] w fun e w' => e = .returned (.tuple #[.int .u8 (ofK c : Nat), .bool (ofK c != 0)]) ∧ Below w.heap.size w w' := by
  go_enter Tryz.func153, Tryz.ntmps153
  go_wp2_with fail
  go_loopw [4] (fun kv wr => ∃ k : Nat, kv = .int .u8 k ∧ 1 ≤ k ∧ k ≤ 9 ∧ (∀ j, 1 ≤ j → j < k → ltr j ≠ c) ∧ Below w.heap.size w wr) (fun kv _ => 9 - (intOf kv).toNat)
  case atStart => exact ⟨1, rfl, by omega, by omega, fun j h1 h2 => absurd h2 (by omega), Below.refl _ _⟩
  case round =>
    obtain ⟨k, rfl, hk1, hk9, hno, hbel⟩ := hrel
    have HN : Hid (∀ j, 1 ≤ j → j < k → ltr j ≠ c) := hno
    have HB : Hid (Below w.heap.size w wr) := hbel
    clear hno hbel
    by_cases hk : k ≤ 8
    · have hl := ltr_lt k
      by_cases he : ltr k = c
      · have he2 : (((ltr k : Nat) : Int) == (c : Int)) = true := by rw [he]; simp
        go_wp2_with (first | (go_at_call 108; (with_reducible refine (nature_any k _).mono ?_); rintro e w' ⟨rfl, hb⟩; (have HB2 : Hid (Below wr.heap.size wr w') := hb); clear hb; unfold natV))
        go_ret2
        have h3 : ofK c = k := by rw [← he]; exact of_ltr hk1 hk
        refine ⟨?_, HB.out.trans (HB2.out.mono HB.out.size)⟩
        rw [h3, show (k != 0) = true from by simp; omega]
        rfl
      · have he2 : (((ltr k : Nat) : Int) == (c : Int)) = false := by simp; omega
        have hw : IntKind.u8.wrap ((k : Int) + 1) = ((k + 1 : Nat) : Int) := by rw [IntKind.wrap_u8]; omega
        go_wp2_with (first | (go_at_call 108; (with_reducible refine (nature_any k _).mono ?_); rintro e w' ⟨rfl, hb⟩; (have HB2 : Hid (Below wr.heap.size wr w') := hb); clear hb; unfold natV))
        go_roundw
        case rel =>
          refine ⟨k + 1, by go_num, by omega, by omega, fun j h1 h2 => ?_, HB.out.trans (HB2.out.mono HB.out.size)⟩
          rcases Nat.lt_succ_iff_lt_or_eq.1 h2 with h | rfl
          · exact HN.out j h1 h
          · exact he
        case measure => simp [intOf]; omega
    · have e : k = 9 := by omega
      subst e
      have h0 := of_none HN.out
      have H0 : Hid (ofK c = 0) := h0
      clear h0
      go_wp2_with fail
      go_ret2
      exact ⟨by rw [H0.out]; rfl, HB.out⟩
end Go.Proofs.YtmpkcioeodlbcaaGreatDoor
namespace Go.Proofs.YtmpkcioeodlbcaaGreatDoor
open Fl RowKit
set_option linter.unusedVariables false
theorem ext_size {s : ByteArray} (h : 1 ≤ s.size) : (s.extract 1 s.size).size = s.size - 1 := by simp
theorem ext_byt {s : ByteArray} {i : Nat} (h : i < s.size - 1) : byt (s.extract 1 s.size) i = byt s (i + 1) := by
  have h1 : i < (s.extract 1 s.size).size := by simp; omega
  have h2 : i + 1 < s.size := by omega
  rw [← byt_get h1, ← byt_get h2, ByteArray.getElem_extract]
  congr 2
  omega
theorem ext_plF {s : ByteArray} (h : 1 ≤ s.size) : plF (s.extract 1 s.size) 0 = plF s 1 := by
  rw [Bool.eq_iff_iff]
  unfold plF
  rw [decide_eq_true_iff, decide_eq_true_iff]
  constructor
  · intro q i hi h1
    have := q (i - 1) (by rw [ext_size h]; omega) (Nat.zero_le _)
    rwa [ext_byt (by omega), Nat.sub_add_cancel h1] at this
  · intro q i hi _
    rw [ext_size h] at hi
    rw [ext_byt hi]
    exact q (i + 1) (by omega) (by omega)
/-- the kind of which a text is a name; 0: none -/
def nmK (s : ByteArray) : Nat := if (2 ≤ s.size ∧ s.size ≤ 16) ∧ plF s 1 = true then ofK (byt s 0) else 0
theorem nm_out {s : ByteArray} (h : ¬ (2 ≤ s.size ∧ s.size ≤ 16)) : nmK s = 0 := if_neg (fun q => h q.1)
theorem nm_in {s : ByteArray} (h1 : 2 ≤ s.size) (h2 : s.size ≤ 16) (h : plF s 1 = true) : nmK s = ofK (byt s 0) := if_pos ⟨⟨h1, h2⟩, h⟩
theorem ndx {s : ByteArray} (h1 : 1 ≤ s.size) (h2 : s.size ≤ 16) : ndF (s.extract 1 s.size) = (decide (2 ≤ s.size) && plF s 1) := by
  unfold ndF
  rw [ext_plF h1, ext_size h1]
  congr 1
  rw [decide_eq_decide]; omega
set_option maxRecDepth 100000 in
theorem name_any (s : ByteArray) (w : World) (hs : s.size ≤ 140737488351232) :
    Calls Tryz.prog 155 #[.string s] w fun e w' => e = .returned (.tuple #[.int .u8 (nmK s : Nat), .bool (nmK s != 0)]) ∧ Below w.heap.size w w' := by
  rcases (show s.size = 0 ∨ 16 < s.size ∨ (1 ≤ s.size ∧ s.size ≤ 16) from by omega) with h | h | h
  · rw [nm_out (by omega)]
    go_enter Tryz.func155, Tryz.ntmps155
    go_wp2_with fail
    go_ret2
    exact ⟨rfl, Below.refl _ _⟩
  · rw [nm_out (by omega)]
    have h0 : ((s.size : Int) == 0) = false := by rw [beq_eq_false_iff_ne]; omega
    go_enter Tryz.func155, Tryz.ntmps155
    go_wp2_with fail
    go_ret2
    exact ⟨rfl, Below.refl _ _⟩
  · obtain ⟨h1, h2⟩ := h
    have h0 : ((s.size : Int) == 0) = false := by rw [beq_eq_false_iff_ne]; omega
    have hpos : 0 < s.size := h1
    have hg := byt_get hpos
    have hlt := byt_lt s 0
    have hx := ndx h1 h2
    have hxs : (s.extract 1 s.size).size ≤ 140737488351232 := by rw [ext_size h1]; omega
    obtain ⟨c, hc⟩ : ∃ c, c = byt s 0 := ⟨_, rfl⟩
    rw [← hc] at hg hlt
    have HC : Hid (c = byt s 0) := hc
    clear hc
    cases hk : (ofK c != 0)
    · have hn : nmK s = 0 := by
        have hc0 : ofK c = 0 := by simpa using hk
        unfold nmK; split
        · rw [← HC.out]; exact hc0
        · rfl
      rw [hn]
      clear hn hx hxs
      go_enter Tryz.func155, Tryz.ntmps155
      go_wp2_with (first
        | (go_at_call 153; (try rw [hg]); (with_reducible refine (kof_any c _ hlt).mono ?_); rintro e w' ⟨rfl, hb⟩; (have HB : Hid (Below w.heap.size w w') := hb); clear hb; rw [hk]))
      go_ret2
      exact ⟨rfl, HB.out⟩
    · cases hd : ndF (s.extract 1 s.size)
      · have hn : nmK s = 0 := by
          rw [hx] at hd
          unfold nmK; split
          · next q => rw [q.2] at hd; simp at hd; omega
          · rfl
        rw [hn]
        clear hn hx
        go_enter Tryz.func155, Tryz.ntmps155
        go_wp2_with (first
          | (go_at_call 153; (try rw [hg]); (with_reducible refine (kof_any c _ hlt).mono ?_); rintro e w' ⟨rfl, hb⟩; (have HB : Hid (Below w.heap.size w w') := hb); clear hb; rw [hk])
          | (go_at_call 156; (with_reducible refine (node_any _ _ hxs).mono ?_); rintro e w2 ⟨rfl, hb⟩; (have HB2 : Hid (Below w'.heap.size w' w2) := hb); clear hb; rw [hd]))
        go_ret2
        exact ⟨rfl, HB.out.trans (HB2.out.mono HB.out.size)⟩
      · have hn : nmK s = ofK c := by
          rw [hx] at hd
          simp at hd
          rw [HC.out]
          exact nm_in hd.1 h2 hd.2
        rw [hn, hk]
        clear hn hx
        go_enter Tryz.func155, Tryz.ntmps155
        go_wp2_with (first
          | (go_at_call 153; (try rw [hg]); (with_reducible refine (kof_any c _ hlt).mono ?_); rintro e w' ⟨rfl, hb⟩; (have HB : Hid (Below w.heap.size w w') := hb); clear hb; rw [hk])
          | (go_at_call 156; (with_reducible refine (node_any _ _ hxs).mono ?_); rintro e w2 ⟨rfl, hb⟩; (have HB2 : Hid (Below w'.heap.size w' w2) := hb); clear hb; rw [hd]))
        go_ret2
        exact ⟨rfl, HB.out.trans (HB2.out.mono HB.out.size)⟩
end Go.Proofs.YtmpkcioeodlbcaaGreatDoor
namespace Go.Proofs.YtmpkcioeodlbcaaGreatDoor
open Fl RowKit
set_option linter.unusedVariables false
theorem al_size (w : World) (o : Obj) : (w.alloc o).heap.size = w.heap.size + 1 := by simp
/-- the document's row of a kind -/
def rk (k : Nat) : Nat := if ltr k = 0 then 0 else k
end Go.Proofs.YtmpkcioeodlbcaaGreatDoor
namespace Go.Proofs.YtmpkcioeodlbcaaGreatDoor
open Fl RowKit
set_option linter.unusedVariables false
/-- an element -/
structure Elm where
  k : Nat
  n : ByteArray
  a : ByteArray
  b : ByteArray
  c : ByteArray
  d : ByteArray
  v : Nat
  ph : Int
def elV (x : Elm) : Value := .agg #[.int .u8 (x.k : Int), .string x.n, .string x.a, .string x.b, .string x.c, .string x.d, .float .f64 x.v, .int .i64 x.ph]
structure Elm.ok (x : Elm) : Prop where
  k : x.k < 256
  n : x.n.size ≤ 140737488351232
  a : x.a.size ≤ 140737488351232
  b : x.b.size ≤ 140737488351232
  c : x.c.size ≤ 140737488351232
  d : x.d.size ≤ 140737488351232
  v : x.v < 18446744073709551616
/-- the element's cells, its nature's cells -/
def elA (x : Elm) : Array Value := #[.int .u8 (x.k : Int), .string x.n, .string x.a, .string x.b, .string x.c, .string x.d, .float .f64 x.v, .int .i64 x.ph]
def ntA (k : Nat) : Array Value := #[.int .u8 (ltr k : Nat), .string (unS k), .bool (abv k), .bool (phs k), .bool (fou k)]
/-- an element that lies in memory -/
structure EC (w W : World) (p : Nat) (x : Elm) : Prop where
  bel : Below w.heap.size w W
  e : W.heap[p]? = some (.cells (elA x) 96 (0, 0))
theorem EC.lt {w W : World} {p : Nat} {x : Elm} (h : EC w W p x) : p < W.heap.size := (Array.getElem?_eq_some_iff.1 h.e).1
theorem EC.below {w W W' : World} {p : Nat} {x : Elm} (h : EC w W p x) (hb : Below W.heap.size W W') : EC w W' p x :=
  ⟨h.bel.trans (hb.mono h.bel.size), by rw [hb.block p h.lt]; exact h.e⟩
theorem EC.al {w W : World} {p : Nat} {x : Elm} (h : EC w W p x) (o : Obj) : EC w (W.alloc o) p x := h.below ((Below.refl _ _).alloc (Nat.le_refl _) o)
theorem EC.f {w W : World} {p : Nat} {x : Elm} (h : EC w W p x) : p < W.heap.size ∧ W.cell? ⟨p, 0, none⟩ = some (.int .u8 (x.k : Int)) ∧ W.cell? ⟨p, 1, none⟩ = some (.string x.n) ∧ W.cell? ⟨p, 2, none⟩ = some (.string x.a) ∧ W.cell? ⟨p, 3, none⟩ = some (.string x.b) ∧ W.cell? ⟨p, 4, none⟩ = some (.string x.c) ∧ W.cell? ⟨p, 5, none⟩ = some (.string x.d) ∧ W.cell? ⟨p, 6, none⟩ = some (.float .f64 x.v) ∧ W.cell? ⟨p, 7, none⟩ = some (.int .i64 x.ph) := by
  refine ⟨h.lt, ?_, ?_, ?_, ?_, ?_, ?_, ?_, ?_⟩ <;> rw [cell_of_row W p _ _ _ (0, 0) h.e] <;> rfl
theorem ec_new (w : World) (x : Elm) : EC w (w.alloc (.cells (elA x) 96)) w.heap.size x :=
  ⟨(Below.refl _ _).alloc (Nat.le_refl _) _, heap_alloc_new w _⟩
/-- a nature that lies in memory -/
structure NC (W : World) (q : Nat) (k : Nat) : Prop where
  n : W.heap[q]? = some (.cells (ntA k) 166 (0, 0))
theorem NC.lt {W : World} {p k : Nat} (h : NC W p k) : p < W.heap.size := (Array.getElem?_eq_some_iff.1 h.n).1
theorem NC.below {W W' : World} {p k : Nat} (h : NC W p k) (hb : Below W.heap.size W W') : NC W' p k := ⟨by rw [hb.block p h.lt]; exact h.n⟩
theorem NC.f {W : World} {p k : Nat} (h : NC W p k) : p < W.heap.size ∧ W.cell? ⟨p, 0, none⟩ = some (.int .u8 (ltr k : Nat)) ∧ W.cell? ⟨p, 1, none⟩ = some (.string (unS k)) ∧ W.cell? ⟨p, 2, none⟩ = some (.bool (abv k)) ∧ W.cell? ⟨p, 3, none⟩ = some (.bool (phs k)) ∧ W.cell? ⟨p, 4, none⟩ = some (.bool (fou k)) := by
  refine ⟨h.lt, ?_, ?_, ?_, ?_, ?_⟩ <;> rw [cell_of_row W p _ _ _ (0, 0) h.n] <;> rfl
theorem nc_new (W : World) (k : Nat) : NC (W.alloc (.cells (ntA k) 166)) W.heap.size k := ⟨heap_alloc_new W _⟩
/-- has it nothing where its kind uses nothing? -/
def spF (x : Elm) : Bool := (fou x.k || (x.c.toList.isEmpty && x.d.toList.isEmpty)) && (phs x.k || x.ph == 0)
set_option maxRecDepth 100000 in
set_option maxHeartbeats 2000000 in
theorem spare_any (x : Elm) (w : World) (h : x.ok) :
    Calls Tryz.prog 110 #[elV x, natV x.k] w fun e w' => e = .returned (.bool (spF x)) ∧ Below w.heap.size w w' := by
  unfold elV natV
  have HB : Hid (∀ o1 o2, Below w.heap.size w ((w.alloc o1).alloc o2)) := fun o1 o2 => ((Below.refl _ _).alloc (Nat.le_refl _) _).alloc (by simp) _
  go_enter Tryz.func110, Tryz.ntmps110
  go_wp2_with fail
  all_goals go_ret
  all_goals refine ⟨retb ?_, HB.out _ _⟩
  all_goals simp_all [spF]
/-- has it a name of its kind, and nodes? -/
def naF (x : Elm) : Bool := (nmK x.n != 0) && (nmK x.n == x.k) && ndF x.a && ndF x.b && (!fou x.k || (ndF x.c && ndF x.d))
set_option maxRecDepth 100000 in
set_option maxHeartbeats 2000000 in
theorem named_any (x : Elm) (w : World) (h : x.ok) :
    Calls Tryz.prog 109 #[elV x, natV x.k] w fun e w' => e = .returned (.bool (naF x)) ∧ Below w.heap.size w w' := by
  unfold elV natV
  have E0 : Hid (EC w ((w.alloc (.cells (elA x) 96)).alloc (.cells (ntA x.k) 166)) w.heap.size x) := (ec_new w x).al _
  have N0 : Hid (NC ((w.alloc (.cells (elA x) 96)).alloc (.cells (ntA x.k) 166)) (w.heap.size + 1) x.k) := by have := nc_new (w.alloc (.cells (elA x) 96)) x.k; rwa [al_size] at this
  go_enter Tryz.func109, Tryz.ntmps109
  go_wp2_with (first
    | (go_at_call 155; (with_reducible refine (name_any x.n _ h.n).mono ?_); rintro e w1 ⟨rfl, hb⟩; (have E1 : Hid _ := E0.out.below hb); (have N1 : Hid _ := N0.out.below hb); (obtain ⟨l1, c10, c11, c12, c13, c14, c15, c16, c17⟩ := E1.out.f); (obtain ⟨m1, n10, n11, n12, n13, n14⟩ := N1.out.f); clear hb E0 N0)
    | (go_at_call 156; (with_reducible refine (node_any x.a _ h.a).mono ?_); rintro e w2 ⟨rfl, hb⟩; (have E2 : Hid _ := E1.out.below hb); (have N2 : Hid _ := N1.out.below hb); (obtain ⟨l2, c20, c21, c22, c23, c24, c25, c26, c27⟩ := E2.out.f); (obtain ⟨m2, n20, n21, n22, n23, n24⟩ := N2.out.f); clear hb E1 N1 c10 c11 c12 c13 c14 c15 c16 c17 n10 n11 n12 n13 n14)
    | (go_at_call 156; (with_reducible refine (node_any x.b _ h.b).mono ?_); rintro e w3 ⟨rfl, hb⟩; (have E3 : Hid _ := E2.out.below hb); (have N3 : Hid _ := N2.out.below hb); (obtain ⟨l3, c30, c31, c32, c33, c34, c35, c36, c37⟩ := E3.out.f); (obtain ⟨m3, n30, n31, n32, n33, n34⟩ := N3.out.f); clear hb E2 N2 c20 c21 c22 c23 c24 c25 c26 c27 n20 n21 n22 n23 n24)
    | (go_at_call 156; (with_reducible refine (node_any x.c _ h.c).mono ?_); rintro e w4 ⟨rfl, hb⟩; (have E4 : Hid _ := E3.out.below hb); (obtain ⟨l4, c40, c41, c42, c43, c44, c45, c46, c47⟩ := E4.out.f); clear hb E3 N3 c30 c31 c32 c33 c34 c35 c36 c37 n30 n31 n32 n33 n34)
    | (go_at_call 156; (with_reducible refine (node_any x.d _ h.d).mono ?_); rintro e w5 ⟨rfl, hb⟩; (have E5 : Hid _ := E4.out.below hb); clear hb E4 c40 c41 c42 c43 c44 c45 c46 c47))
  all_goals go_ret
  all_goals refine ⟨retb ?_, ?_⟩
  all_goals first | exact E1.out.bel | exact E2.out.bel | exact E3.out.bel | exact E4.out.bel | exact E5.out.bel | (simp_all [naF]; done) | (simp_all [naF]; omega) | (simp_all [naF]; intro _; omega)
end Go.Proofs.YtmpkcioeodlbcaaGreatDoor
namespace Go.Proofs.YtmpkcioeodlbcaaGreatDoor
open Fl RowKit
set_option linter.unusedVariables false
/-- is a real above nought? -/
def posV (v : Nat) : Bool := decide (0 < plc v)
/-- what is wrong with an element -/
def chkI (x : Elm) : Int := if ltr x.k = 0 then 2 else if naF x = false then 8 else if (x.a.toList == x.b.toList) = true ∨ spF x = false then 2 else if 2 < kdB x.v then 5 else if abv x.k = true ∧ posV x.v = false then 2 else 0
theorem kd_fin {v : Nat} (h : ¬ 2 < kdB v) : nan v = false := by
  cases hn : nan v
  · rfl
  · rw [kd_4 hn] at h; omega
theorem leq_zero {v : Nat} (h : nan v = false) : (FloatKind.f64.format.order v 0 == some .lt || FloatKind.f64.format.order v 0 == some .eq) = !posV v := by
  rw [order_lt h nan_zero, order_eqb h nan_zero, plc_zero]
  unfold posV
  rw [Bool.eq_iff_iff]; simp; omega
theorem leq_iff {v : Nat} (h : nan v = false) : posV v = false ↔ FloatKind.f64.format.order v 0 = some .lt ∨ FloatKind.f64.format.order v 0 = some .eq := by
  have := leq_zero h
  cases hp : posV v
  · rw [hp] at this; simpa using this
  · rw [hp] at this; simpa using this
theorem named_w (x : Elm) (w : World) (h : x.ok) :
    Calls Tryz.prog 109 #[.agg #[.int .u8 (x.k : Int), .string x.n, .string x.a, .string x.b, .string x.c, .string x.d, .float .f64 x.v, .int .i64 x.ph], .agg #[.int .u8 (ltr x.k : Nat), .string (unS x.k), .bool (abv x.k), .bool (phs x.k), .bool (fou x.k)]] w fun e w' => e = .returned (.bool (naF x)) ∧ Below w.heap.size w w' := named_any x w h
theorem spare_w (x : Elm) (w : World) (h : x.ok) :
    Calls Tryz.prog 110 #[.agg #[.int .u8 (x.k : Int), .string x.n, .string x.a, .string x.b, .string x.c, .string x.d, .float .f64 x.v, .int .i64 x.ph], .agg #[.int .u8 (ltr x.k : Nat), .string (unS x.k), .bool (abv x.k), .bool (phs x.k), .bool (fou x.k)]] w fun e w' => e = .returned (.bool (spF x)) ∧ Below w.heap.size w w' := spare_any x w h
set_option maxRecDepth 100000 in
set_option maxHeartbeats 2000000 in
theorem check_any (x : Elm) (w : World) (h : x.ok) :
    Calls Tryz.prog 81 #[elV x] w fun e w' => e = .returned (.int .i64 (chkI x)) ∧ Below w.heap.size w w' := by
  have E0 : Hid (EC w (w.alloc (.cells (elA x) 96)) w.heap.size x) := ec_new w x
  by_cases hl : ltr x.k = 0
  · have hk0 : x.k = 0 ∨ 8 < x.k := by
      rcases (show x.k = 1 ∨ x.k = 2 ∨ x.k = 3 ∨ x.k = 4 ∨ x.k = 5 ∨ x.k = 6 ∨ x.k = 7 ∨ x.k = 8 ∨ (x.k = 0 ∨ 8 < x.k) from by omega) with q | q | q | q | q | q | q | q | q
      all_goals first | exact q | (rw [q] at hl; exact absurd hl (by decide))
    obtain ⟨e1, e2, e3, e4, e5⟩ := nat_none hk0
    have hn : natV x.k = .agg #[.int .u8 0, .string ⟨#[]⟩, .bool false, .bool false, .bool false] := by unfold natV; rw [e1, e2, e3, e4, e5]; rfl
    have hc : chkI x = 2 := by unfold chkI; rw [if_pos hl]
    rw [hc]
    have HN : Hid _ := hn
    clear e1 e2 e3 e4 e5 hk0 hn hc hl
    unfold elV
    go_enter Tryz.func81, Tryz.ntmps81
    go_wp2_with (first
      | (go_at_call 108; (with_reducible refine (nature_any x.k _).mono ?_); rintro e w1 ⟨rfl, hb⟩; (have E1 : Hid _ := E0.out.below hb); (rw [HN.out]); clear hb E0))
    go_ret
    exact ⟨rfl, (E1.out.al _).bel⟩
  · have hl2 : (((ltr x.k : Nat) : Int) == 0) = false := by rw [beq_eq_false_iff_ne]; omega
    have HL : Hid (¬ ltr x.k = 0) := hl
    clear hl
    have hkd : ∀ W, Calls Tryz.prog 111 #[.float .f64 x.v] W fun e w' => e = .returned (.int .i64 (kdB x.v)) ∧ w' = W := fun W => kind_any x.v W h.v
    have HK : Hid (∀ W, Calls Tryz.prog 111 #[.float .f64 x.v] W fun e w' => e = .returned (.int .i64 (kdB x.v)) ∧ w' = W) := hkd
    clear hkd
    have hz : ¬ 2 < kdB x.v → (posV x.v = false ↔ FloatKind.f64.format.order x.v 0 = some .lt ∨ FloatKind.f64.format.order x.v 0 = some .eq) := fun q => leq_iff (kd_fin q)
    have HZ : Hid _ := hz
    clear hz
    unfold elV
    go_enter Tryz.func81, Tryz.ntmps81
    go_wp2_with (first
      | (go_at_call 108; (with_reducible refine (nature_any x.k _).mono ?_); rintro e w1 ⟨rfl, hb⟩; (have E1 : Hid _ := (E0.out.below hb).al (.cells (ntA x.k) 166)); (have N1 : Hid _ := nc_new w1 x.k); (obtain ⟨l1, c10, c11, c12, c13, c14, c15, c16, c17⟩ := (E0.out.below hb).f); unfold natV; clear hb E0)
      | (go_at_call 109; (with_reducible refine (named_w x _ h).mono ?_); rintro e w2 ⟨rfl, hb⟩; (have E2 : Hid _ := E1.out.below hb); (have N2 : Hid _ := N1.out.below hb); (obtain ⟨l2, c20, c21, c22, c23, c24, c25, c26, c27⟩ := E2.out.f); (obtain ⟨m2, n20, n21, n22, n23, n24⟩ := N2.out.f); clear hb E1 N1 c10 c11 c12 c13 c14 c15 c16 c17)
      | (go_at_call 110; (with_reducible refine (spare_w x _ h).mono ?_); rintro e w3 ⟨rfl, hb⟩; (have E3 : Hid _ := E2.out.below hb); (have N3 : Hid _ := N2.out.below hb); (obtain ⟨l3, c30, c31, c32, c33, c34, c35, c36, c37⟩ := E3.out.f); (obtain ⟨m3, n30, n31, n32, n33, n34⟩ := N3.out.f); clear hb E2 N2 c20 c21 c22 c23 c24 c25 c26 c27 n20 n21 n22 n23 n24)
      | (go_at_call 111; (with_reducible refine (HK.out _).mono ?_); rintro e w4 ⟨rfl, rfl⟩))
    all_goals go_ret
    all_goals refine ⟨ret1 ?_, ?_⟩
    all_goals (have hl := HL.out)
    all_goals first | exact E2.out.bel | exact E3.out.bel | (unfold chkI; have hz := HZ.out; clear HL HZ HK; simp_all; done) | (unfold chkI; have hz := HZ.out; clear HL HZ HK; (repeat' split) <;> simp_all <;> omega)
end Go.Proofs.YtmpkcioeodlbcaaGreatDoor
namespace Go.Proofs.YtmpkcioeodlbcaaGreatDoor
open Fl RowKit
set_option linter.unusedVariables false
def rwA (k : Nat) : Array Value := #[.int .u8 ((rk k : Nat) : Int), .int .u8 (ltr k : Nat), .string (unS k), .bool (abv k), .bool (phs k), .bool (fou k)]
/-- a row of the table that lies in memory -/
structure RC (W : World) (q : Nat) (k : Nat) : Prop where
  n : W.heap[q]? = some (.cells (rwA k) 173 (0, 0))
theorem RC.lt {W : World} {p k : Nat} (h : RC W p k) : p < W.heap.size := (Array.getElem?_eq_some_iff.1 h.n).1
theorem RC.below {W W' : World} {p k : Nat} (h : RC W p k) (hb : Below W.heap.size W W') : RC W' p k := ⟨by rw [hb.block p h.lt]; exact h.n⟩
theorem RC.f {W : World} {p k : Nat} (h : RC W p k) : p < W.heap.size ∧ W.cell? ⟨p, 3, none⟩ = some (.bool (abv k)) ∧ W.cell? ⟨p, 4, none⟩ = some (.bool (phs k)) ∧ W.cell? ⟨p, 5, none⟩ = some (.bool (fou k)) := by
  refine ⟨h.lt, ?_, ?_, ?_⟩ <;> rw [cell_of_row W p _ _ _ (0, 0) h.n] <;> rfl
end Go.Proofs.YtmpkcioeodlbcaaGreatDoor
namespace Go.Proofs.YtmpkcioeodlbcaaGreatDoor
open Fl RowKit
set_option linter.unusedVariables false
/-- what is wrong with a frequency -/
def frI (o : Nat) : Int := if finB o = false then 5 else if posV o = false then 2 else 0
/-- what is wrong with a frequency or an element -/
def ckA (x : Elm) (o : Nat) : Int := if frI o = 0 then chkI x else frI o
def mW (o v : Nat) : Nat := (mulO o v).getD 0
def dW (p : Nat) : Nat := (divO 4607182418800017408 p).getD 0
abbrev Tr3 := Nat × Nat × Int
def toA (a b : Nat) : Tr3 := if (finB a && finB b) = true then (a, b, 0) else (0, 0, 6)
def prA (o v : Nat) : Tr3 := toA 0 (mW o v)
def ovA (o v : Nat) : Tr3 := if finB (mW o v) = true then toA 0 (ngW (dW (mW o v))) else (0, 0, 6)
def ofT (x : Elm) (o : Nat) : Tr3 := if ckA x o = 0 then (if x.k = 1 ∨ x.k = 8 then toA (dW x.v) 0 else if x.k = 3 then prA o x.v else if x.k = 2 then ovA o x.v else (0, 0, 2)) else (0, 0, ckA x o)
def tV (t : Tr3) : Value := .tuple #[.complex .f64 t.1 t.2.1, .int .i64 t.2.2]
theorem finB_iff {x : Nat} : finB x = true ↔ fin x := by unfold finB Fl.fin; simp
theorem fr_zero {o : Nat} (h : frI o = 0) : fin o ∧ posV o = true := by
  unfold frI at h
  by_cases h1 : finB o = false
  · rw [if_pos h1] at h; omega
  · rw [if_neg h1] at h
    by_cases h2 : posV o = false
    · rw [if_pos h2] at h; omega
    · exact ⟨finB_iff.1 (by simpa using h1), by simpa using h2⟩
theorem kd_fin2 {v : Nat} (h : ¬ 2 < kdB v) : fin v := by
  have hn := kd_fin h
  unfold kdB at h
  rw [hn] at h
  have := not_nan hn
  unfold Fl.fin
  by_cases q : mg v = 9218868437227405312
  · rw [if_neg (by simp), if_pos q] at h; omega
  · omega
theorem ck_zero {x : Elm} {o : Nat} (h : ckA x o = 0) : frI o = 0 ∧ chkI x = 0 := by
  unfold ckA at h
  by_cases h1 : frI o = 0
  · rw [if_pos h1] at h; exact ⟨h1, h⟩
  · rw [if_neg h1] at h; exact absurd h h1
theorem chk_zero {x : Elm} (h : chkI x = 0) : fin x.v ∧ (abv x.k = true → posV x.v = true) := by
  unfold chkI at h
  by_cases h1 : ltr x.k = 0
  · rw [if_pos h1] at h; omega
  · rw [if_neg h1] at h
    by_cases h2 : naF x = false
    · rw [if_pos h2] at h; omega
    · rw [if_neg h2] at h
      by_cases h3 : (x.a.toList == x.b.toList) = true ∨ spF x = false
      · rw [if_pos h3] at h; omega
      · rw [if_neg h3] at h
        by_cases h4 : 2 < kdB x.v
        · rw [if_pos h4] at h; omega
        · rw [if_neg h4] at h
          refine ⟨kd_fin2 h4, fun ha => ?_⟩
          by_cases h5 : abv x.k = true ∧ posV x.v = false
          · rw [if_pos h5] at h; omega
          · cases hp : posV x.v
            · exact absurd ⟨ha, hp⟩ h5
            · rfl
/-- products of finite numbers are told, and have no NaN -/
theorem mul_some {o v : Nat} (ho : fin o) (hv : fin v) : mulO o v = some (mW o v) := by
  unfold mW; rw [mul_gen ho hv]; rfl
theorem div_some {p : Nat} (hn : nan p = false) : ∃ q, divO 4607182418800017408 p = some q := by
  rcases kinds p with h | h | h
  · by_cases h0 : sig (mg p) = 0
    · have hz : mg p = 0 := by
        unfold sig at h0; split at h0 <;> omega
      unfold divO Ieee.Format.div
      rw [read_fin p h, h0]
      exact ⟨_, rfl⟩
    · exact ⟨_, div_gen (x := 4607182418800017408) (finB_iff.1 (by decide)) h h0⟩
  · unfold divO Ieee.Format.div
    rw [read_inf p h]
    exact ⟨_, rfl⟩
  · rw [hn] at h; cases h
theorem dW_some {p : Nat} (hn : nan p = false) : divO 4607182418800017408 p = some (dW p) := by
  obtain ⟨q, hq⟩ := div_some hn
  unfold dW; rw [hq]; rfl
theorem dW_bd {p : Nat} (hn : nan p = false) : dW p < 18446744073709551616 ∧ nan (dW p) = false := div_bd (dW_some hn)
theorem divV_of {x y s : Nat} (h : divO x y = some s) (W : World) : divV W x y = s := by unfold divV fV; rw [h]
theorem fN_some {o : Option Nat} {s : Nat} (h : o = some s) : fN o = 0 := by rw [h]; rfl
end Go.Proofs.YtmpkcioeodlbcaaGreatDoor
namespace Go.Proofs.YtmpkcioeodlbcaaGreatDoor
open Fl RowKit
set_option linter.unusedVariables false
theorem afin_any (x : Nat) (w : World) (hx : x < 18446744073709551616) :
    Calls Tryz.prog 283 #[.float .f64 x] w fun e w' => e = .returned (.bool (finB x)) ∧ w' = w := by
  have hk : (finB x && finB 0) = finB x := by rw [show finB 0 = true from by decide, Bool.and_true]
  have HK : Hid ((finB x && finB 0) = finB x) := hk
  clear hk
  go_enter Tryz.func283, Tryz.ntmps283
  go_wp2_with (first | (go_at_call 59; refine (fin_any x 0 _ hx (by decide)).mono ?_; rintro e w' ⟨rfl, rfl⟩))
  go_ret
  exact ⟨retb HK.out, rfl⟩
theorem fin_nan_Adb {x : Nat} (h : finB x = true) : nan x = false := fin_not_nan (finB_iff.1 h)
theorem freq_any (x : Nat) (w : World) (hx : x < 18446744073709551616) :
    Calls Tryz.prog 254 #[.float .f64 x] w fun e w' => e = .returned (.int .i64 (frI x)) ∧ w' = w := by
  cases hf : finB x
  · have hr : frI x = 5 := by unfold frI; rw [if_pos hf]
    rw [hr]
    have HF : Hid _ := hf
    clear hr hf
    go_enter Tryz.func254, Tryz.ntmps254
    go_wp2_with (first | (go_at_call 283; refine (afin_any x _ hx).mono ?_; rintro e w' ⟨rfl, rfl⟩; rw [HF.out]))
    go_ret
    exact ⟨rfl, rfl⟩
  · have hn := fin_nan_Adb hf
    cases hp : posV x
    · have hr : frI x = 2 := by unfold frI; rw [hf, hp]; rfl
      rw [hr]
      have HF : Hid _ := hf
      have h1 := (leq_iff hn).1 hp
      clear hr hf hp hn
      go_enter Tryz.func254, Tryz.ntmps254
      go_wp2_with (first | (go_at_call 283; refine (afin_any x _ hx).mono ?_; rintro e w' ⟨rfl, rfl⟩; rw [HF.out]))
      all_goals go_ret
      all_goals first | exact ⟨rfl, rfl⟩ | simp_all
    · have hr : frI x = 0 := by unfold frI; rw [hf, hp]; rfl
      rw [hr]
      have HF : Hid _ := hf
      have h1 : ¬ (FloatKind.f64.format.order x 0 = some .lt ∨ FloatKind.f64.format.order x 0 = some .eq) := fun q => by rw [(leq_iff hn).2 q] at hp; cases hp
      clear hr hf hp hn
      go_enter Tryz.func254, Tryz.ntmps254
      go_wp2_with (first | (go_at_call 283; refine (afin_any x _ hx).mono ?_; rintro e w' ⟨rfl, rfl⟩; rw [HF.out]))
      all_goals go_ret
      all_goals first | exact ⟨rfl, rfl⟩ | simp_all
theorem chk_wA (x : Elm) (w : World) (h : x.ok) : Calls Tryz.prog 81 #[.agg #[.int .u8 (x.k : Int), .string x.n, .string x.a, .string x.b, .string x.c, .string x.d, .float .f64 x.v, .int .i64 x.ph]] w fun e w' => e = .returned (.int .i64 (chkI x)) ∧ Below w.heap.size w w' := check_any x w h
theorem acheck_any (x : Elm) (o : Nat) (w : World) (h : x.ok) (ho : o < 18446744073709551616) :
    Calls Tryz.prog 231 #[elV x, .float .f64 o] w fun e w' => e = .returned (.int .i64 (ckA x o)) ∧ Below w.heap.size w w' := by
  have E0 : Hid (EC w (w.alloc (.cells (elA x) 96)) w.heap.size x) := ec_new w x
  by_cases hf : frI o = 0
  · have hr : ckA x o = chkI x := by unfold ckA; rw [if_pos hf]
    rw [hr]
    have HF : Hid _ := hf
    clear hr hf
    unfold elV
    go_enter Tryz.func231, Tryz.ntmps231
    go_wp2_with (first
      | (go_at_call 254; (with_reducible refine (freq_any o _ ho).mono ?_); rintro e w' ⟨rfl, rfl⟩; rw [HF.out]; (obtain ⟨l1, c10, c11, c12, c13, c14, c15, c16, c17⟩ := E0.out.f))
      | (go_at_call 81; (with_reducible refine (chk_wA x _ h).mono ?_); rintro e w1 ⟨rfl, hb⟩; (have E1 : Hid _ := E0.out.below hb); clear hb E0))
    go_ret
    exact ⟨rfl, E1.out.bel⟩
  · have hr : ckA x o = frI o := by unfold ckA; rw [if_neg hf]
    rw [hr]
    have hq : (frI o != 0) = true := by simp [hf]
    clear hr hf
    unfold elV
    go_enter Tryz.func231, Tryz.ntmps231
    go_wp2_with (first
      | (go_at_call 254; (with_reducible refine (freq_any o _ ho).mono ?_); rintro e w' ⟨rfl, rfl⟩))
    go_ret
    exact ⟨rfl, E0.out.bel⟩
theorem atold_any (a b : Nat) (w : World) (ha : a < 18446744073709551616) (hb : b < 18446744073709551616) :
    Calls Tryz.prog 232 #[.complex .f64 a b] w fun e w' => e = .returned (tV (toA a b)) ∧ w' = w := by
  unfold tV toA
  cases hf : (finB a && finB b)
  all_goals
    have HF : Hid _ := hf
    clear hf
    go_enter Tryz.func232, Tryz.ntmps232
    go_wp2_with (first
      | (go_at_call 59; (with_reducible refine (fin_any a b _ ha hb).mono ?_); rintro e w' ⟨rfl, rfl⟩; rw [HF.out]))
    go_ret2
    exact ⟨rfl, rfl⟩
theorem product_any (x : Elm) (o : Nat) (w : World) (ho : fin o) (hv : fin x.v) :
    Calls Tryz.prog 233 #[elV x, .float .f64 o] w fun e w' => e = .returned (tV (prA o x.v)) ∧ Below w.heap.size w w' := by
  have E0 : Hid (EC w (w.alloc (.cells (elA x) 96)) w.heap.size x) := ec_new w x
  have hm := mul_some ho hv
  have mv := mulV_of hm
  have mn := fN_some hm
  have hb := (mul_bd hm).1
  have HB : Hid _ := hb
  clear hm hb
  unfold prA
  unfold elV
  go_enter Tryz.func233, Tryz.ntmps233
  go_wp2_with (first
    | (go_at_call 232; (with_reducible refine (atold_any 0 (mW o x.v) _ (by decide) HB.out).mono ?_); rintro e w' ⟨rfl, rfl⟩; unfold tV))
  go_ret2
  exact ⟨rfl, E0.out.bel⟩
end Go.Proofs.YtmpkcioeodlbcaaGreatDoor
namespace Go.Proofs.YtmpkcioeodlbcaaGreatDoor
open Fl RowKit
set_option linter.unusedVariables false
theorem product_w (x : Elm) (o : Nat) (w : World) (ho : fin o) (hv : fin x.v) (u : Tr3) (hu : prA o x.v = u) :
    Calls Tryz.prog 233 #[.agg #[.int .u8 (x.k : Int), .string x.n, .string x.a, .string x.b, .string x.c, .string x.d, .float .f64 x.v, .int .i64 x.ph], .float .f64 o] w fun e w' => e = .returned (.tuple #[.complex .f64 u.1 u.2.1, .int .i64 u.2.2]) ∧ Below w.heap.size w w' := by subst hu; exact product_any x o w ho hv
theorem prA_ok {o v : Nat} (h : finB (mW o v) = true) : prA o v = (0, mW o v, 0) := by unfold prA toA; rw [h]; rfl
theorem prA_no {o v : Nat} (h : finB (mW o v) = false) : prA o v = (0, 0, 6) := by unfold prA toA; rw [h]; rfl
theorem neg_ngW_Adc {q : Nat} (h : q < 18446744073709551616) : Op.negFloat .f64 q = ngW q := by
  unfold ngW
  split
  · exact neg_of_pos ‹_›
  · exact neg_of_neg (by omega) h
theorem mW_nan {o v : Nat} (ho : fin o) (hv : fin v) : nan (mW o v) = false := (mul_bd (mul_some ho hv)).2
theorem aover_any (x : Elm) (o : Nat) (w : World) (ho : fin o) (hv : fin x.v) :
    Calls Tryz.prog 234 #[elV x, .float .f64 o] w fun e w' => e = .returned (tV (ovA o x.v)) ∧ Below w.heap.size w w' := by
  have E0 : Hid (EC w (w.alloc (.cells (elA x) 96)) w.heap.size x) := ec_new w x
  obtain ⟨l1, c10, c11, c12, c13, c14, c15, c16, c17⟩ := E0.out.f
  cases hf : finB (mW o x.v)
  · have HP : Hid _ := fun W => product_w x o W ho hv (0, 0, 6) (prA_no hf)
    have hr : ovA o x.v = (0, 0, 6) := by unfold ovA; rw [hf]; rfl
    rw [hr]
    clear hr hf
    unfold tV elV
    go_enter Tryz.func234, Tryz.ntmps234
    go_wp2_with (first
      | (go_at_call 233; (with_reducible refine (HP.out _).mono ?_); rintro e w1 ⟨rfl, hb⟩; (have E1 : Hid _ := E0.out.below hb); clear hb E0))
    go_ret2
    exact ⟨rfl, E1.out.bel⟩
  · have HP : Hid _ := fun W => product_w x o W ho hv (0, mW o x.v, 0) (prA_ok hf)
    have hr : ovA o x.v = toA 0 (ngW (dW (mW o x.v))) := by unfold ovA; rw [hf]; rfl
    rw [hr]
    have hn := mW_nan ho hv
    have hd := dW_some hn
    have hb := dW_bd hn
    have mv := divV_of hd
    have mn := fN_some hd
    have hng := neg_ngW_Adc hb.1
    have HB : Hid _ := ngW_lt hb.1
    clear hr hf hn hd hb
    unfold elV
    go_enter Tryz.func234, Tryz.ntmps234
    go_wp2_with (first
      | (go_at_call 233; (with_reducible refine (HP.out _).mono ?_); rintro e w1 ⟨rfl, hb⟩; (have E1 : Hid _ := E0.out.below hb); clear hb E0)
      | (go_at_call 232; (with_reducible refine (atold_any 0 (ngW (dW (mW o x.v))) _ (by decide) HB.out).mono ?_); rintro e w' ⟨rfl, rfl⟩; unfold tV))
    go_ret2
    exact ⟨rfl, E1.out.bel⟩
theorem acheck_w (x : Elm) (o : Nat) (w : World) (h : x.ok) (ho : o < 18446744073709551616) (u : Int) (hu : ckA x o = u) :
    Calls Tryz.prog 231 #[.agg #[.int .u8 (x.k : Int), .string x.n, .string x.a, .string x.b, .string x.c, .string x.d, .float .f64 x.v, .int .i64 x.ph], .float .f64 o] w fun e w' => e = .returned (.int .i64 u) ∧ Below w.heap.size w w' := by subst hu; exact acheck_any x o w h ho
theorem over_w (x : Elm) (o : Nat) (w : World) (ho : fin o) (hv : fin x.v) :
    Calls Tryz.prog 234 #[.agg #[.int .u8 (x.k : Int), .string x.n, .string x.a, .string x.b, .string x.c, .string x.d, .float .f64 x.v, .int .i64 x.ph], .float .f64 o] w fun e w' => e = .returned (.tuple #[.complex .f64 (ovA o x.v).1 (ovA o x.v).2.1, .int .i64 (ovA o x.v).2.2]) ∧ Below w.heap.size w w' := aover_any x o w ho hv
/-- the kinds -/
theorem kinds4 (k : Nat) : (k = 1 ∨ k = 8) ∨ k = 3 ∨ k = 2 ∨ (¬ k = 1 ∧ ¬ k = 8 ∧ ¬ k = 3 ∧ ¬ k = 2) := by omega
set_option maxRecDepth 100000 in
set_option maxHeartbeats 1000000 in
theorem aof_any (x : Elm) (o : Nat) (w : World) (h : x.ok) (ho : o < 18446744073709551616) :
    Calls Tryz.prog 207 #[elV x, .float .f64 o] w fun e w' => e = .returned (tV (ofT x o)) ∧ Below w.heap.size w w' := by
  have E0 : Hid (EC w (w.alloc (.cells (elA x) 96)) w.heap.size x) := ec_new w x
  obtain ⟨l1, c10, c11, c12, c13, c14, c15, c16, c17⟩ := E0.out.f
  by_cases hc : ckA x o = 0
  · have HC : Hid _ := fun W => acheck_w x o W h ho 0 hc
    have fo := (fr_zero (ck_zero hc).1).1
    have fv := (chk_zero (ck_zero hc).2).1
    have HFO : Hid (fin o) := fo
    have HFV : Hid (fin x.v) := fv
    have hn := fin_not_nan fv
    have hd := dW_some hn
    have mv := divV_of hd
    have mn := fN_some hd
    have HDB : Hid _ := (dW_bd hn).1
    have hr : ofT x o = if x.k = 1 ∨ x.k = 8 then toA (dW x.v) 0 else if x.k = 3 then prA o x.v else if x.k = 2 then ovA o x.v else (0, 0, 2) := by unfold ofT; rw [if_pos hc]
    rw [hr]
    clear hr hc fo fv hn hd
    rcases kinds4 x.k with hk | hk | hk | ⟨k1, k8, k3, k2⟩
    · rw [if_pos hk]
      have hb : ((x.k : Int) == 1) = true ∨ (((x.k : Int) == 1) = false ∧ ((x.k : Int) == 8) = true) := by
        rcases hk with hk | hk
        · left; rw [hk]; rfl
        · right; rw [hk]; exact ⟨rfl, rfl⟩
      clear hk
      unfold elV
      rcases hb with hb | ⟨hb, hb2⟩
      all_goals
        go_enter Tryz.func207, Tryz.ntmps207
        go_wp2_with (first
          | (go_at_call 231; (with_reducible refine (HC.out _).mono ?_); rintro e w1 ⟨rfl, hb⟩; (have E1 : Hid _ := E0.out.below hb); (obtain ⟨l1, c10, c11, c12, c13, c14, c15, c16, c17⟩ := E1.out.f); clear hb E0)
          | (go_at_call 232; (with_reducible refine (atold_any (dW x.v) 0 _ HDB.out (by decide)).mono ?_); rintro e w' ⟨rfl, rfl⟩; unfold tV))
        go_ret2
        exact ⟨rfl, E1.out.bel⟩
    · rw [if_neg (by omega), if_pos hk]
      have hb1 : ((x.k : Int) == 1) = false := by rw [hk]; rfl
      have hb2 : ((x.k : Int) == 8) = false := by rw [hk]; rfl
      have hb3 : ((x.k : Int) == 3) = true := by rw [hk]; rfl
      clear hk
      unfold elV
      go_enter Tryz.func207, Tryz.ntmps207
      go_wp2_with (first
        | (go_at_call 231; (with_reducible refine (HC.out _).mono ?_); rintro e w1 ⟨rfl, hb⟩; (have E1 : Hid _ := E0.out.below hb); (obtain ⟨l1, c10, c11, c12, c13, c14, c15, c16, c17⟩ := E1.out.f); clear hb E0)
        | (go_at_call 233; (with_reducible refine (product_w x o _ HFO.out HFV.out _ rfl).mono ?_); rintro e w' ⟨rfl, hb⟩; (have E2 : Hid _ := E1.out.below hb); clear hb E1))
      go_ret2
      exact ⟨rfl, E2.out.bel⟩
    · rw [if_neg (by omega), if_neg (by omega), if_pos hk]
      have hb1 : ((x.k : Int) == 1) = false := by rw [hk]; rfl
      have hb2 : ((x.k : Int) == 8) = false := by rw [hk]; rfl
      have hb3 : ((x.k : Int) == 3) = false := by rw [hk]; rfl
      have hb4 : ((x.k : Int) == 2) = true := by rw [hk]; rfl
      clear hk
      unfold elV
      go_enter Tryz.func207, Tryz.ntmps207
      go_wp2_with (first
        | (go_at_call 231; (with_reducible refine (HC.out _).mono ?_); rintro e w1 ⟨rfl, hb⟩; (have E1 : Hid _ := E0.out.below hb); (obtain ⟨l1, c10, c11, c12, c13, c14, c15, c16, c17⟩ := E1.out.f); clear hb E0)
        | (go_at_call 234; (with_reducible refine (over_w x o _ HFO.out HFV.out).mono ?_); rintro e w' ⟨rfl, hb⟩; (have E2 : Hid _ := E1.out.below hb); clear hb E1))
      go_ret2
      exact ⟨rfl, E2.out.bel⟩
    · rw [if_neg (by omega), if_neg k3, if_neg k2]
      have hb1 : ((x.k : Int) == 1) = false := by rw [beq_eq_false_iff_ne]; omega
      have hb2 : ((x.k : Int) == 8) = false := by rw [beq_eq_false_iff_ne]; omega
      have hb3 : ((x.k : Int) == 3) = false := by rw [beq_eq_false_iff_ne]; omega
      have hb4 : ((x.k : Int) == 2) = false := by rw [beq_eq_false_iff_ne]; omega
      clear k1 k8 k3 k2
      unfold elV
      go_enter Tryz.func207, Tryz.ntmps207
      go_wp2_with (first
        | (go_at_call 231; (with_reducible refine (HC.out _).mono ?_); rintro e w1 ⟨rfl, hb⟩; (have E1 : Hid _ := E0.out.below hb); (obtain ⟨l1, c10, c11, c12, c13, c14, c15, c16, c17⟩ := E1.out.f); clear hb E0))
      go_ret2
      exact ⟨rfl, E1.out.bel⟩
  · have HC : Hid _ := fun W => acheck_w x o W h ho _ rfl
    have hr : ofT x o = (0, 0, ckA x o) := by unfold ofT; rw [if_neg hc]
    rw [hr]
    have hq : (ckA x o != 0) = true := by simp [hc]
    clear hr hc
    unfold elV
    go_enter Tryz.func207, Tryz.ntmps207
    go_wp2_with (first
      | (go_at_call 231; (with_reducible refine (HC.out _).mono ?_); rintro e w1 ⟨rfl, hb⟩; (have E1 : Hid _ := E0.out.below hb); clear hb E0))
    go_ret2
    exact ⟨rfl, E1.out.bel⟩
end Go.Proofs.YtmpkcioeodlbcaaGreatDoor
namespace Go.Proofs.YtmpkcioeodlbcaaGreatDoor
open Fl RowKit
set_option linter.unusedVariables false
theorem aof_w (x : Elm) (o : Nat) (w : World) (h : x.ok) (ho : o < 18446744073709551616) (u : Tr3) (hu : ofT x o = u) :
    Calls Tryz.prog 207 #[.agg #[.int .u8 (x.k : Int), .string x.n, .string x.a, .string x.b, .string x.c, .string x.d, .float .f64 x.v, .int .i64 x.ph], .float .f64 o] w fun e w' => e = .returned (.tuple #[.complex .f64 u.1 u.2.1, .int .i64 u.2.2]) ∧ Below w.heap.size w w' := by subst hu; exact aof_any x o w h ho
theorem toA_bd {a b : Nat} (ha : a < 18446744073709551616) (hb : b < 18446744073709551616) : (toA a b).1 < 18446744073709551616 ∧ (toA a b).2.1 < 18446744073709551616 := by
  unfold toA; split
  · exact ⟨ha, hb⟩
  · exact ⟨by decide, by decide⟩
theorem prA_bd {o v : Nat} (ho : fin o) (hv : fin v) : (prA o v).1 < 18446744073709551616 ∧ (prA o v).2.1 < 18446744073709551616 :=
  toA_bd (by decide) (mul_bd (mul_some ho hv)).1
theorem ovA_bd {o v : Nat} (ho : fin o) (hv : fin v) : (ovA o v).1 < 18446744073709551616 ∧ (ovA o v).2.1 < 18446744073709551616 := by
  unfold ovA; split
  · exact toA_bd (by decide) (ngW_lt (dW_bd (mW_nan ho hv)).1)
  · exact ⟨by decide, by decide⟩
theorem ofT_bd {x : Elm} {o : Nat} : (ofT x o).1 < 18446744073709551616 ∧ (ofT x o).2.1 < 18446744073709551616 := by
  unfold ofT
  by_cases hc : ckA x o = 0
  · rw [if_pos hc]
    have fo := (fr_zero (ck_zero hc).1).1
    have fv := (chk_zero (ck_zero hc).2).1
    split
    · exact toA_bd (dW_bd (fin_not_nan fv)).1 (by decide)
    · split
      · exact prA_bd fo fv
      · split
        · exact ovA_bd fo fv
        · exact ⟨by decide, by decide⟩
  · rw [if_neg hc]; exact ⟨by show 0 < _; omega, by show 0 < _; omega⟩
end Go.Proofs.YtmpkcioeodlbcaaGreatDoor
namespace Go.Proofs.YtmpkcioeodlbcaaGreatDoor
open Fl RowKit
set_option linter.unusedVariables false
theorem below_dN {m : Nat} {a b : World} (h : Below m a b) (n : Nat) : Below m a (b.drewN n) := by
  obtain ⟨h1, h2, h3, h4, h5⟩ := h
  exact ⟨h1, h2, h3, h4, h5⟩
theorem EC.dN {w W : World} {p n : Nat} {x : Elm} (h : EC w W p x) : EC w (W.drewN n) p x := ⟨below_dN h.bel n, h.e⟩
end Go.Proofs.YtmpkcioeodlbcaaGreatDoor
