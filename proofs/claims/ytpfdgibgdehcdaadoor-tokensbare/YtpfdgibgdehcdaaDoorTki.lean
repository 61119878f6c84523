/-
  Words: the text that Join makes of lists of words.
-/
import Derived.Test.YtpfdgibgdehcdaaDoorTkr
import Derived.Test.YtpfdgibgdehcdaaDoorShl
namespace Go.Proofs.YtpfdgibgdehcdaaDoor
open RowKit Joins Deep
set_option linter.unusedVariables false

/-- what is joined of words, from the place k on -/
def jnr : Nat → List Tok → List UInt8
  | _, [] => []
  | k, p :: r => (if k = 0 then [] else [32]) ++ (p.1.data.toList ++ jnr (k + 1) r)
/-- what is joined of lists of words -/
def jnL : List (List Tok) → List UInt8
  | [] => []
  | l :: r => jnr 0 l ++ (10 :: jnL r)
theorem jnr_drop {ts : List Tok} {k : Nat} {p : Tok} (h : ts[k]? = some p) : jnr k (ts.drop k) = (if k = 0 then [] else [32]) ++ (p.1.data.toList ++ jnr (k + 1) (ts.drop (k + 1))) := by
  have hl := (List.getElem?_eq_some_iff.1 h)
  rw [List.drop_eq_getElem_cons hl.1, hl.2]; rfl
theorem jnL_drop {ls : List (List Tok)} {i : Nat} {ts : List Tok} (h : ls[i]? = some ts) : jnL (ls.drop i) = jnr 0 ts ++ (10 :: jnL (ls.drop (i + 1))) := by
  have hl := (List.getElem?_eq_some_iff.1 h)
  rw [List.drop_eq_getElem_cons hl.1, hl.2]; rfl
theorem byc_app (a b : List UInt8) : Lib.byteCells (a ++ b) = Lib.byteCells a ++ Lib.byteCells b := by unfold Lib.byteCells; simp
theorem Oth.block {b : Nat} {w w' : World} (h : Lib.OthersKept 5 (some b) w w') {k : Nat} {c : Array Value} {e : TypeId} {fr : Nat × Nat} (hk : w.heap[k]? = some (.cells c e fr)) (hb : k ≠ b) (he : e ≠ 5) : w'.heap[k]? = some (.cells c e fr) :=
  h k _ hk (fun q => hb (Option.some.inj q)) (fun c' fz q => by
    simp only [Obj.cells.injEq] at q; exact he q.2.1)
theorem three_c {w : World} {B : Nat} {x y z : Value} {T : TypeId} (h : w.heap[B]? = some (.cells #[x, y, z] T (0, 0))) : w.cell? ⟨B, 0, none⟩ = some x ∧ w.cell? ⟨B, 1, none⟩ = some y ∧ w.cell? ⟨B, 2, none⟩ = some z :=
  ⟨by rw [cell_of_row w B 0 _ T (0, 0) h]; rfl, by rw [cell_of_row w B 1 _ T (0, 0) h]; rfl, by rw [cell_of_row w B 2 _ T (0, 0) h]; rfl⟩
/-- a Builder that holds the bytes D; nothing below has changed -/
structure Bld (w wr : World) (D : List UInt8) : Prop where
  is : Lib.IsBuilderF 119 5 w.heap.size w.heap.size (Lib.byteCells D) wr
  bel : Below w.heap.size w wr
theorem wbyte_any {w wr : World} {D : List UInt8} (h : Bld w wr D) (c : UInt8) (hl : D.length + 1 ≤ 140737488355328) :
    Calls Tryd.prog 67 #[.pointer (some ⟨w.heap.size, 0, none⟩), .int .u8 c.toNat] wr fun e w' => e = .returned .nilIface ∧ Bld w w' (D ++ [c]) ∧ Lib.OthersKept 5 (some w.heap.size) wr w' := by
  refine (Any.Builder_WriteByte_k sh167 shX w.heap.size w.heap.size (Lib.byteCells D) c.toNat wr h.is (by rw [Lib.byteCells_length]; exact hl) h.bel.size).mono ?_
  rintro e w' ⟨h1, h2, h3, h4⟩
  exact ⟨h1, ⟨by rw [byc_app]; exact .inr h2, h.bel.trans h3⟩, h4⟩
theorem wstr_any {w wr : World} {D : List UInt8} (h : Bld w wr D) (t : ByteArray) (hl : D.length + t.size ≤ 140737488355328) :
    Calls Tryd.prog 68 #[.pointer (some ⟨w.heap.size, 0, none⟩), .string t] wr fun e w' => e = .returned (.tuple #[.int .i64 t.size, .nilIface]) ∧ Bld w w' (D ++ t.data.toList) := by
  refine (Any.Builder_WriteString_k sh166 shX w.heap.size w.heap.size (Lib.byteCells D) t wr h.is (by rw [Lib.byteCells_length]; exact hl) h.bel.size).mono ?_
  rintro e w' ⟨h1, h2, h3, h4⟩
  exact ⟨h1, ⟨by rw [byc_app]; exact .inr h2, h.bel.trans h3⟩⟩
theorem bstr_any {w wr : World} {D : List UInt8} (h : Bld w wr D) :
    Calls Tryd.prog 69 #[.pointer (some ⟨w.heap.size, 0, none⟩)] wr fun e w' => e = .returned (.string ⟨D.toArray⟩) ∧ Below w.heap.size w w' := by
  refine (Any.Builder_String_any_k sh169 shX w.heap.size w.heap.size D wr h.is h.bel.size).mono ?_
  rintro e w' ⟨h1, h2, h3, h4⟩
  exact ⟨h1, h.bel.trans h3⟩
theorem Bld.alloc {w wr : World} {D : List UInt8} (h : Bld w wr D) (o : Obj) : Bld w (wr.alloc o) D := ⟨h.is.alloc o, h.bel.alloc h.bel.size o⟩
theorem Bld.start (w : World) : Bld w (w.alloc (.cells #[.pointer none, .slice none 0 0] 119)) [] :=
  ⟨.inl ⟨Nat.le_refl _, _, heap_alloc_new _ _, World.ownsRowF_nil _ _ _ _, by simp [Value.ownBlock]⟩, (Below.refl _ _).alloc (Nat.le_refl _) _⟩
theorem Bld.lt {w wr : World} {D : List UInt8} (h : Bld w wr D) : w.heap.size < wr.heap.size := by
  rcases h.is with h | h
  · exact h.lt
  · exact h.lt

set_option maxHeartbeats 4000000 in
set_option maxRecDepth 100000 in
theorem join_any (w : World) (v : Value) (ls : List (List Tok)) (hv : RdL w v ls) (hj : (jnL ls).length ≤ 140737488355328) :
    Calls Tryd.prog 39 #[v] w fun e w' => e = .returned (.string ⟨(jnL ls).toArray⟩) ∧ Below w.heap.size w w' := by
  obtain ⟨hla, A, ca, rfl, hA⟩ := hv
  have HA : Hid (ls = [] ∨ ∃ b, A = some ⟨b, 0, none⟩ ∧ ∀ (k : Nat) (ts : List Tok), ls[k]? = some ts → ∃ u, w.cell? ⟨b, k, none⟩ = some u ∧ RdT w u ts) := hA
  clear hA
  obtain ⟨N, hN⟩ : ∃ N, ls.length = N := ⟨_, rfl⟩
  rw [hN] at hla ⊢
  have HN : Hid (ls.length = N) := hN
  clear hN
  go_enter Tryd.func39, Tryd.ntmps39
  go_wp2_with fail
  go_loopw [10] (fun iv wr => ∃ (i : Nat) (D : List UInt8), i ≤ N ∧ iv = .int .i64 i ∧ Hid (Bld w wr D) ∧ Hid (D ++ jnL (ls.drop i) = jnL ls)) (fun iv _ => N - (intOf iv).toNat)
  case atStart => exact ⟨0, [], Nat.zero_le _, rfl, Bld.start w, rfl⟩
  case round =>
    obtain ⟨i, D, hle, rfl, HB, HD⟩ := hrel
    by_cases hp : i < N
    · have hpi : (i : Int) < (N : Int) := by omega
      obtain ⟨ts, hts⟩ : ∃ ts, ls[i]? = some ts := ⟨_, List.getElem?_eq_getElem (by have := HN.out; omega)⟩
      obtain ⟨ba, rfl, hca⟩ := HA.out.resolve_left (by intro e; rw [e] at hts; cases hts)
      obtain ⟨u, qa, hx0, Au, cu, rfl, hxc⟩ := hca i ts hts
      have HXC : Hid _ := hxc
      have qa2 := (HB.out.bel.cell (World.block_lt_of_cell? w _ qa)).trans qa
      have HD2 : Hid (D ++ (jnr 0 ts ++ (10 :: jnL (ls.drop (i + 1)))) = jnL ls) := by rw [← jnL_drop hts]; exact HD.out
      clear hxc hts hca qa
      obtain ⟨n, hn⟩ : ∃ n, ts.length = n := ⟨_, rfl⟩
      rw [hn] at qa2 hx0
      have HL : Hid (ts.length = n) := hn
      clear hn
      go_wp2_with fail
      go_loopw [16] (fun iv wr2 => ∃ (k : Nat) (E : List UInt8), k ≤ n ∧ iv = .int .i64 k ∧ Hid (Bld w wr2 E) ∧ Hid (E ++ (jnr k (ts.drop k) ++ (10 :: jnL (ls.drop (i + 1)))) = jnL ls)) (fun iv _ => n - (intOf iv).toNat)
      case atStart => exact ⟨0, D, Nat.zero_le _, rfl, HB.out, HD2.out⟩
      case round =>
        obtain ⟨k, E, hle2, rfl, HB2, HE⟩ := hrel
        by_cases hp2 : k < n
        · have hpk : (k : Int) < (n : Int) := by omega
          obtain ⟨⟨p0, p1, p2⟩, hpp⟩ : ∃ p, ts[k]? = some p := ⟨_, List.getElem?_eq_getElem (by have := HL.out; omega)⟩
          obtain ⟨bx, rfl, hxc⟩ := HXC.out.resolve_left (by intro e; rw [e] at hpp; cases hpp)
          obtain ⟨x0, x1, x2⟩ := hxc k _ hpp
          have z0 := (HB2.out.bel.cell (World.block_lt_of_cell? w _ x0)).trans x0
          have z1 := (HB2.out.bel.cell (World.block_lt_of_cell? w _ x1)).trans x1
          have z2 := (HB2.out.bel.cell (World.block_lt_of_cell? w _ x2)).trans x2
          have HE2 : Hid ((E ++ (if k = 0 then [] else [32])) ++ p0.data.toList ++ (jnr (k + 1) (ts.drop (k + 1)) ++ (10 :: jnL (ls.drop (i + 1)))) = jnL ls) := by
            have := HE.out
            rw [jnr_drop hpp] at this
            show _ = jnL ls
            rw [← this]; simp
          clear x0 x1 x2 hxc hpp HE
          have hln : (E ++ (if k = 0 then [] else [32])).length + p0.size ≤ 140737488355328 := by
            have := congrArg List.length HE2.out
            simp only [List.length_append] at this hj ⊢
            rw [Lib.size_eq]; omega
          by_cases hk0 : k = 0
          · have hki : ¬ (0 : Int) < (k : Int) := by omega
            have hkn : ¬ 0 < k := by omega
            rw [if_pos hk0, List.append_nil] at HE2 hln
            clear hk0
            go_wp2_with (first
              | (go_at_call 68; (with_reducible refine (wstr_any (HB2.out.alloc _) p0 hln).mono ?_); rintro e w2 ⟨rfl, hb⟩; (have HB3 : Hid _ := hb); clear hb))
            go_roundw
            case rel => exact ⟨k + 1, _, by omega, by go_num, HB3.out, HE2.out⟩
            case measure => simp [intOf]; omega
          · have hki : (0 : Int) < (k : Int) := by omega
            have hkn : 0 < k := by omega
            rw [if_neg hk0] at HE2 hln
            clear hk0
            have hln1 : E.length + 1 ≤ 140737488355328 := by simp only [List.length_append, List.length_singleton] at hln; omega
            have hlt := HB2.out.lt
            have hty : (85 : Nat) ≠ 5 := by decide
            have HWB : Hid (Calls Tryd.prog 67 #[.pointer (some ⟨w.heap.size, 0, none⟩), .int .u8 32] (wr.alloc (Obj.cells #[.string p0, .int .i64 p1, .int .i64 p2] 85)) fun e w' => e = .returned .nilIface ∧ Bld w w' (E ++ [32]) ∧ w'.cell? ⟨wr.heap.size, 0, none⟩ = some (.string p0)) := by
              refine (wbyte_any (HB2.out.alloc _) 32 hln1).mono ?_
              rintro e w' ⟨h1, h2, h3⟩
              exact ⟨h1, h2, (three_c (Oth.block h3 (heap_alloc_new _ _) (by omega) hty)).1⟩
            clear hlt hty hln1
            go_wp2_with (first
              | (go_at_call 67; (with_reducible refine HWB.out.mono ?_); rintro e w2 ⟨rfl, hb, hcc⟩; (have HB3 : Hid _ := hb); clear hb)
              | (go_at_call 68; (with_reducible refine (wstr_any HB3.out p0 hln).mono ?_); rintro e w3 ⟨rfl, hb⟩; (have HB4 : Hid _ := hb); clear hb))
            go_roundw
            case rel => exact ⟨k + 1, _, by omega, by go_num, HB4.out, HE2.out⟩
            case measure => simp [intOf]; omega
        · have e : k = n := by omega
          subst e
          have hpk : ¬ (k : Int) < (k : Int) := by omega
          have HE2 : Hid ((E ++ [10]) ++ jnL (ls.drop (i + 1)) = jnL ls) := by
            have := HE.out
            rw [List.drop_eq_nil_of_le (by have := HL.out; omega)] at this
            show _ = jnL ls
            rw [← this]; simp [jnr]
          have hln : E.length + 1 ≤ 140737488355328 := by
            have := congrArg List.length HE2.out
            simp only [List.length_append, List.length_singleton] at this
            omega
          have HWB : Hid (Calls Tryd.prog 67 #[.pointer (some ⟨w.heap.size, 0, none⟩), .int .u8 10] wr fun e w' => e = .returned .nilIface ∧ Bld w w' (E ++ [10]) ∧ Lib.OthersKept 5 (some w.heap.size) wr w') := wbyte_any HB2.out 10 hln
          go_wp2_with (first
            | (go_at_call 67; (with_reducible refine HWB.out.mono ?_); rintro e w2 ⟨rfl, hb, _⟩; (have HB3 : Hid _ := hb); clear hb))
          go_roundw
          case rel => exact ⟨i + 1, _, by omega, by go_num, HB3.out, HE2.out⟩
          case measure => simp [intOf]; omega
    · have e : i = N := by omega
      subst e
      have hpi : ¬ (i : Int) < (i : Int) := by omega
      have HE : Hid (D = jnL ls) := by
        have := HD.out
        rw [List.drop_eq_nil_of_le (by have := HN.out; omega)] at this
        show D = _
        rw [← this]; show D = D ++ []; simp
      go_wp2_with (first
        | (go_at_call 69; (with_reducible refine (bstr_any HB.out).mono ?_); rintro e w2 ⟨rfl, hb⟩; (have HB3 : Hid _ := hb); clear hb))
      go_ret
      rw [← HE.out]
      exact ⟨rfl, HB3.out⟩
end Go.Proofs.YtpfdgibgdehcdaaDoor
