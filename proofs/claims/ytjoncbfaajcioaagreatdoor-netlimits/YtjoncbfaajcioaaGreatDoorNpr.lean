/-
  A net printed: Print of package netlist, given what Print of package quantity says of its numbers.
-/
import Derived.Test.YtjoncbfaajcioaaGreatDoorNpx
import Derived.Test.YtjoncbfaajcioaaGreatDoorNpi
namespace Go.Proofs.YtjoncbfaajcioaaGreatDoor
open Go.Maps Go.RowKit Joins Deep
set_option linter.unusedVariables false
set_option maxRecDepth 100000

/-- the words of an element's line, t its number's text -/
def wrX (x : Elm) (t : ByteArray) : List ByteArray := if lnK x.k = 2 then srL x.n x.a x.b t x.ph else if lnK x.k = 3 then [x.n, x.a, x.b, x.c, x.d, t] else [x.n, x.a, x.b, t]
/-- a line's bytes, with the byte 10 that ends it -/
def lnB (x : Elm) (t : ByteArray) : List UInt8 := Lib.join ((wrX x t).map (·.data.toList)) [32] ++ [10]
abbrev jnW (x : Elm) (t : ByteArray) : List UInt8 := Lib.join ((wrX x t).map (·.data.toList)) [32]
/-- a net's text -/
def prnL (tx : Elm → ByteArray) : List Elm → List UInt8
  | [] => []
  | x :: r => lnB x (tx x) ++ prnL tx r
theorem prnL_drop {tx : Elm → ByteArray} {l : List Elm} {i : Nat} {x : Elm} (h : l[i]? = some x) : prnL tx (l.drop i) = lnB x (tx x) ++ prnL tx (l.drop (i + 1)) := by
  obtain ⟨hi, hx⟩ := List.getElem?_eq_some_iff.1 h
  rw [List.drop_eq_getElem_cons hi, hx]; rfl
/-- what is asked of an element that is printed -/
structure PrE (x : Elm) (t : ByteArray) : Prop where
  k1 : 1 ≤ lnK x.k
  k2 : lnK x.k ≤ 3
  k8 : x.k ≤ 8
  p1 : -9223372036854775808 ≤ x.ph
  p2 : x.ph ≤ 9223372036854775807
  pr : ∀ W : World, Pw W → Calls Tryz.prog 74 #[.float .f64 x.v] W fun e w' => e = .returned (.tuple #[.string t, .int .i64 0]) ∧ Below W.heap.size W w'
theorem wrX_len (x : Elm) (t : ByteArray) : (wrX x t).length ≤ 6 := by
  unfold wrX srL
  split
  · split <;> simp
  · split <;> simp
theorem wr_1 {x : Elm} {t : ByteArray} (h : PrE x t) (hi : lnK x.k = 1) (W : World) (hw : Pw W) : Calls Tryz.prog 45 #[elN x.k x.n x.a x.b x.c x.d x.v x.ph] W fun e w' => ∃ u, e = .returned u ∧ StrR w' W.heap.size u (wrX x t) ∧ Below W.heap.size W w' := by
  have e : wrX x t = [x.n, x.a, x.b, t] := by unfold wrX; rw [if_neg (by omega), if_neg (by omega)]
  rw [e]; exact writeTwo_r W x.k x.v x.n x.a x.b x.c x.d t x.ph hw h.pr
theorem wr_2 {x : Elm} {t : ByteArray} (h : PrE x t) (hi : lnK x.k = 2) (W : World) (hw : Pw W) : Calls Tryz.prog 47 #[elN x.k x.n x.a x.b x.c x.d x.v x.ph] W fun e w' => ∃ u, e = .returned u ∧ StrR w' W.heap.size u (wrX x t) ∧ Below W.heap.size W w' := by
  have e : wrX x t = srL x.n x.a x.b t x.ph := by unfold wrX; rw [if_pos hi]
  rw [e]; exact writeSource_r W x.k x.v x.n x.a x.b x.c x.d t x.ph hw h.p1 h.p2 h.pr
theorem wr_3 {x : Elm} {t : ByteArray} (h : PrE x t) (hi : lnK x.k = 3) (W : World) (hw : Pw W) : Calls Tryz.prog 49 #[elN x.k x.n x.a x.b x.c x.d x.v x.ph] W fun e w' => ∃ u, e = .returned u ∧ StrR w' W.heap.size u (wrX x t) ∧ Below W.heap.size W w' := by
  have e : wrX x t = [x.n, x.a, x.b, x.c, x.d, t] := by unfold wrX; rw [if_neg (by omega), if_pos hi]
  rw [e]; exact writeFour_r W x.k x.v x.n x.a x.b x.c x.d t x.ph hw h.pr
theorem Bld.below {w wr w' : World} {D : List UInt8} (h : Bld w wr D) (hb : Below wr.heap.size wr w') : Bld w w' D := by
  have key : ∀ {p v}, Lib.BuilderAtF 82 5 w.heap.size w.heap.size p v wr → Lib.BuilderAtF 82 5 w.heap.size w.heap.size p v w' := fun {p v} q => by
    have hlt := q.lt
    obtain ⟨h1, u, h2, h3, h4⟩ := q
    exact ⟨h1, u, (hb.block _ hlt).trans h2, h3.kept (row := none) ⟨hb.os, hb.tape, hb.output, hb.size, fun k hk _ => hb.block k hk⟩ (Classical.em _), h4⟩
  exact ⟨h.is.elim (fun q => .inl (key q)) (fun q => .inr (key q)), h.bel.trans (hb.mono h.bel.size)⟩
theorem add_l (l : List UInt8) : ((⟨l.toArray⟩ : ByteArray) ++ (⟨#[10]⟩ : ByteArray)) = ⟨(l ++ [10]).toArray⟩ := by
  have h : ((⟨l.toArray⟩ : ByteArray) ++ (⟨#[10]⟩ : ByteArray)).data = (l ++ [10]).toArray := by rw [ByteArray.data_append]; simp
  exact ByteArray.ext h
theorem wstr_l {w wr : World} {D : List UInt8} (h : Bld w wr D) (l : List UInt8) (hl : D.length + (l ++ [10]).length ≤ 140737488355328) :
    Calls Tryz.prog 37 #[.pointer (some ⟨w.heap.size, 0, none⟩), .string ((⟨l.toArray⟩ : ByteArray) ++ (⟨#[10]⟩ : ByteArray))] wr fun e w' => (∃ n : Int, e = .returned (.tuple #[.int .i64 n, .nilIface])) ∧ Bld w w' (D ++ (l ++ [10])) := by
  rw [add_l]
  obtain ⟨m, hm⟩ : ∃ m, l ++ [10] = m := ⟨_, rfl⟩
  rw [hm] at hl ⊢
  refine (wstr_any h ⟨m.toArray⟩ (by rw [Lib.size_eq]; exact hl)).mono ?_
  intro e w' h2
  obtain ⟨h1, h2⟩ := h2
  exact ⟨⟨_, h1⟩, h2⟩
set_option maxHeartbeats 8000000 in
theorem nprint_any (w : World) (base p : Nat) (N : Ns) (b : Nb) (tx : Elm → ByteArray) (hN : Nt w base p N b) (hw : Pw w) (hx : ∀ x ∈ N.es, PrE x (tx x)) (hl : (prnL tx N.es).length ≤ 1000000) (hn : N.es.length ≤ 100000) :
    Calls Tryz.prog 19 #[.pointer (some ⟨p, 0, none⟩)] w fun e w' => e = .returned (.string ⟨(prnL tx N.es).toArray⟩) ∧ Below w.heap.size w w' := by
  have HMY : Hid (Calls Tryz.prog 29 #[.pointer (some ⟨p, 0, none⟩)] w fun e w' => e = .returned (.bool true) ∧ w' = w) := made_yes hN.nm.c1
  have HNT : Hid (Nt w base p N b) := hN
  have HPW0 : Hid (Pw w) := hw
  have HX : Hid (∀ x ∈ N.es, PrE x (tx x)) := hx
  have HL : Hid ((prnL tx N.es).length ≤ 1000000) := hl
  obtain ⟨A, cap, hv0⟩ := orow_slice hN.es
  obtain ⟨n, hnn⟩ : ∃ n, N.es.length = n := ⟨_, rfl⟩
  have HN : Hid (N.es.length = n) := hnn
  have hn9 : n ≤ 100000 := by omega
  have HP0 : Hid (p < w.heap.size) := World.block_lt_of_cell? w _ hN.c0
  have HC0 : Hid (w.cell? ⟨p, 0, none⟩ = some (.slice A n cap)) := by have := hN.c0; rw [hv0, hnn] at this; exact this
  have HES : Hid (w.ownsRow base 31 8 (.slice A n cap) n (elCs N.es)) := by have := hN.es; rw [hv0, hnn] at this; exact this
  clear hN hw hx hl hv0 hnn hn
  go_enter Tryz.func19, Tryz.ntmps19
  go_wp2_with (first
    | (go_at_call 29; (with_reducible refine (HMY.out).mono ?_); rintro e w1 ⟨rfl, hw1⟩; subst w1)
    | (go_at_call 26; (with_reducible refine (lines_any _).mono ?_); rintro e w3 ⟨B, rfl, hln, hb, hB⟩; (have HLN : Hid (Lns w3 B ∧ Below w.heap.size w w3) := ⟨hln, hb⟩); (have HBS : Hid (Bld w3 (w3.alloc (.cells #[.pointer none, .slice none 0 0] 82)) []) := Bld.start w3); (have q0 : (w3.alloc (.cells #[.pointer none, .slice none 0 0] 82)).cell? ⟨p, 0, none⟩ = some (.slice A n cap) := ((hb.alloc hb.size _).cell HP0.out).trans HC0.out); clear hln hb hB))
  go_loopw [16] (fun iv wr => ∃ (k : Nat) (D : List UInt8), k ≤ n ∧ iv = .int .i64 k ∧ Hid (Bld w3 wr D) ∧ Hid (D ++ prnL tx (N.es.drop k) = prnL tx N.es)) (fun iv _ => n - (intOf iv).toNat)
  case atStart => exact ⟨0, [], Nat.zero_le _, rfl, HBS.out, rfl⟩
  case round =>
    obtain ⟨k, D, hle, rfl, HB, HD⟩ := hrel
    by_cases hkn : k < n
    · have hki : (k : Int) < (n : Int) := by omega
      obtain ⟨x, hx⟩ : ∃ x, N.es[k]? = some x := ⟨_, List.getElem?_eq_getElem (by have := HN.out; omega)⟩
      have HE : Hid (PrE x (tx x)) := HX.out x (List.mem_of_getElem? hx)
      have hb3 : Below w.heap.size w wr := HLN.out.2.trans (HB.out.bel.mono HLN.out.2.size)
      obtain ⟨g, cap', hA, hg1, hg2⟩ := HES.out.form (by omega)
      have hAe : A = some ⟨g, 0, none⟩ := by injection hA
      subst hAe
      have h8 := (oe8_row HES.out hx hkn).bel hg2 hb3
      obtain ⟨z0, z1, z2, z3, z4, z5, z6, z7⟩ := h8
      have HDD : Hid (D ++ (lnB x (tx x) ++ prnL tx (N.es.drop (k + 1))) = prnL tx N.es) := by rw [← prnL_drop hx]; exact HD.out
      have HD2 : Hid ((D ++ lnB x (tx x)) ++ prnL tx (N.es.drop (k + 1)) = prnL tx N.es) := (List.append_assoc _ _ _).trans HDD.out
      have HLEN2 : Hid (D.length + (jnW x (tx x) ++ [10]).length ≤ 140737488355328) := by have := congrArg List.length HDD.out; rw [List.length_append, List.length_append] at this; have := HL.out; show D.length + (lnB x (tx x)).length ≤ _; omega
      have HLEN : Hid ((lnB x (tx x)).length ≤ 1000000) := by have := congrArg List.length HDD.out; simp only [List.length_append] at this; have := HL.out; show _ ≤ _; omega
      have hnc : ¬ 9223372036854775807 < (Lib.join (List.map (fun (y : ByteArray) => y.data.toList) (wrX x (tx x))) [32]).length + 1 := by
        have h1 : (Lib.join (List.map (fun (y : ByteArray) => y.data.toList) (wrX x (tx x))) [32] ++ [10]).length ≤ 1000000 := HLEN.out
        rw [List.length_append] at h1; omega
      obtain ⟨wz, hwz, ⟨e0, e1, e2, e3, e4, e5, e6, e7⟩, hbz⟩ := el_st (w5 := wr) x
      have HBz : Hid (Bld w3 wz D) := HB.out.below hbz
      have hLz : Lns wz B := HLN.out.1.below (HB.out.bel.trans (hbz.mono HB.out.bel.size))
      have HPW : Hid (Pw wz) := HPW0.out.kept (hb3.trans (hbz.mono hb3.size))
      have h81 := HE.out.k8
      rcases (by have := HE.out.k1; have := HE.out.k2; omega : lnK x.k = 1 ∨ lnK x.k = 2 ∨ lnK x.k = 3) with hi | hi | hi
      · have hlk := look_1 hLz h81 hi
        have HI : Hid (lnK x.k = 1) := hi
        have hfd : ∀ W, (Instr.field 91 ln1 3).run Tryz.prog W = .ok (.func (.func 45) #[] #[]) W := fun W => by kernel_rfl
        clear hLz hi h81 hbz hb3 hx hA HB HD
        go_wp2_with (first
          | (go_at_call 45; (with_reducible refine (wr_1 HE.out HI.out _ HPW.out).mono ?_); rintro e w5 ⟨uu, rfl, hS, hb5⟩; (have HJ : Hid (Calls Tryz.prog 38 #[uu, .string ⟨#[32]⟩] w5 fun e w' => e = .returned (.string ⟨(Lib.join ((wrX x (tx x)).map (·.data.toList)) [32]).toArray⟩) ∧ Below w5.heap.size w5 w') := strJoin hS (by have := wrX_len x (tx x); omega) ⟨#[32]⟩ (by have := HLEN.out; simp only [lnB, List.length_append] at this; show (Lib.join _ [32]).length ≤ _; omega)); (have HB5 : Hid _ := HBz.out.below hb5); clear hS hb5)
          | (go_at_call 38; (with_reducible refine (HJ.out).mono ?_); rintro e w6 ⟨rfl, hb6⟩; (have HB6 : Hid _ := HB5.out.below hb6); clear hb6)
          | (go_at_call 37; (with_reducible refine (wstr_l HB6.out (jnW x (tx x)) HLEN2.out).mono ?_); rintro e w7 ⟨⟨nn, rfl⟩, hb7⟩; (have HB7 : Hid _ := hb7); clear hb7))
        go_roundw
        case rel => exact ⟨k + 1, _, by omega, by go_num, HB7.out, HD2.out⟩
        case measure => simp [intOf]; omega
      · have hlk := look_2 hLz h81 hi
        have HI : Hid (lnK x.k = 2) := hi
        have hfd : ∀ W, (Instr.field 91 ln2 3).run Tryz.prog W = .ok (.func (.func 47) #[] #[]) W := fun W => by kernel_rfl
        clear hLz hi h81 hbz hb3 hx hA HB HD
        go_wp2_with (first
          | (go_at_call 47; (with_reducible refine (wr_2 HE.out HI.out _ HPW.out).mono ?_); rintro e w5 ⟨uu, rfl, hS, hb5⟩; (have HJ : Hid (Calls Tryz.prog 38 #[uu, .string ⟨#[32]⟩] w5 fun e w' => e = .returned (.string ⟨(Lib.join ((wrX x (tx x)).map (·.data.toList)) [32]).toArray⟩) ∧ Below w5.heap.size w5 w') := strJoin hS (by have := wrX_len x (tx x); omega) ⟨#[32]⟩ (by have := HLEN.out; simp only [lnB, List.length_append] at this; show (Lib.join _ [32]).length ≤ _; omega)); (have HB5 : Hid _ := HBz.out.below hb5); clear hS hb5)
          | (go_at_call 38; (with_reducible refine (HJ.out).mono ?_); rintro e w6 ⟨rfl, hb6⟩; (have HB6 : Hid _ := HB5.out.below hb6); clear hb6)
          | (go_at_call 37; (with_reducible refine (wstr_l HB6.out (jnW x (tx x)) HLEN2.out).mono ?_); rintro e w7 ⟨⟨nn, rfl⟩, hb7⟩; (have HB7 : Hid _ := hb7); clear hb7))
        go_roundw
        case rel => exact ⟨k + 1, _, by omega, by go_num, HB7.out, HD2.out⟩
        case measure => simp [intOf]; omega
      · have hlk := look_3 hLz h81 hi
        have HI : Hid (lnK x.k = 3) := hi
        have hfd : ∀ W, (Instr.field 91 ln3 3).run Tryz.prog W = .ok (.func (.func 49) #[] #[]) W := fun W => by kernel_rfl
        clear hLz hi h81 hbz hb3 hx hA HB HD
        go_wp2_with (first
          | (go_at_call 49; (with_reducible refine (wr_3 HE.out HI.out _ HPW.out).mono ?_); rintro e w5 ⟨uu, rfl, hS, hb5⟩; (have HJ : Hid (Calls Tryz.prog 38 #[uu, .string ⟨#[32]⟩] w5 fun e w' => e = .returned (.string ⟨(Lib.join ((wrX x (tx x)).map (·.data.toList)) [32]).toArray⟩) ∧ Below w5.heap.size w5 w') := strJoin hS (by have := wrX_len x (tx x); omega) ⟨#[32]⟩ (by have := HLEN.out; simp only [lnB, List.length_append] at this; show (Lib.join _ [32]).length ≤ _; omega)); (have HB5 : Hid _ := HBz.out.below hb5); clear hS hb5)
          | (go_at_call 38; (with_reducible refine (HJ.out).mono ?_); rintro e w6 ⟨rfl, hb6⟩; (have HB6 : Hid _ := HB5.out.below hb6); clear hb6)
          | (go_at_call 37; (with_reducible refine (wstr_l HB6.out (jnW x (tx x)) HLEN2.out).mono ?_); rintro e w7 ⟨⟨nn, rfl⟩, hb7⟩; (have HB7 : Hid _ := hb7); clear hb7))
        go_roundw
        case rel => exact ⟨k + 1, _, by omega, by go_num, HB7.out, HD2.out⟩
        case measure => simp [intOf]; omega
    · obtain rfl : k = n := by omega
      have hki : ¬ (k : Int) < (k : Int) := by omega
      have HD3 : Hid (D = prnL tx N.es) := by have := HD.out; rw [List.drop_eq_nil_of_le (by have := HN.out; omega)] at this; show D = _; rw [← this]; exact (List.append_nil _).symm
      go_wp2_with (first
        | (go_at_call 39; (with_reducible refine (bstr_any HB.out).mono ?_); rintro e w7 ⟨rfl, hb7⟩))
      go_ret
      exact ⟨by rw [HD3.out]; rfl, HLN.out.2.trans (hb7.mono HLN.out.2.size)⟩
end Go.Proofs.YtjoncbfaajcioaaGreatDoor
