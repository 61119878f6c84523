/-
  The walk of RealSums: it hands back true and only lays new memory.
-/
import Derived.Test.YthkhemmpjfilaaaAq
namespace Go.Proofs.Ythkhemmpjfilaaa
open Fl RowKit

structure Stg (n : Nat) : Prop where
  t : True
theorem own_shape' {w : World} {base e n : Nat} {v : Value} {xs : List Value} (h : w.ownsRow base e 1 v n xs) (hn : 0 < n) : ∃ g c, v = .slice (some ⟨g, 0, none⟩) n c ∧ base ≤ g ∧ n ≤ c ∧ c ≤ maxLen := by
  rcases h.2 with ⟨_, h1⟩ | ⟨g, cap, cur, hv, hg, _, h2, h3, _⟩
  · omega
  · exact ⟨g, cap, hv, hg, h2, h3⟩
/-- the beginning of an owned row is read -/
theorem pre_rd {w : World} {base g cap n : Nat} {xs ys : List Nat} (hn : n = (xs ++ ys).length) (h : w.ownsRow base 29 1 (.slice (some ⟨g, 0, none⟩) n cap) n ((xs ++ ys).map (Value.float .f64))) : Rd w (some ⟨g, 0, none⟩) xs := by
  obtain ⟨ao, c, hv, _, _, hr⟩ := own_rd hn h
  cases hv
  intro k hk
  obtain ⟨b, off, h1, h2, h3⟩ := hr k (by rw [List.length_append]; omega)
  refine ⟨b, off, h1, h2, ?_⟩
  rw [h3]
  simp [List.getD_eq_getElem?_getD, List.getElem?_append_left hk]
theorem sums_len (ao bo : Option Addr) (ca cb n : Nat) (xs : List Nat) (w : World) (hn : xs.length = n) (hsz : n * 8 ≤ 140737488355328) (hc : Rd w ao xs) (hd : Rd w bo xs) (hx : ∀ k, xs.getD k 0 < 18446744073709551616) :
    Calls Try.prog 11 #[.slice ao n ca, .slice bo n cb] w fun e w' =>
      ∃ es : List Nat, e = .returned (.tuple #[.slice (some ⟨w.heap.size, 0, none⟩) n n, .bool true]) ∧ es.length = n ∧ Hid (∀ j, j < n → rep (errO xs j) (es.getD j 0)) ∧ w'.ownsRow w.heap.size 29 1 (.slice (some ⟨w.heap.size, 0, none⟩) n n) n (es.map (Value.float .f64)) ∧ Below w.heap.size w w' := by
  subst hn
  refine (sums_any ao bo ca cb xs w hsz hc hd hx).mono ?_
  rintro e w' ⟨es, rfl, hE, hb⟩
  exact ⟨es, rfl, hE.len, hE.err, hE.own, hb⟩
theorem over_len (base g cap n : Nat) (xs : List Nat) (w : World) (hn : xs.length = n) (hsz : n * 8 ≤ 140737488355328) (h : w.ownsRow base 29 1 (.slice (some ⟨g, 0, none⟩) n cap) n (xs.map (Value.float .f64))) :
    Calls Try.prog 14 #[.slice (some ⟨g, 0, none⟩) n cap] w fun e w' =>
      e = .returned (.tuple #[]) ∧ w'.ownsRow base 29 1 (.slice (some ⟨g, 0, none⟩) n cap) n ((marks 9 n).map (Value.float .f64)) ∧ OnlyRow g w w' := by
  subst hn
  exact over_any base g cap xs w hsz h
theorem copy_len (ao : Option Addr) (cap n : Nat) (xs : List Nat) (w : World) (hn : xs.length = n) (hsz : n * 8 ≤ 140737488355328) (hc : Sl w ao cap xs) :
    Calls Try.prog 15 #[.slice ao n cap] w fun e w' => ∃ ao' cap', e = .returned (.slice ao' n cap') ∧ Sl w' ao' cap' xs ∧ Below w.heap.size w w' := by
  subst hn
  exact copy_any ao cap xs w hsz hc
theorem marks_split (k : Int) (a b : Nat) : ∃ ys, marks k (a + b) = marks k a ++ ys := by
  refine ⟨(marks k (a + b)).drop a, ?_⟩
  have : (marks k (a + b)).take a = marks k a := by
    unfold marks
    rw [← List.map_take, List.take_range, Nat.min_eq_left (by omega)]
  rw [← this, List.take_append_drop]
theorem marks_bd (k : Int) (n j : Nat) : (marks k n).getD j 0 < 18446744073709551616 := by
  rcases Nat.lt_or_ge j n with h | h
  · rw [marks_getD k n j h]; exact mk_lt _ _
  · rw [List.getD_eq_getElem?_getD, List.getElem?_eq_none (by rw [marks_len]; exact h)]; simp
theorem below_only {B g : Nat} {w w6 w7 : World} (h : Below B w w6) (ho : OnlyRow g w6 w7) (hg : B ≤ g) : Below B w w7 :=
  ⟨ho.os.trans h.os, ho.tape.trans h.tape, ho.output.trans h.output, by rw [ho.size]; exact h.size, fun b hb => (ho.block b (by omega)).trans (h.block b hb)⟩
def pick3 {α : Type} (a b c : α) (j : Nat) : α := if j = 0 then a else if j = 1 then b else c
theorem pick3_ge {B a b c : Nat} (ha : B ≤ a) (hb : B ≤ b) (hc : B ≤ c) (j : Nat) (_ : j < 3) : B ≤ pick3 a b c j := by
  unfold pick3; split
  · exact ha
  · split
    · exact hb
    · exact hc
theorem many3 {w : World} {base n ga gb gc : Nat} {ea eb ec : List Nat} (t : TypeId) (hab : ga < gb) (hbc : gb < gc) (la : ea.length = n) (lb : eb.length = n) (lc : ec.length = n)
    (oa : w.ownsRow base 29 1 (.slice (some ⟨ga, 0, none⟩) n n) n (ea.map (Value.float .f64))) (ob : w.ownsRow base 29 1 (.slice (some ⟨gb, 0, none⟩) n n) n (eb.map (Value.float .f64)))
    (oc : w.ownsRow base 29 1 (.slice (some ⟨gc, 0, none⟩) n n) n (ec.map (Value.float .f64))) :
    Many base w.heap.size 3 (fun _ => n) (pick3 ga gb gc) (pick3 ea eb ec) (w.alloc (.cells #[.slice (some ⟨ga, 0, none⟩) n n, .slice (some ⟨gb, 0, none⟩) n n, .slice (some ⟨gc, 0, none⟩) n n] t)) := by
  have ha := (oa.lt ga rfl).2
  have hb := (ob.lt gb rfl).2
  have hc := (oc.lt gc rfl).2
  have three : ∀ j, j < 3 → j = 0 ∨ j = 1 ∨ j = 2 := fun j hj => by omega
  refine ⟨?_, ?_, ?_, ?_, ?_, by simp⟩
  · intro j hj
    rcases three j hj with rfl | rfl | rfl <;> simp [pick3]
  · intro j hj
    rcases three j hj with rfl | rfl | rfl
    · exact oa.alloc _
    · exact ob.alloc _
    · exact oc.alloc _
  · intro j hj
    rcases three j hj with rfl | rfl | rfl
    · exact la
    · exact lb
    · exact lc
  · intro j k hj hk hne
    rcases three j hj with rfl | rfl | rfl <;> rcases three k hk with rfl | rfl | rfl <;> simp [pick3] <;> omega
  · intro j hj
    rcases three j hj with rfl | rfl | rfl <;> simp [pick3] <;> omega

set_option maxRecDepth 10000 in
set_option maxHeartbeats 8000000 in
theorem rsums_walk (ao : Option Addr) (cap : Nat) (us : List Nat) (w : World) (hsz : us.length * 8 + 48 ≤ 140737488355328)
    (hc : ∀ k, k < us.length → ∃ b off, ao = some ⟨b, off, none⟩ ∧ b < w.heap.size ∧ w.cell? ⟨b, off + k, none⟩ = some (.int .u64 ((us.getD k 0 : Nat) : Int))) (hx : ∀ k, us.getD k 0 < 18446744073709551616) :
    Calls Try.prog 3 #[.slice ao us.length cap] w fun e w' => e = .returned (.bool true) ∧ Below w.heap.size w w' := by
  have st : Stg 0 := ⟨trivial⟩
  have hfl : (us ++ marks 7 6).length = us.length + 6 := by rw [List.length_append, marks_len]
  go_enter Try.func3, Try.ntmps3
  go_wp2_with (first
    | (go_at_call 9; refine (floats_any ao cap us _ (by omega) hc).mono ?_; rintro e w1 ⟨vx, rfl, OX, BB⟩; obtain ⟨ax, cx, rfl, SX⟩ := own_sl OX; clear OX hc)
    | (go_at_call 10; refine (lent_any ax cx us _ hsz SX).mono ?_; rintro e w2 ⟨vf, rfl, OF, hb⟩; replace SX := SX.below hb; have BS := BB.size; replace BB := BB.trans (hb.mono BB.size); obtain ⟨gf, cf, hv, hgf, hcf, hcf2⟩ := own_shape' OF (by omega); subst hv; have LF := (OF.lt gf rfl).2; have RO := pre_rd hfl.symm OF; clear hb)
    | (have := (st : Stg 0); clear st; go_at_call 11; refine (sums_len (some ⟨gf, 0, none⟩) ax cf cx us.length us _ rfl (by omega) RO SX.rd hx).mono ?_; rintro e w3 ⟨ea, rfl, LA, EA, OA, hb⟩; have st : Stg 1 := ⟨trivial⟩; replace SX := SX.below hb; replace RO := RO.below hb; have BS := BB.size; replace BB := BB.trans (hb.mono BB.size); replace OF := own_at OF (fun g hg => hb.block g (OF.lt g hg).2); have GA := LF; clear hb)
    | (have := (st : Stg 1); clear st; go_at_call 11; refine (sums_len (some ⟨gf, 0, none⟩) ax cf cx us.length us _ rfl (by omega) RO SX.rd hx).mono ?_; rintro e w4 ⟨eb, rfl, LB, EB, OB, hb⟩; have st : Stg 2 := ⟨trivial⟩; replace SX := SX.below hb; replace RO := RO.below hb; have BS := BB.size; replace BB := BB.trans (hb.mono BB.size); replace OF := own_at OF (fun g hg => hb.block g (OF.lt g hg).2); have S3 := (OA.lt _ rfl).2; replace OA := own_at OA (fun g hg => hb.block g (OA.lt g hg).2); have S4 := (OB.lt _ rfl).2; clear hb)
    | (go_at_call 12; refine (kept_any ax cx _ _ us _ hsz SX OF).mono ?_; rintro e w5 ⟨rfl, hb⟩; replace SX := SX.below hb; have S5 := hb.size; have BS := BB.size; replace BB := BB.trans (hb.mono BB.size); replace OF := own_at OF (fun g hg => hb.block g (OF.lt g hg).2); replace OA := own_at OA (fun g hg => hb.block g (OA.lt g hg).2); replace OB := own_at OB (fun g hg => hb.block g (OB.lt g hg).2); clear hb RO)
    | (go_at_call 13; refine (rsumErr_any ax cx us _ (by omega) SX.rd hx).mono ?_; rintro e w6 ⟨t, fs, vw, rfl, R⟩; have hb := R.bel; have LW := R.len; have EW : Hid (∀ j, j < us.length → rep (errO us j) (fs.getD j 0)) := R.err; have OW := R.own; clear R; have S6 := hb.size; have BS := BB.size; replace BB := BB.trans (hb.mono BB.size); replace OF := own_at OF (fun g hg => hb.block g (OF.lt g hg).2); replace OA := own_at OA (fun g hg => hb.block g (OA.lt g hg).2); replace OB := own_at OB (fun g hg => hb.block g (OB.lt g hg).2); clear hb SX)
    | (go_at_call 14; refine (over_len _ gf cf (us.length + 6) (us ++ marks 7 6) _ hfl (by omega) OF).mono ?_; rintro e w7 ⟨rfl, OF2, ho⟩; clear OF; have S7 := ho.size; replace BB := below_only BB ho (by omega); replace OA := own_at OA (fun g hg => ho.block g (by have := own_ge OA hg; omega)); replace OB := own_at OB (fun g hg => ho.block g (by have := own_ge OB hg; omega)); replace OW := own_at OW (fun g hg => ho.block g (by have := own_ge OW hg; omega)); obtain ⟨ys, hys⟩ := marks_split 9 us.length 6; rw [hys] at OF2; have SO : Sl w7 (some ⟨gf, 0, none⟩) cf (marks 9 us.length) := ⟨pre_rd (by rw [← hys, marks_len]) OF2, .inr ⟨gf, 0, rfl⟩, by rw [marks_len]; omega⟩; clear OF2 hys ho)
    | (go_at_call 15; refine (copy_len (some ⟨gf, 0, none⟩) cf us.length (marks 9 us.length) _ (marks_len _ _) (by omega) SO).mono ?_; rintro e w8 ⟨ac, cc, rfl, SC, hb⟩; have S8 := hb.size; have BS := BB.size; replace BB := BB.trans (hb.mono BB.size); replace OA := own_at OA (fun g hg => hb.block g (OA.lt g hg).2); replace OB := own_at OB (fun g hg => hb.block g (OB.lt g hg).2); replace OW := own_at OW (fun g hg => hb.block g (OW.lt g hg).2); replace SO := SO.below hb; clear hb)
    | (have := (st : Stg 2); clear st; go_at_call 11; refine (sums_len (some ⟨gf, 0, none⟩) ac cf cc us.length (marks 9 us.length) _ (marks_len _ _) (by omega) SO.rd SC.rd (marks_bd 9 us.length)).mono ?_; rintro e w9 ⟨ec, rfl, LC, EC, OC, hb⟩; have st : Stg 3 := ⟨trivial⟩; have S9 := (OC.lt _ rfl).2; have BS := BB.size; replace BB := BB.trans (hb.mono BB.size); replace OA := own_at OA (fun g hg => hb.block g (OA.lt g hg).2); replace OB := own_at OB (fun g hg => hb.block g (OB.lt g hg).2); replace OW := own_at OW (fun g hg => hb.block g (OW.lt g hg).2); clear hb SO SC; obtain ⟨bw, cw, hvw, _, _, RW⟩ := own_rd LW.symm OW; rw [LW] at hvw; subst hvw; have RA := own_rd' LA OA; have RB := own_rd' LB OB)
    | (go_at_call 16; with_reducible refine (sameReals_len (some ⟨w2.heap.size, 0, none⟩) bw us.length cw us.length ea fs _ (by omega) LA LW RA RW (fun j hj => rep_smB (EA.out j hj) (EW.out j hj))).mono ?_; rintro e w10 ⟨m1, rfl, rfl⟩)
    | (go_at_call 16; with_reducible refine (sameReals_len (some ⟨w3.heap.size, 0, none⟩) bw us.length cw us.length eb fs _ (by omega) LB LW (RB.drewN _) (RW.drewN _) (fun j hj => rep_smB (EB.out j hj) (EW.out j hj))).mono ?_; rintro e w11 ⟨m2, rfl, rfl⟩))
  refine (apart_any w.heap.size _ 3 w.heap.size (fun _ => us.length) (pick3 w2.heap.size w3.heap.size w8.heap.size) (pick3 ea eb ec) _ (by omega) (by omega) (many3 (w := w9.drewN (m1 + m2)) 23 (by omega) (by omega) LA LB LC (own_base (own_at OA (fun _ _ => rfl)) (by omega)) (own_base (own_at OB (fun _ _ => rfl)) (by omega)) (own_base (own_at OC (fun _ _ => rfl)) (by omega))) (fun _ _ => hsz) (pick3_ge (by omega) (by omega) (by omega)) (by simp; omega)).mono ?_
  rintro e w12 ⟨rfl, hb⟩
  go_wp2
  go_ret
  exact ⟨rfl, ((below_drewN BB _).alloc (by simp; omega) _).trans hb⟩
end Go.Proofs.Ythkhemmpjfilaaa
