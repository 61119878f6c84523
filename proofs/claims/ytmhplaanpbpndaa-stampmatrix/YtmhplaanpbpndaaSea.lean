/-
  The document's stamp of one element.
-/
import Derived.Test.YtmhplaanpbpndaaSdz
import Derived.Test.YtmhplaanpbpndaaSts
namespace Go.Proofs.Ytmhplaanpbpndaa
open Fl Go.Maps RowKit Joins Deep
set_option linter.unusedVariables false
set_option maxRecDepth 20000
/-- what stamp of the document answers and leaves -/
def DsP (w0 : World) (p : Nat) (l : List Elm) (s : Nat) (v : Value) (m : Nat) (N : Ns) (o : Nat) (x : Elm) (S : Sh) (e : Ending) (w' : World) : Prop :=
  (stR o x ≠ 0 → e = .returned (.int .i64 (stR o x)) ∧ Below w0.heap.size w0 w') ∧ (stR o x = 0 → e = .returned (.int .i64 (if (stE N o x S).ov = true then 6 else 0)) ∧ Dk w0 w' p l s v m (stE N o x S))
theorem ki1 {k : Nat} (h : ((k : Int) == 1) = true) : k = 1 := by have := (beq_iff_eq).1 h; omega
theorem kn1 {k : Nat} (h : ((k : Int) == 1) = false) : k ≠ 1 := fun e => by rw [e] at h; simp at h
theorem ki2 {k : Nat} (h : ((k : Int) == 2) = true) : k = 2 := by have := (beq_iff_eq).1 h; omega
theorem kn2 {k : Nat} (h : ((k : Int) == 2) = false) : k ≠ 2 := fun e => by rw [e] at h; simp at h
theorem ki3 {k : Nat} (h : ((k : Int) == 3) = true) : k = 3 := by have := (beq_iff_eq).1 h; omega
theorem kn3 {k : Nat} (h : ((k : Int) == 3) = false) : k ≠ 3 := fun e => by rw [e] at h; simp at h
theorem ki5 {k : Nat} (h : ((k : Int) == 5) = true) : k = 5 := by have := (beq_iff_eq).1 h; omega
theorem kn5 {k : Nat} (h : ((k : Int) == 5) = false) : k ≠ 5 := fun e => by rw [e] at h; simp at h
theorem ki6 {k : Nat} (h : ((k : Int) == 6) = true) : k = 6 := by have := (beq_iff_eq).1 h; omega
theorem kn6 {k : Nat} (h : ((k : Int) == 6) = false) : k ≠ 6 := fun e => by rw [e] at h; simp at h
theorem ki7 {k : Nat} (h : ((k : Int) == 7) = true) : k = 7 := by have := (beq_iff_eq).1 h; omega
theorem kn7 {k : Nat} (h : ((k : Int) == 7) = false) : k ≠ 7 := fun e => by rw [e] at h; simp at h
theorem ki8 {k : Nat} (h : ((k : Int) == 8) = true) : k = 8 := by have := (beq_iff_eq).1 h; omega
theorem kn8 {k : Nat} (h : ((k : Int) == 8) = false) : k ≠ 8 := fun e => by rw [e] at h; simp at h
theorem ds_adm {N : Ns} {o : Nat} {x : Elm} {S : Sh} {y1 y2 : Nat} {u : Int} (hk : x.k = 1 ∨ x.k = 2 ∨ x.k = 3 ∨ x.k = 8) (hu : ofT x o = (y1, y2, u)) : stR o x = u ∧ stE N o x S = adm N x (ans y1, ans y2) S := by
  have h4 : x.k ≠ 4 := by omega
  have h5 : x.k ≠ 5 := by omega
  have h6 : x.k ≠ 6 := by omega
  have h7 : x.k ≠ 7 := by omega
  unfold stR stE
  rw [if_neg (by omega), if_neg h4, if_neg h5, if_neg h6, if_neg h7, hu]
  exact ⟨rfl, rfl⟩
theorem ds_oth {N : Ns} {o : Nat} {x : Elm} {S : Sh} (hk : x.k = 4 ∨ x.k = 5 ∨ x.k = 6 ∨ x.k = 7) : stR o x = 0 ∧ stE N o x S = if x.k = 4 then S else if x.k = 5 then bra N x S else if x.k = 6 then tra N x S else amp N x S := by
  unfold stR stE
  rw [if_pos hk]
  refine ⟨rfl, ?_⟩
  rcases hk with h | h | h | h <;> simp [h]
theorem ds_end {w0 W : World} {p : Nat} {l : List Elm} {s : Nat} {v : Value} {m : Nat} {N : Ns} {o : Nat} {x : Elm} {S S' : Sh} {r : Int} (h0 : stR o x = 0) (hS : stE N o x S = S') (hd : Dk w0 W p l s v m S') (hr : r = if S'.ov = true then 6 else 0) : DsP w0 p l s v m N o x S (.returned (.int .i64 r)) W :=
  ⟨fun q => absurd h0 q, fun _ => by rw [hS, hr]; exact ⟨rfl, hd⟩⟩
theorem ds_end6 {w0 W : World} {p : Nat} {l : List Elm} {s : Nat} {v : Value} {m : Nat} {N : Ns} {o : Nat} {x : Elm} {S S' : Sh} (h0 : stR o x = 0) (hd : Dk w0 W p l s v m S') (hr : S'.ov = true) (hS : stE N o x S = S') : DsP w0 p l s v m N o x S (.returned (.int .i64 6)) W := ds_end h0 hS hd (by rw [if_pos hr])
theorem ds_end0 {w0 W : World} {p : Nat} {l : List Elm} {s : Nat} {v : Value} {m : Nat} {N : Ns} {o : Nat} {x : Elm} {S S' : Sh} (h0 : stR o x = 0) (hd : Dk w0 W p l s v m S') (hr : S'.ov = false) (hS : stE N o x S = S') : DsP w0 p l s v m N o x S (.returned (.int .i64 0)) W := ds_end h0 hS hd (by rw [if_neg (by rw [hr]; simp)])
theorem ds_bad {w0 W : World} {p : Nat} {l : List Elm} {s : Nat} {v : Value} {m : Nat} {N : Ns} {o : Nat} {x : Elm} {S S' : Sh} {r : Int} (hd : Dk w0 W p l s v m S') (h0 : stR o x = r) (hr : (r != 0) = true) : DsP w0 p l s v m N o x S (.returned (.int .i64 r)) W := by
  have : r ≠ 0 := by simpa using hr
  subst h0
  exact ⟨fun _ => ⟨rfl, hd.bel⟩, fun q => absurd q this⟩
theorem lt_of_some {w : World} {b : Nat} {o : Obj} (h : w.heap[b]? = some o) : b < w.heap.size := by
  obtain ⟨k, _⟩ := Array.getElem?_eq_some_iff.1 h; exact k
set_option maxHeartbeats 4000000 in
theorem dstamp_any {w0 w : World} {p : Nat} {l : List Elm} {s : Nat} {v : Value} {m : Nat} {S : Sh} (h : Dk w0 w p l s v m S) {x : Elm} (hx : x.ok) {o : Nat} (ho : o < 18446744073709551616) (hk : 1 ≤ x.k ∧ x.k ≤ 8) {N : Ns} (hN : N.nd = ndR l) (hBr : N.br = brR l) (hm : (ndR l).length ≤ m) (hrow : x.k = 5 ∨ x.k = 7 → okp m (rwI N x)) :
    Calls Try.prog 32 #[.pointer (some ⟨s, 0, none⟩), .pointer (some ⟨p, 0, none⟩), elV x, .float .f64 o] w (DsP w0 p l s v m N o x S) := by
  have HFR := hidS h.fresh
  have E0 : Hid (EC w (w.alloc (.cells (elA x) 55)) w.heap.size x) := ec_new w x
  obtain ⟨l1, c10, c11, c12, c13, c14, c15, c16, c17⟩ := E0.out.f
  have HW := hidS (bal w (.cells (elA x) 55))
  obtain ⟨wa, hwa⟩ : ∃ wa, w.alloc (.cells (elA x) 55) = wa := ⟨_, rfl⟩
  rw [hwa] at E0 l1 c10 c11 c12 c13 c14 c15 c16 c17 HW
  have HD := hidS (h.on HW.out)
  obtain ⟨pa, hpa⟩ : ∃ i, plD l x.a = i := ⟨_, rfl⟩
  have HPa := hidS (fun (W : World) (hb : Below wa.heap.size wa W) => hpa ▸ dpl18 (HD.out.nt.below hb) x.a)
  obtain ⟨pb, hpb⟩ : ∃ i, plD l x.b = i := ⟨_, rfl⟩
  have HPb := hidS (fun (W : World) (hb : Below wa.heap.size wa W) => hpb ▸ dpl18 (HD.out.nt.below hb) x.b)
  obtain ⟨pc, hpc⟩ : ∃ i, plD l x.c = i := ⟨_, rfl⟩
  have HPc := hidS (fun (W : World) (hb : Below wa.heap.size wa W) => hpc ▸ dpl18 (HD.out.nt.below hb) x.c)
  obtain ⟨pd, hpd⟩ : ∃ i, plD l x.d = i := ⟨_, rfl⟩
  have HPd := hidS (fun (W : World) (hb : Below wa.heap.size wa W) => hpd ▸ dpl18 (HD.out.nt.below hb) x.d)
  obtain ⟨nn, hnn⟩ : ∃ i, (ndR l).length = i := ⟨_, rfl⟩
  obtain ⟨rb, hrb⟩ : ∃ i, posL (brR l) (bl x.n) = i := ⟨_, rfl⟩
  obtain ⟨ob, hob⟩ : ∃ i, decide (bl x.n ∈ brR l) = i := ⟨_, rfl⟩
  have HBR := hidS (fun (W : World) (hb : Below wa.heap.size wa W) => hrb ▸ hob ▸ dbranchN (HD.out.nt.below hb) x.n)
  have HND : Hid (∀ W : World, Below wa.heap.size wa W → Calls Try.prog 23 #[.pointer (some ⟨p, 0, none⟩)] W fun e w' => ∃ A k, e = .returned (.slice A nn k) ∧ Below W.heap.size W w') := fun W hb => (dnodes (HD.out.nt.below hb)).mono (by
    rintro e w' ⟨v', rfl, hr, hb⟩
    obtain ⟨A, c, hv⟩ := drow_slice hr
    exact ⟨A, c, by rw [hv, hnn], hb⟩)
  have hrb2 : (rb : Int) ≤ 256 := by have h1 := posL_le (brR l) (bl x.n); have h2 := brR_len l; have h3 := HD.out.net.len; omega
  have hnn2 : (nn : Int) ≤ 1024 := by have h2 := ndR_len l; have h3 := HD.out.net.len; omega
  have HNR := hidS (And.intro hnn hrb)
  clear hnn hrb hob
  have HB := hidS (Below.refl wa.heap.size wa)
  have oa : okp m pa := hpa ▸ plD_ok hm x.a
  have ob1 : okp m pb := hpb ▸ plD_ok hm x.b
  have oc : okp m pc := hpc ▸ plD_ok hm x.c
  have od : okp m pd := hpd ▸ plD_ok hm x.d
  have hrI : rwI N x = (nn : Int) + (rb : Int) := by unfold rwI; rw [hN, hBr, HNR.out.1, HNR.out.2]
  rw [hrI] at hrow
  have HPL := hidS (show (plI N x.a = pa ∧ plI N x.b = pb ∧ plI N x.c = pc ∧ plI N x.d = pd) ∧ rwI N x = (nn : Int) + (rb : Int) by
    unfold plI; rw [hN]; exact ⟨⟨hpa, hpb, hpc, hpd⟩, hrI⟩)
  obtain ⟨y1, y2, u, hu⟩ : ∃ y1 y2 u, ofT x o = (y1, y2, u) := ⟨_, _, _, rfl⟩
  have HOF : Hid (∀ W : World, Calls Try.prog 61 #[elV x, .float .f64 o] W fun e w' => e = .returned (.tuple #[.complex .f64 y1 y2, .int .i64 u]) ∧ Below W.heap.size W w') := fun W => by
    have := rof_any17 x o W hx ho
    rw [hu] at this
    exact this
  unfold elV at HOF
  have hy1 : y1 < 18446744073709551616 := by have := (@ofT_bd x o).1; rw [hu] at this; exact this
  have hy2 : y2 < 18446744073709551616 := by have := (@ofT_bd x o).2; rw [hu] at this; exact this
  have HU := hidS hu
  have hxv : x.v < 18446744073709551616 := hx.v
  have hz : (0 : Nat) < 18446744073709551616 := by omega
  have h1b : (4607182418800017408 : Nat) < 18446744073709551616 := by omega
  have HAD : Hid (∀ (W : World) (S' : Sh) (i j : Int) (y1 y2 : Nat), y1 < 18446744073709551616 → y2 < 18446744073709551616 → Dk w0 W p l s v m S' → okp m i → okp m j → Calls Try.prog 62 #[.pointer (some ⟨s, 0, none⟩), .int .i64 i, .int .i64 j, .complex .f64 y1 y2] W fun e w' => e = .returned (.tuple #[]) ∧ Dk w0 w' p l s v m (S'.chg addZ i j (ans y1, ans y2)) ∧ Kd w0.heap.size s v W w') := fun W S' i j y1 y2 h1 h2 h hi hj => h.add (y := (y1, y2)) hi hj ⟨h1, h2⟩
  have HSU : Hid (∀ (W : World) (S' : Sh) (i j : Int) (y1 y2 : Nat), y1 < 18446744073709551616 → y2 < 18446744073709551616 → Dk w0 W p l s v m S' → okp m i → okp m j → Calls Try.prog 63 #[.pointer (some ⟨s, 0, none⟩), .int .i64 i, .int .i64 j, .complex .f64 y1 y2] W fun e w' => e = .returned (.tuple #[]) ∧ Dk w0 w' p l s v m (S'.chg subZ i j (ans y1, ans y2)) ∧ Kd w0.heap.size s v W w') := fun W S' i j y1 y2 h1 h2 h hi hj => h.sub (y := (y1, y2)) hi hj ⟨h1, h2⟩
  clear h hpa hpb hpc hpd hrI hN hBr hm hu
  unfold elA at hwa
  unfold elV
  go_enter Try.func32, Try.ntmps32
  go_wp2_with fail
  go_region_held_law (fun W => W.cell? ⟨w.heap.size, 0, none⟩ = some (.int .u8 (x.k : Int)) ∧ W.cell? ⟨w.heap.size, 1, none⟩ = some (.string x.n) ∧ W.cell? ⟨w.heap.size, 2, none⟩ = some (.string x.a) ∧ W.cell? ⟨w.heap.size, 3, none⟩ = some (.string x.b) ∧ W.cell? ⟨w.heap.size, 4, none⟩ = some (.string x.c) ∧ W.cell? ⟨w.heap.size, 5, none⟩ = some (.string x.d) ∧ W.cell? ⟨w.heap.size, 6, none⟩ = some (.float .f64 x.v) ∧ W.cell? ⟨w.heap.size, 7, none⟩ = some (.int .i64 x.ph)) (first | exact ⟨d10, d11, d12, d13, d14, d15, d16, d17⟩ | exact ⟨c10, c11, c12, c13, c14, c15, c16, c17⟩ | go_keep) (first
    | (go_at_call 59; (with_reducible refine (HPa.out _ (by repeat first | with_reducible exact HB.out | with_reducible refine Below.drew ?_)).mono ?_); rintro e w2 ⟨rfl, hb2⟩; (have KB : Below wa.heap.size wa w2 := Below.trans (by repeat first | with_reducible exact HB.out | with_reducible refine Below.drew ?_) (hb2.mono (by first | exact HB.out.size | exact Below.size (by repeat first | with_reducible exact HB.out | with_reducible refine Below.drew ?_)))); (have HB := hidS KB); (have HE2 := hidS ((KB.block _ l1).trans E0.out.e)); (obtain ⟨d10, d11, d12, d13, d14, d15, d16, d17⟩ := el8 HE2.out); clear hb2 KB)
    | (go_at_call 59; (with_reducible refine (HPb.out _ (by repeat first | with_reducible exact HB.out | with_reducible refine Below.drew ?_)).mono ?_); rintro e w2 ⟨rfl, hb2⟩; (have KB : Below wa.heap.size wa w2 := Below.trans (by repeat first | with_reducible exact HB.out | with_reducible refine Below.drew ?_) (hb2.mono (by first | exact HB.out.size | exact Below.size (by repeat first | with_reducible exact HB.out | with_reducible refine Below.drew ?_)))); (have HB := hidS KB); (have HE2 := hidS ((KB.block _ l1).trans E0.out.e)); (obtain ⟨d10, d11, d12, d13, d14, d15, d16, d17⟩ := el8 HE2.out); clear hb2 KB))
  go_wp2_with fail
  go_region_held_law (fun W => W.cell? ⟨w.heap.size, 0, none⟩ = some (.int .u8 (x.k : Int)) ∧ W.cell? ⟨w.heap.size, 1, none⟩ = some (.string x.n) ∧ W.cell? ⟨w.heap.size, 2, none⟩ = some (.string x.a) ∧ W.cell? ⟨w.heap.size, 3, none⟩ = some (.string x.b) ∧ W.cell? ⟨w.heap.size, 4, none⟩ = some (.string x.c) ∧ W.cell? ⟨w.heap.size, 5, none⟩ = some (.string x.d) ∧ W.cell? ⟨w.heap.size, 6, none⟩ = some (.float .f64 x.v) ∧ W.cell? ⟨w.heap.size, 7, none⟩ = some (.int .i64 x.ph)) (first | exact ⟨d10, d11, d12, d13, d14, d15, d16, d17⟩ | exact ⟨c10, c11, c12, c13, c14, c15, c16, c17⟩ | go_keep) (first
    | (go_at_call 59; (with_reducible refine (HPc.out _ (by repeat first | with_reducible exact HB.out | with_reducible refine Below.drew ?_)).mono ?_); rintro e w2 ⟨rfl, hb2⟩; (have KB : Below wa.heap.size wa w2 := Below.trans (by repeat first | with_reducible exact HB.out | with_reducible refine Below.drew ?_) (hb2.mono (by first | exact HB.out.size | exact Below.size (by repeat first | with_reducible exact HB.out | with_reducible refine Below.drew ?_)))); (have HB := hidS KB); (have HE2 := hidS ((KB.block _ l1).trans E0.out.e)); (obtain ⟨d10, d11, d12, d13, d14, d15, d16, d17⟩ := el8 HE2.out); clear hb2 KB)
    | (go_at_call 59; (with_reducible refine (HPd.out _ (by repeat first | with_reducible exact HB.out | with_reducible refine Below.drew ?_)).mono ?_); rintro e w2 ⟨rfl, hb2⟩; (have KB : Below wa.heap.size wa w2 := Below.trans (by repeat first | with_reducible exact HB.out | with_reducible refine Below.drew ?_) (hb2.mono (by first | exact HB.out.size | exact Below.size (by repeat first | with_reducible exact HB.out | with_reducible refine Below.drew ?_)))); (have HB := hidS KB); (have HE2 := hidS ((KB.block _ l1).trans E0.out.e)); (obtain ⟨d10, d11, d12, d13, d14, d15, d16, d17⟩ := el8 HE2.out); clear hb2 KB))
  go_wp2_with (first
    | (go_at_call 60; (with_reducible refine (HBR.out _ (by repeat first | with_reducible exact HB.out | with_reducible refine Below.drew ?_)).mono ?_); rintro e w2 ⟨rfl, hb2⟩; (have KB : Below wa.heap.size wa w2 := Below.trans (by repeat first | with_reducible exact HB.out | with_reducible refine Below.drew ?_) (hb2.mono (by first | exact HB.out.size | exact Below.size (by repeat first | with_reducible exact HB.out | with_reducible refine Below.drew ?_)))); (have HB := hidS KB); (have HE2 := hidS ((KB.block _ l1).trans E0.out.e)); (obtain ⟨d10, d11, d12, d13, d14, d15, d16, d17⟩ := el8 HE2.out); clear hb2 KB)
    | (go_at_call 23; (with_reducible refine (HND.out _ (by repeat first | with_reducible exact HB.out | with_reducible refine Below.drew ?_)).mono ?_); rintro e w2 ⟨A, kc, rfl, hb2⟩; (have KB : Below wa.heap.size wa w2 := Below.trans (by repeat first | with_reducible exact HB.out | with_reducible refine Below.drew ?_) (hb2.mono (by first | exact HB.out.size | exact Below.size (by repeat first | with_reducible exact HB.out | with_reducible refine Below.drew ?_)))); (have HB := hidS KB); (have HE2 := hidS ((KB.block _ l1).trans E0.out.e)); (obtain ⟨d10, d11, d12, d13, d14, d15, d16, d17⟩ := el8 HE2.out); (have HN1 := hidS (HD.out.on KB)); (have c2 := HN1.out.dh.c2); clear hb2 KB)
    | (go_at_call 61; (with_reducible refine (HOF.out _).mono ?_); rintro e w3 ⟨rfl, hb3⟩; (have HE2 := hidS ((hb3.block _ (lt_of_some HE2.out)).trans HE2.out)); (have HN1 := hidS (HN1.out.on hb3)); (have c2 := HN1.out.dh.c2); clear hb3)
    | (go_at_call 62; (with_reducible refine (HAD.out _ _ _ _ _ _ (by assumption) (by assumption) HN1.out (by first | assumption | exact hrow (by first | exact Or.inl (ki5 (by assumption)) | exact Or.inr (ki7 (by assumption)))) (by first | assumption | exact hrow (by first | exact Or.inl (ki5 (by assumption)) | exact Or.inr (ki7 (by assumption))))).mono ?_); rintro e w3 ⟨rfl, hn3, hk3⟩; (have HN1 := hidS hn3); (have c2 := HN1.out.dh.c2); (have HE2 := hidS ((hk3.ot _ (lt_of_some HE2.out) HFR.out.1 HFR.out.2).trans HE2.out)); (obtain ⟨d10, d11, d12, d13, d14, d15, d16, d17⟩ := el8 HE2.out); clear hn3 hk3)
    | (go_at_call 63; (with_reducible refine (HSU.out _ _ _ _ _ _ (by assumption) (by assumption) HN1.out (by first | assumption | exact hrow (by first | exact Or.inl (ki5 (by assumption)) | exact Or.inr (ki7 (by assumption)))) (by first | assumption | exact hrow (by first | exact Or.inl (ki5 (by assumption)) | exact Or.inr (ki7 (by assumption))))).mono ?_); rintro e w3 ⟨rfl, hn3, hk3⟩; (have HN1 := hidS hn3); (have c2 := HN1.out.dh.c2); (have HE2 := hidS ((hk3.ot _ (lt_of_some HE2.out) HFR.out.1 HFR.out.2).trans HE2.out)); (obtain ⟨d10, d11, d12, d13, d14, d15, d16, d17⟩ := el8 HE2.out); clear hn3 hk3))
  all_goals first
    | (refine bodyPost_ret (by simp [results, Try.results32, go_sem]; try rfl) rfl ?_)
    | skip
  all_goals first
    | exact ds_bad HN1.out (ds_adm (N := N) (S := S) (by first | exact Or.inl (ki1 (by assumption)) | exact Or.inr (Or.inl (ki2 (by assumption))) | exact Or.inr (Or.inr (Or.inl (ki3 (by assumption)))) | exact Or.inr (Or.inr (Or.inr (ki8 (by assumption))))) HU.out).1 (by assumption)
    | (have hz := ds_adm (N := N) (S := S) (by first | exact Or.inl (ki1 (by assumption)) | exact Or.inr (Or.inl (ki2 (by assumption))) | exact Or.inr (Or.inr (Or.inl (ki3 (by assumption)))) | exact Or.inr (Or.inr (Or.inr (ki8 (by assumption))))) HU.out
       have hu0 : u = 0 := bne_eq_false_iff_eq.1 (by assumption)
       (first | refine ds_end6 (by rw [hz.1, hu0]) HN1.out (by assumption) (hz.2.trans ?_) | refine ds_end0 (by rw [hz.1, hu0]) HN1.out (by assumption) (hz.2.trans ?_))
       unfold adm; rw [HPL.out.1.1, HPL.out.1.2.1])
    | (have k6 : x.k = 6 := ki6 (by assumption)
       have hz := ds_oth (N := N) (o := o) (S := S) (x := x) (by omega)
       (first | refine ds_end6 hz.1 HN1.out (by assumption) (hz.2.trans ?_) | refine ds_end0 hz.1 HN1.out (by assumption) (hz.2.trans ?_))
       rw [if_neg (by omega), if_neg (by omega), if_pos k6]
       unfold tra; rw [HPL.out.1.1, HPL.out.1.2.1, HPL.out.1.2.2.1, HPL.out.1.2.2.2]; rfl)
    | (have k7 : x.k = 7 := ki7 (by assumption)
       have hz := ds_oth (N := N) (o := o) (S := S) (x := x) (by omega)
       (first | refine ds_end6 hz.1 HN1.out (by assumption) (hz.2.trans ?_) | refine ds_end0 hz.1 HN1.out (by assumption) (hz.2.trans ?_))
       rw [if_neg (by omega), if_neg (by omega), if_neg (by omega)]
       unfold amp bra; rw [HPL.out.1.1, HPL.out.1.2.1, HPL.out.1.2.2.1, HPL.out.1.2.2.2, HPL.out.2]; rfl)
    | (have k5 : x.k = 5 := ki5 (by assumption)
       have hz := ds_oth (N := N) (o := o) (S := S) (x := x) (by omega)
       (first | refine ds_end6 hz.1 HN1.out (by assumption) (hz.2.trans ?_) | refine ds_end0 hz.1 HN1.out (by assumption) (hz.2.trans ?_))
       rw [if_neg (by omega), if_pos k5]
       unfold bra; rw [HPL.out.1.1, HPL.out.1.2.1, HPL.out.2]; rfl)
    | (have a1 : x.k ≠ 1 := kn1 (by assumption)
       have a2 : x.k ≠ 2 := kn2 (by assumption)
       have a3 : x.k ≠ 3 := kn3 (by assumption)
       have a8 : x.k ≠ 8 := kn8 (by assumption)
       have a6 : x.k ≠ 6 := kn6 (by assumption)
       have a5 : x.k ≠ 5 := kn5 (by assumption)
       have a7 : x.k ≠ 7 := kn7 (by assumption)
       have k4 : x.k = 4 := by omega
       have hz := ds_oth (N := N) (o := o) (S := S) (x := x) (Or.inl k4)
       rw [if_pos k4] at hz
       (first | exact ds_end6 hz.1 HN1.out (by assumption) hz.2 | exact ds_end0 hz.1 HN1.out (by assumption) hz.2))
end Go.Proofs.Ytmhplaanpbpndaa
