/-
  The document's conjugates, sums and differences of matrices (gridworkref07).
-/
import Derived.Test.YtomllbpkjhoepaaMi
namespace Go.Proofs.Ytomllbpkjhoepaa
open Fl RowKit

theorem rblankN (R C n : Nat) (w : World) (hn : n = R * C) (hR : R ≤ 64) (hC : C ≤ 64) :
    Calls Try.prog 65 #[.int .i64 R, .int .i64 C] w fun e w' => ∃ g, e = .returned (.agg #[.int .i64 R, .int .i64 C, .slice (some ⟨g, 0, none⟩) n n]) ∧ w'.ownsRow w.heap.size 43 1 (.slice (some ⟨g, 0, none⟩) n n) n ((List.replicate n ((0, 0) : Cw)).map cx) ∧ Below w.heap.size w w' := by
  subst hn; exact rblank R C w hR hC
theorem cell_keep {w : World} {q : Addr} {v u : Value} {g k : Nat} (h : w.cell? q = some v) (hq : q.block ≠ g) : (w.setCell ⟨g, k, none⟩ u).cell? q = some v := by
  rw [other_cell _ (fun e => hq (congrArg Addr.block e.symm))]; exact h
theorem cell_keepD {w : World} {q : Addr} {v u : Value} {g k : Nat} (h : w.cell? q = some v) (hq : q.block ≠ g) : (w.setCell ⟨g, k, none⟩ u).drew.cell? q = some v := cell_keep h hq
theorem cell_keepN {w : World} {q : Addr} {v u : Value} {g k m : Nat} (h : w.cell? q = some v) (hq : q.block ≠ g) : ((w.drewN m).setCell ⟨g, k, none⟩ u).cell? q = some v := cell_keep (w := w.drewN m) h hq
theorem cell_keepND {w : World} {q : Addr} {v u : Value} {g k m : Nat} (h : w.cell? q = some v) (hq : q.block ≠ g) : ((w.drewN m).setCell ⟨g, k, none⟩ u).drew.cell? q = some v := cell_keep (w := w.drewN m) h hq
/-- a row that is written while variables of three cells stay -/
structure Lp (w : World) (g n : Nat) (Ps : List (Nat × Value × Value × Value)) (zs : List Cw) (wr : World) : Prop where
  own : wr.ownsRow w.heap.size 43 1 (.slice (some ⟨g, 0, none⟩) n n) n (zs.map cx)
  len : zs.length = n
  vs : ∀ q ∈ Ps, V3 q.1 q.2.1 q.2.2.1 q.2.2.2 wr
  ne : ∀ q ∈ Ps, q.1 ≠ g
  bel : Below w.heap.size w wr
theorem vnil {wr : World} : ∀ q ∈ ([] : List (Nat × Value × Value × Value)), V3 q.1 q.2.1 q.2.2.1 q.2.2.2 wr := fun _ h => by cases h
theorem vcons {wr : World} {p : Nat} {a b c : Value} {Ps : List (Nat × Value × Value × Value)} (h : V3 p a b c wr) (k : ∀ q ∈ Ps, V3 q.1 q.2.1 q.2.2.1 q.2.2.2 wr) : ∀ q ∈ (p, a, b, c) :: Ps, V3 q.1 q.2.1 q.2.2.1 q.2.2.2 wr := by
  intro q hq
  rcases List.mem_cons.1 hq with e | e
  · subst e; exact h
  · exact k q e
theorem pnil {g : Nat} : ∀ q ∈ ([] : List (Nat × Value × Value × Value)), q.1 ≠ g := fun _ h => by cases h
theorem pcons {g p : Nat} {a b c : Value} {Ps : List (Nat × Value × Value × Value)} (h : p ≠ g) (k : ∀ q ∈ Ps, q.1 ≠ g) : ∀ q ∈ (p, a, b, c) :: Ps, q.1 ≠ g := by
  intro q hq
  rcases List.mem_cons.1 hq with e | e
  · subst e; exact h
  · exact k q e
section lp
variable {w : World} {g n : Nat} {Ps : List (Nat × Value × Value × Value)} {zs : List Cw} {wr : World} (h : Lp w g n Ps zs wr)
include h
theorem Lp.below {w' : World} (hb : Below wr.heap.size wr w') : Lp w g n Ps zs w' := ⟨own_below h.own hb, h.len, fun q hq => (h.vs q hq).below hb, h.ne, b_of h.bel hb h.bel.size⟩
theorem Lp.put {k : Nat} (_hk : k < n) (u : Cw) : Lp w g n Ps (zs.set k u) (wr.setCell ⟨g, k, none⟩ (cx u)) :=
  ⟨by rw [List.map_set]; exact (h.own.stored k (cx u)).1, by simpa using h.len, fun q hq => (h.vs q hq).other (fun e => h.ne q hq e.symm) _, h.ne, h.bel.setCell (h.own.lt g rfl).1 _⟩
theorem Lp.drewN (m : Nat) : Lp w g n Ps zs (wr.drewN m) := ⟨h.own, h.len, fun q hq => (h.vs q hq).drewN m, h.ne, below_drewN h.bel m⟩
theorem Lp.drew : Lp w g n Ps zs wr.drew := h.drewN 1
theorem Lp.lay (a b c : Value) (t : TypeId) (hg : g < wr.heap.size) : Lp w g n ((wr.heap.size, a, b, c) :: Ps) zs (wr.alloc (.cells #[a, b, c] t)) :=
  ⟨own_below h.own (bal _ _), h.len, vcons (v3_new wr a b c t) (fun q hq => (h.vs q hq).below (bal _ _)), pcons (Nat.ne_of_gt hg) h.ne, ba h.bel _⟩
theorem Lp.cell {k : Nat} (hk : k < n) : wr.cell? ⟨g, k, none⟩ = some (.complex .f64 (zat zs k).1 (zat zs k).2) := by
  have e := h.own.cellAt k (by rw [Nat.mul_one]; exact hk)
  rw [List.getElem?_map, zat_lt (by rw [h.len]; exact hk)] at e
  exact e
theorem Lp.froz (k : Nat) : wr.frozen? ⟨g, k, none⟩ = false := h.own.frozenAt k
end lp
set_option maxHeartbeats 2000000 in
theorem raddboth {w : World} {R C n c c' : Nat} {A A' : Option Addr} {F G : Nat → Cn} {xs ys : List Cw} (h : Mx w R C A c F xs) (h' : Mx w R C A' c' G ys) (hne : n = R * C) : Calls Try.prog 69 #[.agg #[.int .i64 R, .int .i64 C, .slice A n c], .agg #[.int .i64 R, .int .i64 C, .slice A' n c'], .bool false] w fun e w' => ∃ g zs, e = .returned (.tuple #[.agg #[.int .i64 R, .int .i64 C, .slice (some ⟨g, 0, none⟩) n n], .int .i64 0]) ∧ New w.heap.size (zipF addZ F G) n zs (.slice (some ⟨g, 0, none⟩) n n) w' ∧ Below w.heap.size w w' := by
  have hR := h.hR
  have hC := h.hC
  have hmb : mb R C n = true := by rw [hne]; exact h.mb
  have h4 : n ≤ 4096 := by rw [hne]; exact le_4096 hR hC
  have hn := small h4
  have HN : Hid (n = R * C) := hne
  have HL : Hid (xs.length = n) := by rw [hne]; exact h.len
  have HF : Hid (repl F n xs) := by rw [hne]; exact h.rep
  have HC : Hid (Rc w A xs) := h.sl.rd
  have HL' : Hid (ys.length = n) := by rw [hne]; exact h'.len
  have HF' : Hid (repl G n ys) := by rw [hne]; exact h'.rep
  have HC' : Hid (Rc w A' ys) := h'.sl.rd
  clear hne h h'
  go_enter Try.func69, Try.ntmps69
  go_wp2_with (first
    | (go_at_call 64; (refine (ris_any _ _ _ _ _ _ hn).mono ?_); (rintro e w' ⟨rfl, rfl⟩); (rw [hmb]))
    | (go_at_call 65; (refine (rblankN R C n _ HN.out hR hC).mono ?_); (rintro e w1 ⟨g, rfl, ho, hb1⟩); (have gl := (ho.lt g rfl).1); (have gu := (ho.lt g rfl).2); (simp only [size_al] at gl); (have B1 : Below w.heap.size w w1 := b_of (by repeat first | exact below_self _ | refine ba ?_ _ ) hb1 (by simp only [size_al]; omega)); (have Va : V3 (w.heap.size) (.int .i64 R) (.int .i64 C) (.slice A n c) w1 := V3.below (by repeat first | exact v3_at _ _ _ _ _ (by first | rfl | (simp only [size_al]; first | done | omega)) | refine V3.below ?_ (bal _ _)) hb1); (have Vb : V3 (w.heap.size + 1) (.int .i64 R) (.int .i64 C) (.slice A' n c') w1 := V3.below (by repeat first | exact v3_at _ _ _ _ _ (by first | rfl | (simp only [size_al]; first | done | omega)) | refine V3.below ?_ (bal _ _)) hb1); (have Vr : V3 (w.heap.size + 1 + 1) (.int .i64 0) (.int .i64 0) (.slice none 0 0) w1 := V3.below (by repeat first | exact v3_at _ _ _ _ _ (by first | rfl | (simp only [size_al]; first | done | omega)) | refine V3.below ?_ (bal _ _)) hb1); (have L1 : Lp w g n [(w.heap.size, .int .i64 R, .int .i64 C, .slice A n c), (w.heap.size + 1, .int .i64 R, .int .i64 C, .slice A' n c'), (w.heap.size + 1 + 1, .int .i64 0, .int .i64 0, .slice none 0 0)] (List.replicate n (0, 0)) w1 := ⟨own_base ho (show w.heap.size ≤ _ by simp only [size_al]; omega), by simp, (vcons Va (vcons Vb (vcons Vr vnil))), (pcons (p := w.heap.size) (by omega) (pcons (p := w.heap.size + 1) (by omega) (pcons (p := w.heap.size + 1 + 1) (by omega) pnil))), B1⟩); (have s1 := hb1.size); (simp only [size_al] at s1); (have L2 := L1.lay (.int .i64 R) (.int .i64 C) (.slice (some ⟨g, 0, none⟩) n n) 28 gu); clear ho hb1 L1 Va Vb Vr))
  go_loopw [9] (fun iv wr => ∃ (k : Nat) (zs : List Cw), k ≤ n ∧ iv = .int .i64 k ∧ repl (zipF addZ F G) k zs ∧ Lp w g n [(w1.heap.size, .int .i64 R, .int .i64 C, .slice (some ⟨g, 0, none⟩) n n), (w.heap.size, .int .i64 R, .int .i64 C, .slice A n c), (w.heap.size + 1, .int .i64 R, .int .i64 C, .slice A' n c'), (w.heap.size + 1 + 1, .int .i64 0, .int .i64 0, .slice none 0 0)] zs wr) (fun iv _ => n - (intOf iv).toNat)
  case atStart => exact ⟨0, List.replicate n (0, 0), Nat.zero_le _, rfl, fun j hj => absurd hj (by omega), L2⟩
  case round =>
    clear L2 B1
    obtain ⟨k, zs, hk, rfl, hr, L⟩ := hrel
    have hl := L.len
    by_cases hlt : k < n
    · have hm2 := (L.vs _ (List.mem_cons_self ..)).c2
      have ha2 := (L.vs (w.heap.size, .int .i64 R, .int .i64 C, .slice A n c) (by simp)).c2
      have hb2 := (L.vs (w.heap.size + 1, .int .i64 R, .int .i64 C, .slice A' n c') (by simp)).c2
      obtain ⟨b, off, rfl, hb, hcx⟩ := HC.out.below L.bel k (by rw [HL.out]; exact hlt)
      obtain ⟨b', off', e', hb', _⟩ := HC.out k (by rw [HL.out]; exact hlt)
      cases e'
      obtain ⟨d, of2, rfl, hd, hcy⟩ := HC'.out.below L.bel k (by rw [HL'.out]; exact hlt)
      obtain ⟨d', of2', e', hd', _⟩ := HC'.out k (by rw [HL'.out]; exact hlt)
      cases e'
      obtain ⟨o1, o2⟩ := HF.out k hlt
      obtain ⟨o3, o4⟩ := HF'.out k hlt
      obtain ⟨x, hxe⟩ : ∃ x, x = zat xs k := ⟨_, rfl⟩
      obtain ⟨y, hye⟩ : ∃ y, y = zat ys k := ⟨_, rfl⟩
      rw [← hxe] at hcx o1 o2
      rw [← hye] at hcy o3 o4
      have hcell := L.cell hlt
      have hfz := L.froz k
      have HLp : Hid (Lp w g n _ zs wr) := L
      have HR : Hid (repl (zipF addZ F G) k zs) := hr
      unfold cx at hcx hcy
      clear hxe hye hr L
      go_wp2_with fail
      go_region_held_law (fun V => V.cell? ⟨w1.heap.size, 2, none⟩ = some (.slice (some ⟨g, 0, none⟩) n n) ∧ V.cell? ⟨w.heap.size, 2, none⟩ = some (.slice (some ⟨b, off, none⟩) n c) ∧ V.cell? ⟨w.heap.size + 1, 2, none⟩ = some (.slice (some ⟨d, of2, none⟩) n c') ∧ V.cell? ⟨b, off + k, none⟩ = some (.complex .f64 x.1 x.2) ∧ V.cell? ⟨d, of2 + k, none⟩ = some (.complex .f64 y.1 y.2))
        (first | with_reducible exact ⟨cell_keepN hm2 (by simp; omega), cell_keepN ha2 (by simp; omega), cell_keepN hb2 (by simp; omega), cell_keepN hcx (by simp; omega), cell_keepN hcy (by simp; omega)⟩ | with_reducible exact ⟨cell_keepND hm2 (by simp; omega), cell_keepND ha2 (by simp; omega), cell_keepND hb2 (by simp; omega), cell_keepND hcx (by simp; omega), cell_keepND hcy (by simp; omega)⟩ | go_keep)
        ((first
          | (go_at_call 66; (with_reducible refine (radd_any _ o1 o2 o3 o4).mono ?_); rintro e w2 ⟨re, im, m, rfl, hre, him, hw2⟩; subst w2)))
      go_wp2
      go_roundw
      case rel => exact ⟨k + 1, zs.set k (re, im), by omega, by go_num, HR.out.set (by omega) ⟨hre, him⟩, (HLp.out.drewN _).put hlt (re, im)⟩
      case measure => simp [intOf]; omega
    · have e : k = n := by omega
      have HE : Hid (k = n) := e
      clear e
      have Vm := L.vs _ (List.mem_cons_self ..)
      have hm0 := Vm.c0
      have hm1 := Vm.c1
      have hm2 := Vm.c2
      have Vr := L.vs (w.heap.size + 1 + 1, .int .i64 0, .int .i64 0, .slice none 0 0) (by simp)
      obtain ⟨r0, r1, r2⟩ := Vr.reads
      obtain ⟨vl, q0, q1, q2, q3, q4, q5⟩ := Vr
      have HLp : Hid (Lp w g n _ zs wr) := L
      clear L
      go_wp2
      refine bodyPost_ret (by simp [results, Try.results69, go_sem, r0, r1, r2]; try rfl) rfl ?_
      have hN : New w.heap.size (zipF addZ F G) n zs (.slice (some ⟨g, 0, none⟩) n n) wr := ⟨HLp.out.len, by rw [← HE.out]; exact hr, HLp.out.own⟩
      have hX := hN.set3 (p := w.heap.size + 1 + 1) (by omega) (.int .i64 R) (.int .i64 C) (.slice (some ⟨g, 0, none⟩) n n)
      have hY := below_set3 (p := w.heap.size + 1 + 1) HLp.out.bel (by omega) (.int .i64 R) (.int .i64 C) (.slice (some ⟨g, 0, none⟩) n n)
      first | exact ⟨_, zs, rfl, hX, hY⟩ | exact ⟨_, rfl, ⟨zs, hX⟩, hY⟩ | exact ⟨_, rfl, zs, hX, hY⟩
set_option maxHeartbeats 2000000 in
theorem rsubboth {w : World} {R C n c c' : Nat} {A A' : Option Addr} {F G : Nat → Cn} {xs ys : List Cw} (h : Mx w R C A c F xs) (h' : Mx w R C A' c' G ys) (hne : n = R * C) : Calls Try.prog 69 #[.agg #[.int .i64 R, .int .i64 C, .slice A n c], .agg #[.int .i64 R, .int .i64 C, .slice A' n c'], .bool true] w fun e w' => ∃ g zs, e = .returned (.tuple #[.agg #[.int .i64 R, .int .i64 C, .slice (some ⟨g, 0, none⟩) n n], .int .i64 0]) ∧ New w.heap.size (zipF subZ F G) n zs (.slice (some ⟨g, 0, none⟩) n n) w' ∧ Below w.heap.size w w' := by
  have hR := h.hR
  have hC := h.hC
  have hmb : mb R C n = true := by rw [hne]; exact h.mb
  have h4 : n ≤ 4096 := by rw [hne]; exact le_4096 hR hC
  have hn := small h4
  have HN : Hid (n = R * C) := hne
  have HL : Hid (xs.length = n) := by rw [hne]; exact h.len
  have HF : Hid (repl F n xs) := by rw [hne]; exact h.rep
  have HC : Hid (Rc w A xs) := h.sl.rd
  have HL' : Hid (ys.length = n) := by rw [hne]; exact h'.len
  have HF' : Hid (repl G n ys) := by rw [hne]; exact h'.rep
  have HC' : Hid (Rc w A' ys) := h'.sl.rd
  clear hne h h'
  go_enter Try.func69, Try.ntmps69
  go_wp2_with (first
    | (go_at_call 64; (refine (ris_any _ _ _ _ _ _ hn).mono ?_); (rintro e w' ⟨rfl, rfl⟩); (rw [hmb]))
    | (go_at_call 65; (refine (rblankN R C n _ HN.out hR hC).mono ?_); (rintro e w1 ⟨g, rfl, ho, hb1⟩); (have gl := (ho.lt g rfl).1); (have gu := (ho.lt g rfl).2); (simp only [size_al] at gl); (have B1 : Below w.heap.size w w1 := b_of (by repeat first | exact below_self _ | refine ba ?_ _ ) hb1 (by simp only [size_al]; omega)); (have Va : V3 (w.heap.size) (.int .i64 R) (.int .i64 C) (.slice A n c) w1 := V3.below (by repeat first | exact v3_at _ _ _ _ _ (by first | rfl | (simp only [size_al]; first | done | omega)) | refine V3.below ?_ (bal _ _)) hb1); (have Vb : V3 (w.heap.size + 1) (.int .i64 R) (.int .i64 C) (.slice A' n c') w1 := V3.below (by repeat first | exact v3_at _ _ _ _ _ (by first | rfl | (simp only [size_al]; first | done | omega)) | refine V3.below ?_ (bal _ _)) hb1); (have Vr : V3 (w.heap.size + 1 + 1) (.int .i64 0) (.int .i64 0) (.slice none 0 0) w1 := V3.below (by repeat first | exact v3_at _ _ _ _ _ (by first | rfl | (simp only [size_al]; first | done | omega)) | refine V3.below ?_ (bal _ _)) hb1); (have L1 : Lp w g n [(w.heap.size, .int .i64 R, .int .i64 C, .slice A n c), (w.heap.size + 1, .int .i64 R, .int .i64 C, .slice A' n c'), (w.heap.size + 1 + 1, .int .i64 0, .int .i64 0, .slice none 0 0)] (List.replicate n (0, 0)) w1 := ⟨own_base ho (show w.heap.size ≤ _ by simp only [size_al]; omega), by simp, (vcons Va (vcons Vb (vcons Vr vnil))), (pcons (p := w.heap.size) (by omega) (pcons (p := w.heap.size + 1) (by omega) (pcons (p := w.heap.size + 1 + 1) (by omega) pnil))), B1⟩); (have s1 := hb1.size); (simp only [size_al] at s1); (have L2 := L1.lay (.int .i64 R) (.int .i64 C) (.slice (some ⟨g, 0, none⟩) n n) 28 gu); clear ho hb1 L1 Va Vb Vr))
  go_loopw [9] (fun iv wr => ∃ (k : Nat) (zs : List Cw), k ≤ n ∧ iv = .int .i64 k ∧ repl (zipF subZ F G) k zs ∧ Lp w g n [(w1.heap.size, .int .i64 R, .int .i64 C, .slice (some ⟨g, 0, none⟩) n n), (w.heap.size, .int .i64 R, .int .i64 C, .slice A n c), (w.heap.size + 1, .int .i64 R, .int .i64 C, .slice A' n c'), (w.heap.size + 1 + 1, .int .i64 0, .int .i64 0, .slice none 0 0)] zs wr) (fun iv _ => n - (intOf iv).toNat)
  case atStart => exact ⟨0, List.replicate n (0, 0), Nat.zero_le _, rfl, fun j hj => absurd hj (by omega), L2⟩
  case round =>
    clear L2 B1
    obtain ⟨k, zs, hk, rfl, hr, L⟩ := hrel
    have hl := L.len
    by_cases hlt : k < n
    · have hm2 := (L.vs _ (List.mem_cons_self ..)).c2
      have ha2 := (L.vs (w.heap.size, .int .i64 R, .int .i64 C, .slice A n c) (by simp)).c2
      have hb2 := (L.vs (w.heap.size + 1, .int .i64 R, .int .i64 C, .slice A' n c') (by simp)).c2
      obtain ⟨b, off, rfl, hb, hcx⟩ := HC.out.below L.bel k (by rw [HL.out]; exact hlt)
      obtain ⟨b', off', e', hb', _⟩ := HC.out k (by rw [HL.out]; exact hlt)
      cases e'
      obtain ⟨d, of2, rfl, hd, hcy⟩ := HC'.out.below L.bel k (by rw [HL'.out]; exact hlt)
      obtain ⟨d', of2', e', hd', _⟩ := HC'.out k (by rw [HL'.out]; exact hlt)
      cases e'
      obtain ⟨o1, o2⟩ := HF.out k hlt
      obtain ⟨o3, o4⟩ := HF'.out k hlt
      obtain ⟨x, hxe⟩ : ∃ x, x = zat xs k := ⟨_, rfl⟩
      obtain ⟨y, hye⟩ : ∃ y, y = zat ys k := ⟨_, rfl⟩
      rw [← hxe] at hcx o1 o2
      rw [← hye] at hcy o3 o4
      have hcell := L.cell hlt
      have hfz := L.froz k
      have HLp : Hid (Lp w g n _ zs wr) := L
      have HR : Hid (repl (zipF subZ F G) k zs) := hr
      unfold cx at hcx hcy
      clear hxe hye hr L
      go_wp2_with fail
      go_region_held_law (fun V => V.cell? ⟨w1.heap.size, 2, none⟩ = some (.slice (some ⟨g, 0, none⟩) n n) ∧ V.cell? ⟨w.heap.size, 2, none⟩ = some (.slice (some ⟨b, off, none⟩) n c) ∧ V.cell? ⟨w.heap.size + 1, 2, none⟩ = some (.slice (some ⟨d, of2, none⟩) n c') ∧ V.cell? ⟨b, off + k, none⟩ = some (.complex .f64 x.1 x.2) ∧ V.cell? ⟨d, of2 + k, none⟩ = some (.complex .f64 y.1 y.2))
        (first | with_reducible exact ⟨cell_keepN hm2 (by simp; omega), cell_keepN ha2 (by simp; omega), cell_keepN hb2 (by simp; omega), cell_keepN hcx (by simp; omega), cell_keepN hcy (by simp; omega)⟩ | with_reducible exact ⟨cell_keepND hm2 (by simp; omega), cell_keepND ha2 (by simp; omega), cell_keepND hb2 (by simp; omega), cell_keepND hcx (by simp; omega), cell_keepND hcy (by simp; omega)⟩ | go_keep)
        ((first
          | (go_at_call 93; (with_reducible refine (rsub_any _ o1 o2 o3 o4).mono ?_); rintro e w2 ⟨re, im, m, rfl, hre, him, hw2⟩; subst w2)))
      go_wp2
      go_roundw
      case rel => exact ⟨k + 1, zs.set k (re, im), by omega, by go_num, HR.out.set (by omega) ⟨hre, him⟩, (HLp.out.drewN _).put hlt (re, im)⟩
      case measure => simp [intOf]; omega
    · have e : k = n := by omega
      have HE : Hid (k = n) := e
      clear e
      have Vm := L.vs _ (List.mem_cons_self ..)
      have hm0 := Vm.c0
      have hm1 := Vm.c1
      have hm2 := Vm.c2
      have Vr := L.vs (w.heap.size + 1 + 1, .int .i64 0, .int .i64 0, .slice none 0 0) (by simp)
      obtain ⟨r0, r1, r2⟩ := Vr.reads
      obtain ⟨vl, q0, q1, q2, q3, q4, q5⟩ := Vr
      have HLp : Hid (Lp w g n _ zs wr) := L
      clear L
      go_wp2
      refine bodyPost_ret (by simp [results, Try.results69, go_sem, r0, r1, r2]; try rfl) rfl ?_
      have hN : New w.heap.size (zipF subZ F G) n zs (.slice (some ⟨g, 0, none⟩) n n) wr := ⟨HLp.out.len, by rw [← HE.out]; exact hr, HLp.out.own⟩
      have hX := hN.set3 (p := w.heap.size + 1 + 1) (by omega) (.int .i64 R) (.int .i64 C) (.slice (some ⟨g, 0, none⟩) n n)
      have hY := below_set3 (p := w.heap.size + 1 + 1) HLp.out.bel (by omega) (.int .i64 R) (.int .i64 C) (.slice (some ⟨g, 0, none⟩) n n)
      first | exact ⟨_, zs, rfl, hX, hY⟩ | exact ⟨_, rfl, ⟨zs, hX⟩, hY⟩ | exact ⟨_, rfl, zs, hX, hY⟩

end Go.Proofs.Ytomllbpkjhoepaa
