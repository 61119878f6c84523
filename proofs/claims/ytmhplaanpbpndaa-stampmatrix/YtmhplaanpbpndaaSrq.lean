/-
  The right side by list: what is refused is what is not finite; where a branch stands.
-/
import Derived.Test.YtmhplaanpbpndaaSrm
import Derived.Test.YtmhplaanpbpndaaSrp
namespace Go.Proofs.Ytmhplaanpbpndaa
open Fl RowKit
set_option linter.unusedVariables false

theorem rput_same {op : Cn → Cn → Cn} {i : Int} {Y : Cn} {R : Nat → Cn} {j : Nat} (h : (j : Int) = i) : rput op i Y R j = op (R j) Y := by unfold rput; rw [if_pos h]
theorem rput_other {op : Cn → Cn → Cn} {i : Int} {Y : Cn} {R : Nat → Cn} {j : Nat} (h : (j : Int) ≠ i) : rput op i Y R j = R j := by unfold rput; rw [if_neg h]
theorem rfin_iff {op : Cn → Cn → Cn} {i : Int} {Y : Cn} {R : Nat → Cn} : rfin op i Y R = true ↔ (i < 0 ∨ finC (op (R i.toNat) Y) = true) := by
  unfold rfin
  rw [Bool.or_eq_true, decide_eq_true_eq]
theorem one_fin {op : Cn → Cn → Cn} {p : Int} {Y : Cn} {R : Nat → Cn} {n : Nat} (hp : p < n) (hR : ∀ j, j < n → finC (R j) = true) : rfin op p Y R = true ↔ ∀ j, j < n → finC (rput op p Y R j) = true := by
  rw [rfin_iff]
  constructor
  · intro h j hj
    by_cases e : (j : Int) = p
    · rw [rput_same e]
      rcases h with h | h
      · omega
      · rw [show p.toNat = j by omega] at h; exact h
    · rw [rput_other e]; exact hR j hj
  · intro h
    by_cases hn : p < 0
    · exact .inl hn
    · right
      have := h p.toNat (by omega)
      rwa [rput_same (by omega)] at this
theorem two_fin {o1 o2 : Cn → Cn → Cn} {pa pb : Int} {Y : Cn} {R : Nat → Cn} {n : Nat} (hab : pa ≠ pb) (ha : pa < n) (hb : pb < n) (hR : ∀ j, j < n → finC (R j) = true) :
    (rfin o1 pa Y R = true ∧ rfin o2 pb Y (rput o1 pa Y R) = true) ↔ ∀ j, j < n → finC (rput o2 pb Y (rput o1 pa Y R) j) = true := by
  rw [rfin_iff, rfin_iff]
  constructor
  · rintro ⟨h1, h2⟩ j hj
    by_cases e : (j : Int) = pb
    · rw [rput_same e]
      rcases h2 with h2 | h2
      · omega
      · rw [show pb.toNat = j by omega] at h2; exact h2
    · rw [rput_other e]
      by_cases e2 : (j : Int) = pa
      · rw [rput_same e2]
        rcases h1 with h1 | h1
        · omega
        · rw [show pa.toNat = j by omega] at h1; exact h1
      · rw [rput_other e2]; exact hR j hj
  · intro h
    constructor
    · by_cases hn : pa < 0
      · exact .inl hn
      · right
        have := h pa.toNat (by omega)
        rwa [rput_other (by omega), rput_same (by omega)] at this
    · by_cases hn : pb < 0
      · exact .inl hn
      · right
        have := h pb.toNat (by omega)
        rwa [rput_same (by omega)] at this
theorem idx_get : ∀ (xs : List (List UInt8)) (s : List UInt8), s ∈ xs → xs[xs.idxOf s]? = some s := by
  intro xs
  induction xs with
  | nil => intro s h; cases h
  | cons y l ih =>
    intro s h
    rw [List.idxOf_cons]
    by_cases e : y = s
    · rw [beq_iff_eq.2 e, e]; rfl
    · rw [beq_eq_false_iff_ne.2 e]
      exact ih s ((List.mem_cons.1 h).resolve_left (fun q => e q.symm))
theorem posL_inj {xs : List (List UInt8)} {s t : List UInt8} (hs : s ∈ xs) (ht : t ∈ xs) (h : posL xs s = posL xs t) : s = t := by
  unfold posL at h
  rw [if_pos hs, if_pos ht] at h
  have h1 := idx_get xs s hs
  rw [h, idx_get xs t ht] at h1
  exact (Option.some.inj h1).symm
/-- the places of a made net's element are two -/
theorem Md.ab {N : Ns} (h : Md N) {x : Elm} (hx : x ∈ N.es) : plI N x.a ≠ plI N x.b := by
  obtain ⟨h1, h2, h3⟩ := h.nv.el x hx
  intro e
  unfold plI at e
  by_cases ha : bl x.a ∈ N.nd <;> by_cases hb : bl x.b ∈ N.nd
  · rw [if_pos ha, if_pos hb] at e
    exact h3.ab (posL_inj ha hb (by omega))
  · rw [if_pos ha, if_neg hb] at e
    omega
  · rw [if_neg ha, if_pos hb] at e
    omega
  · have q1 : bl x.a = [48] := (List.mem_cons.1 h1).resolve_right ha
    have q2 : bl x.b = [48] := (List.mem_cons.1 h2).resolve_right hb
    exact h3.ab (q1.trans q2.symm)
theorem rok_fin {N : Ns} (h : Md N) {x : Elm} (hx : x ∈ N.es) {Y : Cn} {R : Nat → Cn} (hR : ∀ j, j < N.nd.length + N.br.length → finC (R j) = true) : rok N x Y R = true ↔ ∀ j, j < N.nd.length + N.br.length → finC (rJ N x Y R (eM x) j) = true := by
  unfold rok
  rw [decide_eq_true_eq]
  have e0 : rJ N x Y R 0 = R := rfl
  have e1 : rJ N x Y R 1 = rput (eO x 0) (eI N x 0) Y R := rfl
  have e2 : rJ N x Y R 2 = rput (eO x 1) (eI N x 1) Y (rput (eO x 0) (eI N x 0) Y R) := rfl
  rcases kinds45 x.k with hk | hk | ⟨k4, k5⟩
  · have m2 : eM x = 2 := by unfold eM; rw [if_pos hk]
    have i0 := eI_hi (N := N) (x := x) (j := 0) (by omega) (fun q => h.br5 hx q)
    have i1 := eI_hi (N := N) (x := x) (j := 1) (by omega) (fun q => h.br5 hx q)
    have hab : eI N x 0 ≠ eI N x 1 := by
      unfold eI
      rw [if_pos hk, if_pos hk, if_pos rfl, if_neg (by decide)]
      exact h.ab hx
    rw [m2, e2, ← two_fin hab i0 i1 hR]
    constructor
    · intro q
      exact ⟨q 0 (by omega), q 1 (by omega)⟩
    · rintro ⟨q0, q1⟩ j hj
      rcases (by omega : j = 0 ∨ j = 1) with rfl | rfl
      · exact q0
      · exact q1
  · have m1 : eM x = 1 := by unfold eM; rw [if_neg (by omega), if_pos hk]
    have i0 := eI_hi (N := N) (x := x) (j := 0) (by omega) (fun q => h.br5 hx q)
    rw [m1, e1, ← one_fin i0 hR]
    constructor
    · intro q
      exact q 0 (by omega)
    · intro q j hj
      obtain rfl : j = 0 := by omega
      exact q
  · have m0 : eM x = 0 := by unfold eM; rw [if_neg k4, if_neg k5]
    rw [m0, e0]
    exact ⟨fun _ => hR, fun _ j hj => absurd hj (Nat.not_lt_zero j)⟩
theorem brR_app (l m : List Elm) : brR (l ++ m) = brR l ++ brR m := by unfold brR; rw [List.filter_append, List.map_append]
/-- where a branch stands: how many there are ahead of it -/
theorem posL_brR {l : List Elm} {i : Nat} {x : Elm} (hx : l[i]? = some x) (hb : isB x = true) (hn : (l.map fun x => bl x.n).Nodup) : posL (brR l) (bl x.n) = (brR (l.take i)).length := by
  obtain ⟨h1, h2⟩ := List.getElem?_eq_some_iff.1 hx
  have hl : l = l.take i ++ (x :: l.drop (i + 1)) := by
    rw [← h2, ← List.drop_eq_getElem_cons h1, List.take_append_drop]
  have hmem : bl x.n ∈ brR l := List.mem_map.2 ⟨x, List.mem_filter.2 ⟨List.mem_of_getElem? hx, hb⟩, rfl⟩
  have hnot : bl x.n ∉ brR (l.take i) := by
    intro q
    have q2 := brR_sub q
    rw [hl, List.map_append, List.nodup_append] at hn
    exact hn.2.2 _ q2 _ (by rw [List.map_cons]; exact List.mem_cons_self) rfl
  unfold posL
  rw [if_pos hmem]
  have e : brR l = brR (l.take i) ++ (bl x.n :: brR (l.drop (i + 1))) := by
    conv => lhs; rw [hl]
    rw [brR_app]
    congr 1
    unfold brR
    rw [List.filter_cons, if_pos hb, List.map_cons]
  rw [e, List.idxOf_append, if_neg hnot, List.idxOf_cons_self]
  simp
end Go.Proofs.Ytmhplaanpbpndaa
