/-
  Opposite sources: their elements make a net alike; its right side's numbers equal the opposites.
-/
import Derived.Test.YtpjpamdocfdibaaSsp
import Derived.Test.YtpjpamdocfdibaaSrx
namespace Go.Proofs.Ytpjpamdocfdibaa
open Fl RowKit
set_option linter.unusedVariables false

/-- an element the other way round: its Value, or its Phase -/
def tuE (ph : Bool) (x : Elm) : Elm := if x.k = 4 ∨ x.k = 5 then (if ph = true then ⟨x.k, x.n, x.a, x.b, x.c, x.d, x.v, x.ph.tmod 24 + 12⟩ else ⟨x.k, x.n, x.a, x.b, x.c, x.d, ngW x.v, x.ph⟩) else x
theorem tuE_k (ph : Bool) (x : Elm) : (tuE ph x).k = x.k := by unfold tuE; split <;> (try split) <;> rfl
theorem tuE_n (ph : Bool) (x : Elm) : (tuE ph x).n = x.n := by unfold tuE; split <;> (try split) <;> rfl
theorem tuE_a (ph : Bool) (x : Elm) : (tuE ph x).a = x.a := by unfold tuE; split <;> (try split) <;> rfl
theorem tuE_b (ph : Bool) (x : Elm) : (tuE ph x).b = x.b := by unfold tuE; split <;> (try split) <;> rfl
theorem tuE_c (ph : Bool) (x : Elm) : (tuE ph x).c = x.c := by unfold tuE; split <;> (try split) <;> rfl
theorem tuE_d (ph : Bool) (x : Elm) : (tuE ph x).d = x.d := by unfold tuE; split <;> (try split) <;> rfl
theorem kdB_ng {v : Nat} (h : v < 18446744073709551616) : kdB (ngW v) = kdB v := by unfold kdB; rw [nan_ngW h, mg_ngW h]
theorem tuE_ck (ph : Bool) {x : Elm} (hv : x.v < 18446744073709551616) (h : chkI x = 0) : chkI (tuE ph x) = 0 := by
  by_cases hk : x.k = 4 ∨ x.k = 5
  · have hab : abv x.k = false := by rcases hk with q | q <;> rw [q] <;> rfl
    have hph : phs x.k = true := by rcases hk with q | q <;> rw [q] <;> rfl
    have hn : naF (tuE ph x) = naF x := by unfold naF; rw [tuE_n, tuE_k, tuE_a, tuE_b, tuE_c, tuE_d]
    have hs : spF (tuE ph x) = spF x := by unfold spF; rw [tuE_k, tuE_c, tuE_d, hph]; rfl
    have hd : kdB (tuE ph x).v = kdB x.v := by
      unfold tuE
      rw [if_pos hk]
      split
      · rfl
      · exact kdB_ng hv
    rw [← h]
    unfold chkI
    rw [hn, hs, hd, tuE_k, tuE_a, tuE_b, hab]
    simp
  · have : tuE ph x = x := by unfold tuE; rw [if_neg hk]
    rw [this]; exact h
theorem tmod24 (p : Int) : -23 ≤ p.tmod 24 ∧ p.tmod 24 ≤ 23 := by
  rcases Int.lt_or_le p 0 with h | h
  · have h1 := Int.neg_tmod (-p) 24
    rw [Int.neg_neg] at h1
    have h2 : (-p).tmod 24 = (-p) % 24 := Int.tmod_eq_emod_of_nonneg (by omega)
    rw [h1, h2]; omega
  · rw [Int.tmod_eq_emod_of_nonneg h]; omega
theorem tmod_mod (p : Int) : (p.tmod 24 + 12) % 24 = (p + 12) % 24 := by
  rcases Int.lt_or_le p 0 with h | h
  · have h1 := Int.neg_tmod (-p) 24
    rw [Int.neg_neg] at h1
    have h2 : (-p).tmod 24 = (-p) % 24 := Int.tmod_eq_emod_of_nonneg (by omega)
    rw [h1, h2]; omega
  · rw [Int.tmod_eq_emod_of_nonneg h]; omega
theorem tuE_ok (ph : Bool) {x : Elm} (h : x.ok) : (tuE ph x).ok := by
  refine ⟨by rw [tuE_k]; exact h.k, by rw [tuE_n]; exact h.n, by rw [tuE_a]; exact h.a, by rw [tuE_b]; exact h.b, by rw [tuE_c]; exact h.c, by rw [tuE_d]; exact h.d, ?_⟩
  unfold tuE
  split
  · split
    · exact h.v
    · exact ngW_lt h.v
  · exact h.v
theorem tuE_pb (ph : Bool) {x : Elm} (h : x.phb) : (tuE ph x).phb := by
  have := tmod24 x.ph
  unfold tuE
  split
  · split
    · exact ⟨by show _ ≤ x.ph.tmod 24 + 12; omega, by show x.ph.tmod 24 + 12 < _; omega⟩
    · exact ⟨h.lo, h.hi⟩
  · exact h
/-- a net with other elements -/
def wiE (f : Elm → Elm) (N : Ns) : Ns := ⟨N.es.map f, N.nm, N.nd, N.br⟩
theorem lay_map (ph : Bool) (N : Ns) (x : Elm) : (wiE (tuE ph) N).lay (tuE ph x) = wiE (tuE ph) (N.lay x) := by
  unfold Ns.lay wiE
  rw [tuE_n]
  have e1 : ndE N.nd (tuE ph x) = ndE N.nd x := by unfold ndE; rw [tuE_a, tuE_b, tuE_c, tuE_d]
  have e2 : brE N.br (tuE ph x) = brE N.br x := by unfold brE isB; rw [tuE_k, tuE_n]
  simp only [List.map_append, List.map_cons, List.map_nil, e1, e2]
theorem ofR_map (ph : Bool) : ∀ (l : List Elm) (N N' : Ns) (i : Nat), (∀ x ∈ l, x.v < 18446744073709551616) → ofR N i l = ((0, 0), N') → ofR (wiE (tuE ph) N) i (l.map (tuE ph)) = ((0, 0), wiE (tuE ph) N') := by
  intro l
  induction l with
  | nil =>
    intro N N' i _ h
    unfold ofR at h
    split at h
    · simp at h
    · rename_i hb
      have : N = N' := by simpa using h
      subst this
      show ofR (wiE (tuE ph) N) i [] = _
      unfold ofR
      exact if_neg hb
  | cons x t ih =>
    intro N N' i hv h
    by_cases hc : chkI x = 0
    · by_cases hn : bl x.n ∈ N.nm
      · rw [ofR_there hc hn] at h
        simp at h
      · rw [ofR_go hc hn] at h
        rw [List.map_cons, ofR_go (tuE_ck ph (hv x List.mem_cons_self) hc) (by rw [tuE_n]; exact hn), lay_map]
        exact ih _ _ _ (fun y hy => hv y (List.mem_cons_of_mem _ hy)) h
    · rw [ofR_bad hc] at h
      simp at h
      exact absurd h.1.1 hc
theorem ofA_map (ph : Bool) {l : List Elm} {N : Ns} (hv : ∀ x ∈ l, x.v < 18446744073709551616) (h : ofA l = ((0, 0), N)) : ofA (l.map (tuE ph)) = ((0, 0), wiE (tuE ph) N) := by
  unfold ofA at h ⊢
  rw [List.length_map]
  split at h
  · simp at h
  · rename_i hl
    rw [if_neg hl]
    exact ofR_map ph l Ns.nil N 0 hv h
/-- equal to the opposite -/
def Oz (X Y : Cn) : Prop := eqz Y.1 (negA X.1) ∧ eqz Y.2 (negA X.2)
/-- bounds -/
def bdZ (X : Cn) : Prop := bdA X.1 ∧ bdA X.2
theorem eqz.trans2 {A B C : Option Nat} (h : eqz A B) (k : eqz B C) : eqz A C := by
  rcases h with rfl | ⟨x, y, rfl, rfl, h1, h2⟩
  · exact k
  · rcases k with rfl | ⟨y', z, e, rfl, h3, h4⟩
    · exact .inr ⟨x, y, rfl, rfl, h1, h2⟩
    · exact .inr ⟨x, z, rfl, rfl, h1, h4⟩
theorem oz_sub {X X' Y Y' : Cn} (h : Oz X X') (k : Oz Y Y') (hX : bdZ X) (hY : bdZ Y) (hY' : bdZ Y') : Oz (subZ X Y) (subZ X' Y') :=
  ⟨((h.1.sub' hY'.1).trans2 (k.1.sub hY'.1 (bd_negA hY.1) _)).trans2 (subA_ng hX.1 hY.1), ((h.2.sub' hY'.2).trans2 (k.2.sub hY'.2 (bd_negA hY.2) _)).trans2 (subA_ng hX.2 hY.2)⟩
theorem oz_add {X X' Y Y' : Cn} (h : Oz X X') (k : Oz Y Y') (hX : bdZ X) (hY : bdZ Y) : Oz (addZ X Y) (addZ X' Y') :=
  ⟨((h.1.add' _).trans2 (k.1.add _)).trans2 (addA_ng hX.1 hY.1), ((h.2.add' _).trans2 (k.2.add _)).trans2 (addA_ng hX.2 hY.2)⟩
theorem bdZ_sub (X Y : Cn) : bdZ (subZ X Y) := ⟨bd_subA _ _, bd_subA _ _⟩
theorem bdZ_add (X Y : Cn) : bdZ (addZ X Y) := ⟨bd_addA _ _, bd_addA _ _⟩
/-- two numbers that are opposite, and bounded -/
structure Ob2 (X Y : Cn) : Prop where
  o : Oz X Y
  x : bdZ X
  y : bdZ Y
def OzR (R R' : Nat → Cn) : Prop := ∀ j, Ob2 (R j) (R' j)
theorem ob_0 : Ob2 (some 0, some 0) (some 0, some 0) := ⟨⟨zero_eqz, zero_eqz⟩, ⟨bd_0, bd_0⟩, ⟨bd_0, bd_0⟩⟩
theorem ozR_0 : OzR noC noC := fun _ => ob_0
def opOz (op : Cn → Cn → Cn) : Prop := ∀ X X' Y Y', Ob2 X X' → Ob2 Y Y' → Ob2 (op X Y) (op X' Y')
theorem opOz_sub : opOz subZ := fun _ _ _ _ h k => ⟨oz_sub h.o k.o h.x k.x k.y, bdZ_sub _ _, bdZ_sub _ _⟩
theorem opOz_add : opOz addZ := fun _ _ _ _ h k => ⟨oz_add h.o k.o h.x k.x, bdZ_add _ _, bdZ_add _ _⟩
theorem opOz_put : opOz fun _ y => y := fun _ _ _ _ _ k => k
theorem opOz_eO (x : Elm) (j : Nat) : opOz (eO x j) := by
  unfold eO
  split
  · split
    · exact opOz_sub
    · exact opOz_add
  · exact opOz_put
theorem ozR_put {op : Cn → Cn → Cn} (ho : opOz op) {i : Int} {Y Y' : Cn} (k : Ob2 Y Y') {R R' : Nat → Cn} (h : OzR R R') : OzR (rput op i Y R) (rput op i Y' R') := by
  intro j
  unfold rput
  split
  · exact ho _ _ _ _ (h j) k
  · exact h j
theorem finA_eqz {A B : Option Nat} (hB : bdA B) (h : eqz A (negA B)) : finA A = finA B := by
  have hn : finA (negA B) = finA B := by
    cases B with
    | none => rfl
    | some b =>
      show finB (ngW b) = finB b
      unfold finB
      rw [mg_ngW (hB b rfl).1]
  rw [← hn]
  rcases h with h | ⟨x, y, h1, h2, h3, h4⟩
  · rw [h]
  · rw [h1, h2]
    show finB x = finB y
    unfold finB
    rw [h3, h4]
theorem finC_ob {X Y : Cn} (h : Ob2 X Y) : finC Y = finC X := by
  unfold finC
  rw [finA_eqz h.x.1 h.o.1, finA_eqz h.x.2 h.o.2]
/-- what a product of a zero is -/
theorem mulz {x y : Nat} (hx : fin x) (hy : mg y = 0) (ly : y < 18446744073709551616) : ∃ z, mulO x y = some z ∧ mg z = 0 := by
  obtain ⟨z, h1, h2⟩ := mul_zero hx
  have hy2 : y = 0 ∨ y = ngW 0 := by
    unfold mg at hy
    have : ngW 0 = 9223372036854775808 := by decide
    rw [this]; omega
  rcases hy2 with rfl | rfl
  · exact ⟨z, h1, h2⟩
  · rw [mulO_comm, mulO_ng (by decide), mulO_comm, h1]
    exact ⟨ngW z, rfl, by rw [mg_ngW (mul_bd h1).1]; exact h2⟩
theorem eqz_mul {v : Nat} (hv : fin v) (hn : nan v = false) {A B : Option Nat} (h : eqz A B) (hA : bdA A) (hB : bdA B) : eqz (mulA (ans v) A) (mulA (ans v) B) := by
  rcases h with rfl | ⟨x, y, rfl, rfl, h1, h2⟩
  · exact .inl rfl
  · obtain ⟨z, k1, k2⟩ := mulz hv h1 (hA x rfl).1
    obtain ⟨z', k3, k4⟩ := mulz hv h2 (hB y rfl).1
    refine .inr ⟨z, z', ?_, ?_, k2, k4⟩
    · rw [ans_num hn]; exact k1
    · rw [ans_num hn]; exact k3
theorem ans_ng {v : Nat} (h : v < 18446744073709551616) : ans (ngW v) = negA (ans v) := (rep_ng (rep_ans h)).2
theorem bd_ansS {v : Nat} (h : v < 18446744073709551616) : bdA (ans v) := rep.bd (rep_ans h)
theorem cw_opp {q q' : Int} (h : q' % 24 = (q + 12) % 24) : eqz (ans (cw (q' % 24))) (negA (ans (cw (q % 24)))) := by
  rw [h]
  obtain ⟨r, hr⟩ : ∃ r, q % 24 = r := ⟨_, rfl⟩
  have h1 : (q + 12) % 24 = (r + 12) % 24 := by omega
  rw [h1, hr]
  have h2 : r = 0 ∨ r = 1 ∨ r = 2 ∨ r = 3 ∨ r = 4 ∨ r = 5 ∨ r = 6 ∨ r = 7 ∨ r = 8 ∨ r = 9 ∨ r = 10 ∨ r = 11 ∨ r = 12 ∨ r = 13 ∨ r = 14 ∨ r = 15 ∨ r = 16 ∨ r = 17 ∨ r = 18 ∨ r = 19 ∨ r = 20 ∨ r = 21 ∨ r = 22 ∨ r = 23 := by omega
  rcases h2 with rfl | rfl | rfl | rfl | rfl | rfl | rfl | rfl | rfl | rfl | rfl | rfl | rfl | rfl | rfl | rfl | rfl | rfl | rfl | rfl | rfl | rfl | rfl | rfl <;>
    first | exact .inl (by decide +kernel) | exact .inr ⟨0, 9223372036854775808, by decide +kernel, by decide +kernel, by decide, by decide⟩ | exact .inr ⟨9223372036854775808, 0, by decide +kernel, by decide +kernel, by decide, by decide⟩ | exact .inr ⟨0, 0, by decide +kernel, by decide +kernel, by decide, by decide⟩ | exact .inr ⟨9223372036854775808, 9223372036854775808, by decide +kernel, by decide +kernel, by decide, by decide⟩
theorem cw_ltS (q : Int) : cw (q % 24) < 18446744073709551616 := by
  have h2 : q % 24 = 0 ∨ q % 24 = 1 ∨ q % 24 = 2 ∨ q % 24 = 3 ∨ q % 24 = 4 ∨ q % 24 = 5 ∨ q % 24 = 6 ∨ q % 24 = 7 ∨ q % 24 = 8 ∨ q % 24 = 9 ∨ q % 24 = 10 ∨ q % 24 = 11 ∨ q % 24 = 12 ∨ q % 24 = 13 ∨ q % 24 = 14 ∨ q % 24 = 15 ∨ q % 24 = 16 ∨ q % 24 = 17 ∨ q % 24 = 18 ∨ q % 24 = 19 ∨ q % 24 = 20 ∨ q % 24 = 21 ∨ q % 24 = 22 ∨ q % 24 = 23 := by omega
  rcases h2 with h | h | h | h | h | h | h | h | h | h | h | h | h | h | h | h | h | h | h | h | h | h | h | h <;> rw [h] <;> decide
theorem chk_fin {x : Elm} (h : chkI x = 0) : fin x.v ∧ nan x.v = false := by
  have hk : ¬ 2 < kdB x.v := by
    intro q
    unfold chkI at h
    split at h
    · cases h
    · split at h
      · cases h
      · split at h
        · cases h
        · first | (rw [if_pos q] at h; exact absurd h (by decide)) | exact absurd h (by decide)
  have hn := kd_fin hk
  refine ⟨?_, hn⟩
  unfold kdB at hk
  rw [if_neg (by rw [hn]; decide)] at hk
  unfold nan at hn
  unfold fin
  by_cases e : mg x.v = 9218868437227405312
  · rw [if_pos e] at hk; omega
  · have := of_decide_eq_false hn
    omega
/-- an opposite source's phasor -/
theorem ph_ob (ph : Bool) {x : Elm} (hv : x.v < 18446744073709551616) (h : chkI x = 0) : Ob2 (phC x) (phC (tuE ph x)) := by
  by_cases hk : x.k = 4 ∨ x.k = 5
  · have h1 : phK x = 0 := by unfold phK; rw [if_pos h, if_pos hk]
    have h2 : phK (tuE ph x) = 0 := by unfold phK; rw [if_pos (tuE_ck ph hv h), if_pos (by rw [tuE_k]; exact hk)]
    unfold phC
    rw [if_pos h1, if_pos h2]
    refine ⟨?_, ⟨bd_mulA _ _, bd_mulA _ _⟩, ⟨bd_mulA _ _, bd_mulA _ _⟩⟩
    unfold tuE
    rw [if_pos hk]
    cases ph
    · rw [if_neg (by decide)]
      show eqz (mulA (ans (ngW x.v)) _) _ ∧ eqz (mulA (ans (ngW x.v)) _) _
      rw [ans_ng hv, mulA_ng (bd_ansS hv), mulA_ng (bd_ansS hv)]
      exact ⟨.inl rfl, .inl rfl⟩
    · rw [if_pos rfl]
      obtain ⟨hf, hn⟩ := chk_fin h
      have hb := tmod_mod x.ph
      constructor
      · show eqz (mulA (ans x.v) (ans (rtR (x.ph.tmod 24 + 12)))) (negA (mulA (ans x.v) (ans (rtR x.ph))))
        rw [← mulA_ng' _ (bd_ansS (by unfold rtR; exact cw_ltS _))]
        unfold rtR
        exact eqz_mul hf hn (cw_opp hb) (bd_ansS (cw_ltS _)) (bd_negA (bd_ansS (cw_ltS _)))
      · show eqz (mulA (ans x.v) (ans (rtI (x.ph.tmod 24 + 12)))) (negA (mulA (ans x.v) (ans (rtI x.ph))))
        rw [← mulA_ng' _ (bd_ansS (by unfold rtI; exact cw_ltS _))]
        unfold rtI
        exact eqz_mul hf hn (cw_opp (by omega)) (bd_ansS (cw_ltS _)) (bd_negA (bd_ansS (cw_ltS _)))
  · have ht : tuE ph x = x := by unfold tuE; rw [if_neg hk]
    rw [ht]
    have h1 : phK x = 2 := by unfold phK; rw [if_pos h, if_neg hk]
    unfold phC
    rw [h1, if_neg (by decide)]
    exact ob_0
end Go.Proofs.Ytpjpamdocfdibaa
