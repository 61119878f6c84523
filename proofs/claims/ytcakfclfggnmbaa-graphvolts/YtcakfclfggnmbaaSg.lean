/-
  Signs: what a sum, product, quotient or root of words with their signs turned is; nothing of any program's text.
-/
import Derived.Test.YtcakfclfggnmbaaCx
import Derived.Test.YtcakfclfggnmbaaTs
namespace Go.Proofs.Ytcakfclfggnmbaa
open Fl

theorem nearest_word (m : Nat) (p : Int) : ∃ r, r ≤ 9218868437227405312 ∧ ∀ s, Ieee.double.nearest s m p = Ieee.double.word s r := by
  by_cases h : m = 0
  · exact ⟨0, by omega, fun s => by unfold Ieee.Format.nearest; rw [if_pos h]⟩
  · refine ⟨min ((max (p + (m.log2 : Int) - (Ieee.double.fractionBits : Int)) Ieee.double.leastPlace - Ieee.double.leastPlace).toNat * Ieee.double.binade + Ieee.Toward.even.cut false (m <<< (p - max (p + (m.log2 : Int) - (Ieee.double.fractionBits : Int)) Ieee.double.leastPlace).toNat) (max (p + (m.log2 : Int) - (Ieee.double.fractionBits : Int)) Ieee.double.leastPlace - p).toNat) Ieee.double.infRung, ?_, fun s => by unfold Ieee.Format.nearest; rw [if_neg h]; rfl⟩
    exact Nat.min_le_right _ _
theorem word_not (s : Bool) {r : Nat} (h : r < 9223372036854775808) : Ieee.double.word (!s) r = ngW (Ieee.double.word s r) := by
  unfold Ieee.Format.word ngW; rw [d_sw]
  cases s
  · simp only [Bool.not_false, if_true, Bool.false_eq_true, if_false]; rw [if_pos h]; omega
  · simp only [Bool.not_true, if_true, Bool.false_eq_true, if_false]; rw [if_neg (by omega)]; omega
theorem write_opp {d : Ieee.Datum} (h : d.isNaN = false) : Ieee.double.write d.opposite = ngW (Ieee.double.write d) := by
  cases d with
  | number s m p =>
    obtain ⟨r, hr, e⟩ := nearest_word m p
    show Ieee.double.nearest (!s) m p = ngW (Ieee.double.nearest s m p)
    rw [e, e, word_not s (by omega)]
  | infinity s => exact word_not s (by rw [d_inf]; omega)
  | nan s f => cases h
theorem ng_write {d : Ieee.Datum} (h : d.isNaN = false) : ng (Ieee.double.write d) = d.neg := by
  cases d with
  | number s m p =>
    obtain ⟨r, hr, e⟩ := nearest_word m p
    show ng (Ieee.double.nearest s m p) = s
    rw [e, word_ng s (by omega)]
  | infinity s => exact word_ng s (by rw [d_inf]; omega)
  | nan s f => cases h
theorem read_ngW {x : Nat} (h : x < 18446744073709551616) : Ieee.double.read (ngW x) = (Ieee.double.read x).opposite := by
  have h1 := mg_ngW h
  have h2 := ng_ngW h
  rcases kinds x with hx | hx | hx
  · have hf : fin (ngW x) := by unfold fin; rw [h1]; exact hx
    rw [read_fin _ hf, read_fin _ hx, h1, h2]; rfl
  · rw [read_inf _ (h1.trans hx), read_inf _ hx, h2]; rfl
  · rw [read_nan _ ((nan_ngW h).trans hx), read_nan _ hx, h1, h2]; rfl

theorem xor_not (s t : Bool) : ((!s) ^^ t) = !(s ^^ t) := by cases s <;> cases t <;> rfl
theorem xor_not' (s t : Bool) : (s ^^ !t) = !(s ^^ t) := by cases s <;> cases t <;> rfl
theorem product_opp (a b : Ieee.Datum) : a.opposite.product b = (a.product b).map Ieee.Datum.opposite := by
  cases a <;> cases b <;> simp [Ieee.Datum.opposite, Ieee.Datum.product]
  all_goals split <;> rfl
theorem product_opp' (a b : Ieee.Datum) : a.product b.opposite = (a.product b).map Ieee.Datum.opposite := by
  cases a <;> cases b <;> simp [Ieee.Datum.opposite, Ieee.Datum.product]
  all_goals split <;> rfl
theorem product_comm (a b : Ieee.Datum) : a.product b = b.product a := by
  cases a <;> cases b <;> simp [Ieee.Datum.product, Bool.xor_comm, Nat.mul_comm, Int.add_comm]
theorem sum_comm (a b : Ieee.Datum) : a.sum b = b.sum a := by
  cases a <;> cases b <;> simp only [Ieee.Datum.sum]
  · rw [Int.min_comm, Int.add_comm, Bool.and_comm]
  · rename_i s t
    cases s <;> cases t <;> rfl
theorem quotient_opp (n : Nat) (a b : Ieee.Datum) : a.opposite.quotient n b = (a.quotient n b).map Ieee.Datum.opposite := by
  cases a <;> cases b <;> simp only [Ieee.Datum.opposite, Ieee.Datum.quotient, xor_not] <;> try rfl
  split
  · split <;> rfl
  · rfl
theorem quotient_opp' (n : Nat) (a b : Ieee.Datum) : a.quotient n b.opposite = (a.quotient n b).map Ieee.Datum.opposite := by
  cases a <;> cases b <;> simp only [Ieee.Datum.opposite, Ieee.Datum.quotient, xor_not'] <;> try rfl
  split
  · split <;> rfl
  · rfl
theorem map_opp {o : Option Ieee.Datum} (h : ∀ d, o = some d → d.isNaN = false) : (o.map Ieee.Datum.opposite).map Ieee.double.write = (o.map Ieee.double.write).map ngW := by
  cases o with
  | none => rfl
  | some d => simp only [Option.map_some]; rw [write_opp (h d rfl)]
theorem mulO_ng {x : Nat} (hx : x < 18446744073709551616) (y : Nat) : mulO (ngW x) y = (mulO x y).map ngW := by
  unfold mulO Ieee.Format.mul; rw [read_ngW hx, product_opp, map_opp (product_not_nan _ _)]
theorem mulO_comm (x y : Nat) : mulO x y = mulO y x := by unfold mulO Ieee.Format.mul; rw [product_comm]
theorem addO_comm (x y : Nat) : addO x y = addO y x := by unfold addO Ieee.Format.add; rw [sum_comm]
theorem subO_add (x : Nat) {y : Nat} (hy : y < 18446744073709551616) : subO x y = addO x (ngW y) := by
  unfold subO addO Ieee.Format.sub Ieee.Format.add; rw [read_ngW hy]
theorem divO_ng {x : Nat} (hx : x < 18446744073709551616) (y : Nat) : divO (ngW x) y = (divO x y).map ngW := by
  unfold divO Ieee.Format.div; rw [read_ngW hx, quotient_opp, map_opp (quotient_not_nan _ _ _)]
theorem divO_ng' (x : Nat) {y : Nat} (hy : y < 18446744073709551616) : divO x (ngW y) = (divO x y).map ngW := by
  unfold divO Ieee.Format.div; rw [read_ngW hy, quotient_opp', map_opp (quotient_not_nan _ _ _)]

/-- Two answers are equal, or noughts both. -/
def eqz (A B : Option Nat) : Prop := A = B ∨ ∃ x y, A = some x ∧ B = some y ∧ mg x = 0 ∧ mg y = 0
theorem eqz.refl (A : Option Nat) : eqz A A := Or.inl rfl
theorem mg_word_zero (s : Bool) : mg (Ieee.double.word s 0) = 0 := word_mg s (by omega)
theorem nearest_zero (s : Bool) (p : Int) : Ieee.double.nearest s 0 p = Ieee.double.word s 0 := by unfold Ieee.Format.nearest; rw [if_pos rfl]
theorem sum_opp (a b : Ieee.Datum) : eqz ((a.opposite.sum b.opposite).map Ieee.double.write) (((a.sum b).map Ieee.double.write).map ngW) := by
  have key : ∀ o : Option Ieee.Datum, (∀ d, o = some d → d.isNaN = false) → a.opposite.sum b.opposite = o.map Ieee.Datum.opposite → o = a.sum b →
      eqz ((a.opposite.sum b.opposite).map Ieee.double.write) (((a.sum b).map Ieee.double.write).map ngW) := by
    intro o hn h1 h2
    left; rw [h1, ← h2, map_opp hn]
  have hk := sum_not_nan a b
  cases a with
  | nan s f => cases b <;> exact key none (fun _ h => by cases h) rfl rfl
  | infinity s =>
    cases b with
    | nan t g => exact key none (fun _ h => by cases h) rfl rfl
    | infinity t => cases s <;> cases t <;> exact key _ hk rfl rfl
    | number t n j => exact key _ hk rfl rfl
  | number s m i =>
    cases b with
    | nan t g => exact key none (fun _ h => by cases h) rfl rfl
    | infinity t => exact key _ hk rfl rfl
    | number t n j =>
      have hs : ∀ (s : Bool) (m up : Nat), Ieee.signed (!s) m up = -Ieee.signed s m up := by
        intro s m up; rw [signed_eq, signed_eq, sgn_not]
      show eqz (some (Ieee.double.write _)) (some (ngW (Ieee.double.write _)))
      simp only [hs]
      generalize Ieee.signed s m (i - min i j).toNat = u
      generalize Ieee.signed t n (j - min i j).toNat = v
      by_cases h0 : u + v = 0
      · right
        have h1 : -u + -v = 0 := by omega
        refine ⟨_, _, rfl, rfl, ?_, ?_⟩
        · rw [if_pos h1, h1]
          show mg (Ieee.double.nearest _ 0 _) = 0
          rw [nearest_zero, mg_word_zero]
        · rw [if_pos h0, h0]
          show mg (ngW (Ieee.double.nearest _ 0 _)) = 0
          rw [nearest_zero, mg_ngW (word_lt _ (by omega)), mg_word_zero]
      · left
        have h1 : ¬ -u + -v = 0 := by omega
        rw [if_neg h1, if_neg h0, ← write_opp rfl]
        have e1 : (-u + -v).natAbs = (u + v).natAbs := by omega
        have e2 : decide (-u + -v < 0) = !decide (u + v < 0) := by
          by_cases h : u + v < 0
          · rw [decide_eq_true h, decide_eq_false (by omega)]; rfl
          · rw [decide_eq_false h, decide_eq_true (by omega)]; rfl
        rw [e1, e2]; rfl
theorem addO_ng {x y : Nat} (hx : x < 18446744073709551616) (hy : y < 18446744073709551616) : eqz (addO (ngW x) (ngW y)) ((addO x y).map ngW) := by
  unfold addO Ieee.Format.add; rw [read_ngW hx, read_ngW hy]; exact sum_opp _ _

/-- An answer's word is a word, and no NaN. -/
def bdA (A : Option Nat) : Prop := ∀ x, A = some x → x < 18446744073709551616 ∧ nan x = false
theorem rep.bd {A : Option Nat} {x : Nat} (h : rep A x) : bdA A := by
  obtain ⟨h1, rfl⟩ := h
  intro y hy
  obtain ⟨h2, rfl⟩ := ans_some hy
  exact ⟨h1, h2⟩
theorem bd_addA (A B : Option Nat) : bdA (addA A B) := by
  intro x h; unfold addA at h
  cases A with
  | none => cases h
  | some a => cases B with
    | none => cases h
    | some b => exact add_bd h
theorem bd_subA (A B : Option Nat) : bdA (subA A B) := by
  intro x h; unfold subA at h
  cases A with
  | none => cases h
  | some a => cases B with
    | none => cases h
    | some b => exact sub_bd h
theorem bd_mulA (A B : Option Nat) : bdA (mulA A B) := by
  intro x h; unfold mulA at h
  cases A with
  | none => cases h
  | some a => cases B with
    | none => cases h
    | some b => exact mul_bd h
theorem bd_divA (A B : Option Nat) : bdA (divA A B) := by
  intro x h; unfold divA at h
  cases A with
  | none => cases h
  | some a => cases B with
    | none => cases h
    | some b => exact div_bd h
theorem bd_sqrtA (A : Option Nat) : bdA (sqrtA A) := by
  intro x h; unfold sqrtA at h
  cases A with
  | none => cases h
  | some a => exact sqrt_bd h
theorem bd_negA {A : Option Nat} (hA : bdA A) : bdA (negA A) := by
  intro x h; unfold negA at h
  cases A with
  | none => cases h
  | some a =>
    obtain ⟨h1, h2⟩ := hA a rfl
    cases h; exact ⟨ngW_lt h1, by rw [nan_ngW h1]; exact h2⟩
theorem bd_sizA {A : Option Nat} (hA : bdA A) : bdA (sizA A) := by
  intro x h; unfold sizA at h
  cases A with
  | none => cases h
  | some a =>
    obtain ⟨h1, h2⟩ := hA a rfl
    cases h; exact ⟨by have := mg_bd a; omega, by rw [nan_mg]; exact h2⟩

theorem mulA_ng {A : Option Nat} (hA : bdA A) (B : Option Nat) : mulA (negA A) B = negA (mulA A B) := by
  cases A with
  | none => rfl
  | some a => cases B with
    | none => rfl
    | some b => exact mulO_ng (hA a rfl).1 b
theorem mulA_comm (A B : Option Nat) : mulA A B = mulA B A := by
  cases A with
  | none => cases B <;> rfl
  | some a => cases B with
    | none => rfl
    | some b => exact mulO_comm a b
theorem addA_comm (A B : Option Nat) : addA A B = addA B A := by
  cases A with
  | none => cases B <;> rfl
  | some a => cases B with
    | none => rfl
    | some b => exact addO_comm a b
theorem mulA_ng' (A : Option Nat) {B : Option Nat} (hB : bdA B) : mulA A (negA B) = negA (mulA A B) := by rw [mulA_comm, mulA_ng hB, mulA_comm]
theorem divA_ng {A : Option Nat} (hA : bdA A) (B : Option Nat) : divA (negA A) B = negA (divA A B) := by
  cases A with
  | none => rfl
  | some a => cases B with
    | none => rfl
    | some b => exact divO_ng (hA a rfl).1 b
theorem divA_ng' (A : Option Nat) {B : Option Nat} (hB : bdA B) : divA A (negA B) = negA (divA A B) := by
  cases A with
  | none => rfl
  | some a => cases B with
    | none => rfl
    | some b => exact divO_ng' a (hB b rfl).1
theorem subA_add (A : Option Nat) {B : Option Nat} (hB : bdA B) : subA A B = addA A (negA B) := by
  cases A with
  | none => rfl
  | some a => cases B with
    | none => rfl
    | some b => exact subO_add a (hB b rfl).1
theorem negA_negA {A : Option Nat} (hA : bdA A) : negA (negA A) = A := by
  cases A with
  | none => rfl
  | some a => show some (ngW (ngW a)) = _; rw [ngW_ngW (hA a rfl).1]
theorem addA_ng {A B : Option Nat} (hA : bdA A) (hB : bdA B) : eqz (addA (negA A) (negA B)) (negA (addA A B)) := by
  cases A with
  | none => exact Or.inl rfl
  | some a => cases B with
    | none => exact Or.inl rfl
    | some b => exact addO_ng (hA a rfl).1 (hB b rfl).1
theorem subA_ng {A B : Option Nat} (hA : bdA A) (hB : bdA B) : eqz (subA (negA A) (negA B)) (negA (subA A B)) := by
  rw [subA_add _ (bd_negA hB), subA_add _ hB]; exact addA_ng hA (bd_negA hB)
theorem sizA_ng {A : Option Nat} (hA : bdA A) : sizA (negA A) = sizA A := by
  cases A with
  | none => rfl
  | some a => show some (mg (ngW a)) = some (mg a); rw [mg_ngW (hA a rfl).1]

theorem eqz.neg {A B : Option Nat} (h : eqz A B) (hA : bdA A) (hB : bdA B) : eqz (negA A) (negA B) := by
  rcases h with rfl | ⟨x, y, rfl, rfl, h1, h2⟩
  · exact Or.inl rfl
  · exact Or.inr ⟨_, _, rfl, rfl, by rw [mg_ngW (hA x rfl).1]; exact h1, by rw [mg_ngW (hB y rfl).1]; exact h2⟩
theorem fin_zero {x : Nat} (h : mg x = 0) : fin x := by unfold fin; omega
theorem read_zero {x : Nat} (h : mg x = 0) : Ieee.double.read x = .number (ng x) 0 (-1074) := by
  rw [read_fin x (fin_zero h), h]; rfl
theorem div_zero_eqz {x y : Nat} (hx : mg x = 0) (hy : mg y = 0) (t : Nat) : eqz (divO x t) (divO y t) := by
  unfold divO Ieee.Format.div
  rw [read_zero hx, read_zero hy]
  cases Ieee.double.read t with
  | nan s f => exact Or.inl rfl
  | infinity s => exact Or.inr ⟨_, _, rfl, rfl, by show mg (Ieee.double.nearest _ 0 _) = 0; rw [nearest_zero, mg_word_zero], by show mg (Ieee.double.nearest _ 0 _) = 0; rw [nearest_zero, mg_word_zero]⟩
  | number s n p =>
    by_cases hn : n = 0
    · left; simp only [Ieee.Datum.quotient, hn, if_true]
    · right
      refine ⟨_, _, by simp only [Ieee.Datum.quotient, hn, if_false]; rfl, by simp only [Ieee.Datum.quotient, hn, if_false]; rfl, ?_, ?_⟩
      · simp only [Nat.zero_shiftLeft, Nat.zero_div, Nat.zero_mod]
        show mg (Ieee.double.nearest _ 0 _) = 0
        rw [nearest_zero, mg_word_zero]
      · simp only [Nat.zero_shiftLeft, Nat.zero_div, Nat.zero_mod]
        show mg (Ieee.double.nearest _ 0 _) = 0
        rw [nearest_zero, mg_word_zero]
theorem eqz.div {A B : Option Nat} (h : eqz A B) (T : Option Nat) : eqz (divA A T) (divA B T) := by
  rcases h with rfl | ⟨x, y, rfl, rfl, h1, h2⟩
  · exact Or.inl rfl
  · cases T with
    | none => exact Or.inl rfl
    | some t => exact div_zero_eqz h1 h2 t
theorem plc_of_zero {x : Nat} (h : mg x = 0) : plc x = 0 := by unfold plc; rw [h]; unfold sgn; split <;> rfl
theorem eqz.order {A B : Option Nat} {x y : Nat} (h : eqz A B) (hx : rep A x) (hy : rep B y) (hn : nan x = false) : FloatKind.f64.format.order x y = some .eq := by
  rw [f64_double, order_eq, hn]
  rcases h with rfl | ⟨u, v, rfl, rfl, h1, h2⟩
  · obtain ⟨e1, e2⟩ := same_of hx hy
    rw [← e2 hn, hn]; simp
  · obtain ⟨_, rfl⟩ := ans_some hx.2
    obtain ⟨hv, rfl⟩ := ans_some hy.2
    rw [hv, plc_of_zero h1, plc_of_zero h2]; rfl

/-- Signs of what comes of words without one. -/
def posA (A : Option Nat) : Prop := ∀ x, A = some x → ng x = false
theorem map_pos {o : Option Ieee.Datum} {r : Nat} (hn : ∀ d, o = some d → d.isNaN = false) (ho : ∀ d, o = some d → d.neg = false) (h : o.map Ieee.double.write = some r) : ng r = false := by
  cases o with
  | none => cases h
  | some d => cases h; rw [ng_write (hn d rfl)]; exact ho d rfl
theorem neg_read (x : Nat) : (Ieee.double.read x).neg = ng x := by
  rcases kinds x with h | h | h
  · rw [read_fin x h]; rfl
  · rw [read_inf x h]; rfl
  · rw [read_nan x h]; rfl
theorem sum_pos {a b d : Ieee.Datum} (ha : a.neg = false) (hb : b.neg = false) (h : a.sum b = some d) : d.neg = false := by
  cases a with
  | nan s f => cases b <;> cases h
  | infinity s =>
    cases b with
    | nan t g => cases h
    | infinity t =>
      change s = false at ha
      change t = false at hb
      subst ha hb; cases h; rfl
    | number t n j => cases h; exact ha
  | number s m i =>
    cases b with
    | nan t g => cases h
    | infinity t => cases h; exact hb
    | number t n j =>
      cases h
      change s = false at ha
      change t = false at hb
      subst ha hb
      have hs : ∀ m up : Nat, 0 ≤ Ieee.signed false m up := fun m up => by rw [signed_eq]; unfold sgn; exact Int.natCast_nonneg _
      have h1 := hs m (i - min i j).toNat
      have h2 := hs n (j - min i j).toNat
      show (if _ then (false && false) else _) = false
      split
      · rfl
      · exact decide_eq_false (by omega)
theorem pos_addO {x y r : Nat} (hx : ng x = false) (hy : ng y = false) (h : addO x y = some r) : ng r = false :=
  map_pos (sum_not_nan _ _) (fun d hd => sum_pos (by rw [neg_read]; exact hx) (by rw [neg_read]; exact hy) hd) h
theorem product_neg {a b d : Ieee.Datum} (h : a.product b = some d) : d.neg = (a.neg ^^ b.neg) := by
  cases a <;> cases b <;> simp [Ieee.Datum.product] at h
  · subst h; rfl
  · rw [← h.2]; exact Bool.xor_comm _ _
  · rw [← h.2]; rfl
  · subst h; rfl
theorem quotient_neg {n : Nat} {a b d : Ieee.Datum} (h : a.quotient n b = some d) : d.neg = (a.neg ^^ b.neg) := by
  cases a <;> cases b <;> simp [Ieee.Datum.quotient] at h
  · split at h
    · split at h
      · cases h
      · cases h; rfl
    · cases h; rfl
  · subst h; rfl
  · subst h; rfl
theorem ng_mulO {x y r : Nat} (h : mulO x y = some r) : ng r = (ng x ^^ ng y) := by
  unfold mulO Ieee.Format.mul at h
  cases hp : (Ieee.double.read x).product (Ieee.double.read y) with
  | none => rw [hp] at h; cases h
  | some d =>
    rw [hp] at h; cases h
    rw [ng_write (product_not_nan _ _ _ hp), product_neg hp, neg_read, neg_read]
theorem ng_divO {x y r : Nat} (h : divO x y = some r) : ng r = (ng x ^^ ng y) := by
  unfold divO Ieee.Format.div at h
  cases hp : (Ieee.double.read x).quotient (Ieee.double.fractionBits + 2) (Ieee.double.read y) with
  | none => rw [hp] at h; cases h
  | some d =>
    rw [hp] at h; cases h
    rw [ng_write (quotient_not_nan _ _ _ _ hp), quotient_neg hp, neg_read, neg_read]
theorem root_neg {n : Nat} {a d : Ieee.Datum} (ha : a.neg = false) (h : a.root n = some d) : d.neg = false := by
  cases a with
  | nan s f => cases h
  | infinity s =>
    cases s
    · cases h; rfl
    · cases h
  | number s m i =>
    change s = false at ha
    subst ha
    change (if m = 0 then some (Ieee.Datum.number false m i) else if false = true then none else some (Ieee.Datum.number false _ _)) = some d at h
    by_cases h0 : m = 0
    · rw [if_pos h0] at h; cases h; rfl
    · rw [if_neg h0, if_neg (by decide)] at h; cases h; rfl
theorem pos_sqrtO {x r : Nat} (hx : ng x = false) (h : sqrtO x = some r) : ng r = false :=
  map_pos (root_not_nan _ _) (fun d hd => root_neg (by rw [neg_read]; exact hx) hd) h
theorem pos_addA {A B : Option Nat} (hA : posA A) (hB : posA B) : posA (addA A B) := by
  intro x h; unfold addA at h
  cases A with
  | none => cases h
  | some a => cases B with
    | none => cases h
    | some b => exact pos_addO (hA a rfl) (hB b rfl) h
theorem pos_mulA {A B : Option Nat} (hA : posA A) (hB : posA B) : posA (mulA A B) := by
  intro x h; unfold mulA at h
  cases A with
  | none => cases h
  | some a => cases B with
    | none => cases h
    | some b => rw [ng_mulO h, hA a rfl, hB b rfl]; rfl
theorem pos_divA {A B : Option Nat} (hA : posA A) (hB : posA B) : posA (divA A B) := by
  intro x h; unfold divA at h
  cases A with
  | none => cases h
  | some a => cases B with
    | none => cases h
    | some b => rw [ng_divO h, hA a rfl, hB b rfl]; rfl
theorem pos_sqrtA {A : Option Nat} (hA : posA A) : posA (sqrtA A) := by
  intro x h; unfold sqrtA at h
  cases A with
  | none => cases h
  | some a => exact pos_sqrtO (hA a rfl) h
theorem pos_sizA (A : Option Nat) : posA (sizA A) := by
  intro x h; unfold sizA at h
  cases A with
  | none => cases h
  | some a =>
    cases h
    have := mg_bd a
    unfold ng
    rw [Nat.div_eq_of_lt this]; rfl
theorem pos_num {x : Nat} (h : ng x = false) : posA (some x) := fun y hy => by cases hy; exact h
theorem posA.neg {A : Option Nat} (hA : bdA A) (h : ∀ x, A = some x → ng x = true) : posA (negA A) := by
  intro x hx; unfold negA at hx
  cases A with
  | none => cases hx
  | some a => cases hx; rw [ng_ngW (hA a rfl).1, h a rfl]; rfl

end Go.Proofs.Ytcakfclfggnmbaa
