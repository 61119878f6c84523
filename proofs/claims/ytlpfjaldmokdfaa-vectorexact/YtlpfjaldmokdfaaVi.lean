/-
  Sums of products of whole numbers are exact; nothing of any program's text.
-/
import Derived.Test.YtlpfjaldmokdfaaVl
import Derived.Test.YtlpfjaldmokdfaaTw4
namespace Go.Proofs.Ytlpfjaldmokdfaa
open Fl RowKit

/-- an answer that stands for a whole number -/
def IsW (o : Option Nat) (a : Int) : Prop := ∃ x, o = some x ∧ fin x ∧ val x = a * ((2 ^ T74 : Nat) : Int)
def IsC (X : Cn) (a b : Int) : Prop := IsW X.1 a ∧ IsW X.2 b
theorem isW_fw {a : Int} (h : a.natAbs < 9007199254740992) : IsW (some (fw a)) a := ⟨_, rfl, fw_fin h, fw_val h⟩
theorem isW_0 : IsW (some 0) 0 := ⟨0, rfl, by unfold Fl.fin mg; decide, by rw [Int.zero_mul]; rfl⟩
theorem IsW.add {o p : Option Nat} {a b : Int} (h : IsW o a) (k : IsW p b) (hb : (a + b).natAbs < 9007199254740992) : IsW (addA o p) (a + b) := by
  obtain ⟨x, rfl, fx, vx⟩ := h
  obtain ⟨y, rfl, fy, vy⟩ := k
  obtain ⟨r, e, f, v⟩ := add_whole fx fy vx vy hb
  exact ⟨r, e, f, v⟩
theorem IsW.sub {o p : Option Nat} {a b : Int} (h : IsW o a) (k : IsW p b) (hb : (a - b).natAbs < 9007199254740992) : IsW (subA o p) (a - b) := by
  obtain ⟨x, rfl, fx, vx⟩ := h
  obtain ⟨y, rfl, fy, vy⟩ := k
  obtain ⟨r, e, f, v⟩ := sub_whole fx fy vx vy hb
  exact ⟨r, e, f, v⟩
theorem nr_of_sz {r : Nat} {m : Nat} (hr : r ≤ 9218868437227405312) (h : sz r = m * 2 ^ T74) : r = nr m 0 := by
  have e : nr m 0 = nr (m * 2 ^ T74) (-1074) := by rw [← nr_shift m T74 0]; congr 1
  rw [e, ← h, nr_sz hr]
theorem IsW.mul {o p : Option Nat} {a b : Int} (h : IsW o a) (k : IsW p b) (hb : (a * b).natAbs < 9007199254740992) : IsW (mulA o p) (a * b) := by
  obtain ⟨x, rfl, fx, vx⟩ := h
  obtain ⟨y, rfl, fy, vy⟩ := k
  have s1 : sz (mg x) = a.natAbs * 2 ^ T74 := by
    have := congrArg Int.natAbs vx
    unfold val at this
    rw [sgn_abs, Int.natAbs_mul, Int.natAbs_natCast] at this; exact this
  have s2 : sz (mg y) = b.natAbs * 2 ^ T74 := by
    have := congrArg Int.natAbs vy
    unfold val at this
    rw [sgn_abs, Int.natAbs_mul, Int.natAbs_natCast] at this; exact this
  have e := mul_gen fx fy
  rw [s1, s2] at e
  have e1 : nr (a.natAbs * 2 ^ T74 * (b.natAbs * 2 ^ T74)) (-2148) = nr (a * b).natAbs 0 := by
    rw [Nat.mul_mul_mul_comm, ← Nat.pow_add, ← Int.natAbs_mul, ← nr_shift (a * b).natAbs (T74 + T74) 0]
    congr 1
  rw [e1] at e
  refine ⟨_, e, by unfold Fl.fin; rw [word_mg _ (nr_bd _ _)]; exact (nr_int hb).1, ?_⟩
  rw [word_val _ (nr_bd _ _), (nr_int hb).2]
  have hp : (0 : Int) < ((2 ^ T74 : Nat) : Int) := by have := Nat.two_pow_pos T74; omega
  have t1 : sgn (ng x) a.natAbs = a := by
    unfold val at vx; rw [s1, sgn_mul] at vx
    exact Int.eq_of_mul_eq_mul_right (by omega) vx
  have t2 : sgn (ng y) b.natAbs = b := by
    unfold val at vy; rw [s2, sgn_mul] at vy
    exact Int.eq_of_mul_eq_mul_right (by omega) vy
  rw [sgn_mul, Int.natAbs_mul, sgn_xor, t1, t2]
theorem prod_bd {a b : Int} {A B : Nat} (ha : a.natAbs ≤ A) (hb : b.natAbs ≤ B) : (a * b).natAbs ≤ A * B := by
  rw [Int.natAbs_mul]; exact Nat.mul_le_mul ha hb
/-- a product of numbers with whole parts of sizes up to 2^21 -/
theorem IsC.mul {X Y : Cn} {p q c d : Int} (h : IsC X p q) (k : IsC Y c d) (hp : p.natAbs ≤ 2097152) (hq : q.natAbs ≤ 2097152) (hc : c.natAbs ≤ 2097152) (hd : d.natAbs ≤ 2097152) : IsC (mulZ X Y) (p * c - q * d) (p * d + q * c) := by
  have b1 := prod_bd hp hc
  have b2 := prod_bd hq hd
  have b3 := prod_bd hp hd
  have b4 := prod_bd hq hc
  exact ⟨(h.1.mul k.1 (by omega)).sub (h.2.mul k.2 (by omega)) (by omega), (h.1.mul k.2 (by omega)).add (h.2.mul k.1 (by omega)) (by omega)⟩
theorem IsC.add {X Y : Cn} {p q c d : Int} (h : IsC X p q) (k : IsC Y c d) (h1 : (p + c).natAbs < 9007199254740992) (h2 : (q + d).natAbs < 9007199254740992) : IsC (addZ X Y) (p + c) (q + d) := ⟨h.1.add k.1 h1, h.2.add k.2 h2⟩
def sumI (f : Nat → Int) : Nat → Int
  | 0 => 0
  | k + 1 => sumI f k + f k
theorem sumI_bd {f : Nat → Int} {M n : Nat} (h : ∀ j, j < n → (f j).natAbs ≤ M) : (sumI f n).natAbs ≤ n * M := by
  induction n with
  | zero => simp [sumI]
  | succ n ih =>
    have h1 := ih (fun j hj => h j (by omega))
    have h2 := h n (by omega)
    show (sumI f n + f n).natAbs ≤ _
    rw [Nat.add_mul, Nat.one_mul]
    omega
theorem sumI_congr {f g : Nat → Int} {n : Nat} (h : ∀ j, j < n → f j = g j) : sumI f n = sumI g n := by
  induction n with
  | zero => rfl
  | succ n ih =>
    show sumI f n + f n = sumI g n + g n
    rw [ih (fun j hj => h j (by omega)), h n (by omega)]
theorem sumI_add (f g : Nat → Int) (n : Nat) : sumI (fun j => f j + g j) n = sumI f n + sumI g n := by
  induction n with
  | zero => rfl
  | succ n ih =>
    show sumI (fun j => f j + g j) n + (f n + g n) = (sumI f n + f n) + (sumI g n + g n)
    rw [ih]; omega
theorem IsC.sum {f : Nat → Cn} {a b : Nat → Int} {M n : Nat} (h : ∀ j, j < n → IsC (f j) (a j) (b j)) (ha : ∀ j, j < n → (a j).natAbs ≤ M) (hb : ∀ j, j < n → (b j).natAbs ≤ M) (hM : n * M < 9007199254740992) : IsC (sumZ f n) (sumI a n) (sumI b n) := by
  induction n with
  | zero => exact ⟨isW_0, isW_0⟩
  | succ n ih =>
    have hM' : n * M + M < 9007199254740992 := by rw [Nat.add_mul, Nat.one_mul] at hM; exact hM
    have h0 := ih (fun j hj => h j (by omega)) (fun j hj => ha j (by omega)) (fun j hj => hb j (by omega)) (by omega)
    have s1 := sumI_bd (f := a) (M := M) (n := n) (fun j hj => ha j (by omega))
    have s2 := sumI_bd (f := b) (M := M) (n := n) (fun j hj => hb j (by omega))
    have k1 := ha n (by omega)
    have k2 := hb n (by omega)
    exact h0.add (h n (by omega)) (by omega) (by omega)
theorem IsW.word {o : Option Nat} {a : Int} {x : Nat} (h : IsW o a) (hx : rep o x) : fin x ∧ val x = a * ((2 ^ T74 : Nat) : Int) := by
  obtain ⟨y, rfl, fy, vy⟩ := h
  rw [rep_is hx rfl]; exact ⟨fy, vy⟩
theorem IsW.order {o p : Option Nat} {a : Int} {x y : Nat} (h : IsW o a) (k : IsW p a) (hx : rep o x) (hy : rep p y) : FloatKind.f64.format.order x y = some .eq := by
  obtain ⟨fx, vx⟩ := h.word hx
  obtain ⟨fy, vy⟩ := k.word hy
  have := eqB_val fx fy (vx.trans vy.symm)
  exact eq_of_beq this
theorem IsW.order_fw {o : Option Nat} {a : Int} {x : Nat} (h : IsW o a) (hx : rep o x) (hb : a.natAbs < 9007199254740992) : FloatKind.f64.format.order x (fw a) = some .eq := by
  obtain ⟨fx, vx⟩ := h.word hx
  exact eqB_whole fx vx hb
theorem isC_fw {p q : Int} (hp : p.natAbs < 9007199254740992) (hq : q.natAbs < 9007199254740992) : IsC (anz (fw p, fw q)) p q := by
  refine ⟨?_, ?_⟩
  · show IsW (ans (fw p)) p
    rw [fw_ans hp]; exact isW_fw hp
  · show IsW (ans (fw q)) q
    rw [fw_ans hq]; exact isW_fw hq
theorem Rc.drop {w : World} {g off : Nat} {xs : List Cw} (h : Rc w (some ⟨g, off, none⟩) xs) (k : Nat) : Rc w (some ⟨g, off + k, none⟩) (xs.drop k) := by
  intro j hj
  have hj' : k + j < xs.length := by simp at hj; omega
  obtain ⟨b, o, h1, h2, h3⟩ := h (k + j) hj'
  cases h1
  refine ⟨g, off + k, rfl, h2, ?_⟩
  rw [Nat.add_assoc, h3]
  simp [zat, List.getD_eq_getElem?_getD]
theorem Rc.take {w : World} {A : Option Addr} {xs : List Cw} (h : Rc w A xs) (k : Nat) : Rc w A (xs.take k) := by
  intro j hj
  have hj' : j < xs.length ∧ j < k := by simp at hj; omega
  obtain ⟨b, o, h1, h2, h3⟩ := h j hj'.1
  refine ⟨b, o, h1, h2, ?_⟩
  rw [h3]
  simp [zat, List.getD_eq_getElem?_getD, hj'.2]

end Go.Proofs.Ytlpfjaldmokdfaa
