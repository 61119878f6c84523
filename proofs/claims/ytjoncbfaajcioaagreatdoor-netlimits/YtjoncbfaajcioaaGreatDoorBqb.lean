/-
  Several texts in one: Gl Gm Ga Gb0 Gi Gb1 Gb2 Gb3 Gk Gh Ql Qm.
-/
import Derived.Test.YtjoncbfaajcioaaGreatDoorBqa
import Derived.Handy
import Derived.Deep.RegionWith
import Derived.BigQuiet
import Derived.Deep.QuietTactic
import Derived.Lib.BitFns
namespace Go.Proofs.YtjoncbfaajcioaaGreatDoor
open RowKit

theorem vw_get (ws : List Nat) (k : Nat) (h : k < ws.length) : (vw ws)[k]? = some (.int .u32 ((ws.getD k 0 : Nat) : Int)) := by
  unfold vw; rw [List.getElem?_map]; simp [List.getD_eq_getElem?_getD, h]
theorem vw_set (ws : List Nat) (k x : Nat) : (vw ws).set k (.int .u32 ((x : Nat) : Int)) = vw (ws.set k x) := by unfold vw; rw [List.map_set]
theorem news_of {w : World} {g off : Nat} {ws : List Nat} (hc : RdU w (some ⟨g, off, none⟩) ws) : ∀ j u, (vw ws)[j]? = some u → w.cell? ((⟨g, off, none⟩ : Addr).add j) = some u := by
  intro j u hj
  have hl : j < ws.length := by
    rcases Nat.lt_or_ge j ws.length with h | h
    · exact h
    · rw [List.getElem?_eq_none (by rw [vw_len]; exact h)] at hj; cases hj
  rw [vw_get ws j hl] at hj
  cases hj
  obtain ⟨b, o, h1, _, h3⟩ := hc j hl
  simp only [Option.some.injEq, Addr.mk.injEq, and_true] at h1
  obtain ⟨rfl, rfl⟩ := h1
  have ha : (⟨g, off, none⟩ : Addr).add j = ⟨g, off + j, none⟩ := by unfold Addr.add; split <;> simp_all
  rw [ha, h3]
theorem vw_one (ws : List Nat) : ∀ u ∈ vw ws, u.oneCell' = true := by
  intro u hu; unfold vw at hu; rw [List.mem_map] at hu; obtain ⟨n, _, rfl⟩ := hu; rfl
theorem split_set {ds us : List Nat} {i x : Nat} (hd : ds.length = i) (hi : i < us.length) : (ds ++ us.drop i).set i x = (ds ++ [x]) ++ us.drop (i + 1) := by
  subst hd
  rw [List.set_append_right _ _ (Nat.le_refl _), Nat.sub_self, List.drop_eq_getElem_cons hi, List.append_assoc]; rfl
theorem split_get {ds us : List Nat} {i : Nat} (hd : ds.length = i) : (ds ++ us.drop i).getD i 0 = us.getD i 0 := by
  subst hd
  rw [List.getD_eq_getElem?_getD, List.getElem?_append_right (Nat.le_refl _), Nat.sub_self, List.getElem?_drop, Nat.add_zero, ← List.getD_eq_getElem?_getD]
theorem own_empty (w : World) : (w.alloc (.cells #[] 210)).ownsRow w.heap.size 210 1 (.slice (some ⟨w.heap.size, 0, none⟩) 0 0) 0 [] := by
  refine ⟨rfl, .inr ⟨w.heap.size, 0, #[], rfl, Nat.le_refl _, ?_, Nat.le_refl _, by unfold maxLen; omega, rfl, rfl⟩⟩
  show (w.heap.push _)[w.heap.size]? = _
  simp
/-- the next digit of a difference -/
theorem less_step {ds us vs : List Nat} {i r : Nat} (hd : ds.length = i) (h2 : num ds + num (vs.take i) = num (us.take i) + 4294967296 ^ i * r) (z r' : Nat) (hz : z + (r + vs.getD i 0) = us.getD i 0 + 4294967296 * r') :
    num (ds ++ [z]) + num (vs.take (i + 1)) = num (us.take (i + 1)) + 4294967296 ^ (i + 1) * r' := by
  have take_succ : ∀ ws : List Nat, num (ws.take (i + 1)) = num (ws.take i) + 4294967296 ^ i * ws.getD i 0 := by
    intro ws
    rcases Nat.lt_or_ge i ws.length with h1 | h1
    · exact num_take_succ ws i h1
    · rw [List.take_of_length_le h1, List.take_of_length_le (by omega), List.getD_eq_getElem?_getD, List.getElem?_eq_none h1]; simp
  rw [take_succ us, take_succ vs, num_snoc, hd, Nat.pow_succ]
  have e := congrArg (fun t => 4294967296 ^ i * t) hz
  simp only [Nat.mul_add] at e
  rw [Nat.mul_assoc]
  omega

end Go.Proofs.YtjoncbfaajcioaaGreatDoor

namespace Go.Proofs.YtjoncbfaajcioaaGreatDoor
open RowKit

theorem num_set (os : List Nat) (p x : Nat) (hp : p < os.length) : num (os.set p x) + 4294967296 ^ p * os.getD p 0 = num os + 4294967296 ^ p * x := by
  have h1 := num_split os p hp
  have h2 := num_split (os.set p x) p (by rw [List.length_set]; exact hp)
  have e1 : (os.set p x).take p = os.take p := by rw [List.take_set, List.set_eq_of_length_le (by rw [List.length_take]; omega)]
  have e2 : (os.set p x).drop (p + 1) = os.drop (p + 1) := by rw [List.drop_set]; simp
  have e3 : (os.set p x).getD p 0 = x := by simp [List.getD_eq_getElem?_getD, hp]
  rw [e1, e2, e3] at h2
  rw [h1, h2]
  simp only [Nat.mul_add]
  omega
theorem okW_set {os : List Nat} (h : okW os) (p x : Nat) (hx : x < 4294967296) : okW (os.set p x) := by
  intro y hy
  rcases List.mem_or_eq_of_mem_set hy with h1 | h1
  · exact h y h1
  · omega
theorem getD_set_ne (os : List Nat) (p x j : Nat) (h : j ≠ p) : (os.set p x).getD j 0 = os.getD j 0 := by
  simp [List.getD_eq_getElem?_getD, List.getElem?_set_ne (Ne.symm h)]
/-- the next digit of a row of a product -/
theorem mul_step {os us vs : List Nat} {i k c u v : Nat} (hk : k < vs.length) (hv : v = vs.getD k 0) (hp : i + k < os.length) (h : num os + 4294967296 ^ (i + k) * c = num (us.take i) * num vs + 4294967296 ^ i * (u * num (vs.take k))) :
    num (os.set (i + k) ((c + u * v + os.getD (i + k) 0) % 4294967296)) + 4294967296 ^ (i + (k + 1)) * ((c + u * v + os.getD (i + k) 0) / 4294967296) = num (us.take i) * num vs + 4294967296 ^ i * (u * num (vs.take (k + 1))) := by
  have h1 := num_set os (i + k) ((c + u * v + os.getD (i + k) 0) % 4294967296) hp
  have h2 := Nat.div_add_mod (c + u * v + os.getD (i + k) 0) 4294967296
  have h3 := num_take_succ vs k hk
  rw [h3, ← hv, show i + (k + 1) = (i + k) + 1 by omega, Nat.pow_succ]
  generalize os.getD (i + k) 0 = o at *
  have e1 : 4294967296 ^ i * (u * (num (vs.take k) + 4294967296 ^ k * v)) = 4294967296 ^ i * (u * num (vs.take k)) + 4294967296 ^ (i + k) * (u * v) := by
    rw [Nat.mul_add, Nat.mul_add, Nat.pow_add]
    congr 1
    simp only [Nat.mul_comm, Nat.mul_left_comm, Nat.mul_assoc]
  rw [e1]
  generalize (c + u * v + o) / 4294967296 = q at *
  generalize (c + u * v + o) % 4294967296 = m at *
  have e2 := congrArg (fun t => 4294967296 ^ (i + k) * t) h2
  simp only [Nat.mul_add] at e2
  rw [Nat.mul_assoc]
  generalize 4294967296 ^ (i + k) * (u * v) = uv at *
  generalize 4294967296 ^ (i + k) * (4294967296 * q) = bq at *
  generalize 4294967296 ^ (i + k) * m = bm at *
  generalize 4294967296 ^ (i + k) * o = bo at *
  generalize 4294967296 ^ (i + k) * c = bc at *
  omega
theorem mul_row {os us vs : List Nat} {i c u : Nat} (hi : i < us.length) (hu : u = us.getD i 0) (hp : i + vs.length < os.length) (h0 : os.getD (i + vs.length) 0 = 0) (h : num os + 4294967296 ^ (i + vs.length) * c = num (us.take i) * num vs + 4294967296 ^ i * (u * num (vs.take vs.length))) :
    num (os.set (i + vs.length) c) = num (us.take (i + 1)) * num vs := by
  have h1 := num_set os (i + vs.length) c hp
  rw [h0, Nat.mul_zero, Nat.add_zero] at h1
  rw [h1, h, List.take_of_length_le (Nat.le_refl _), num_take_succ us i hi, ← hu, Nat.add_mul, Nat.mul_assoc]
theorem _root_.Go.World.ownsRow.drewN' {w : World} {a : Addr} {u : Value} {base e size n : Nat} {v : Value} {xs : List Value} (h : (w.setCell a u).ownsRow base e size v n xs) (q : Nat) : ((w.drewN q).setCell a u).ownsRow base e size v n xs := h
theorem _root_.Go.RowKit.Below.drewN' {n : Nat} {w w' : World} (h : Below n w w') (k : Nat) : Below n w (w'.drewN k) := by
  obtain ⟨h1, h2, h3, h4, h5⟩ := h
  exact ⟨h1, h2, h3, h4, h5⟩
theorem other_cell (w : World) {a b : Addr} (h : a ≠ b) (v : Value) : (w.setCell a v).cell? b = w.cell? b := by
  apply World.cell?_setCell_other; exact h
theorem froz_new {w : World} (c : Array Value) (t : TypeId) (n i : Nat) (hn : n = w.heap.size) : (w.alloc (.cells c t)).frozen? ⟨n, i, none⟩ = false := by
  subst hn; simp
theorem made_words (n : Nat) : (madeCells (Value.int .u32 0).cells (n * 1)).toList = vw (List.replicate n 0) := by
  unfold vw
  apply List.ext_getElem?
  intro i
  simp only [madeCells, Array.toList_map, List.getElem?_map, Array.toList_range, Nat.mul_one, List.getElem?_replicate]
  by_cases h : i < n
  · simp [h, Value.cells, Nat.mod_one]
  · simp [h]
end Go.Proofs.YtjoncbfaajcioaaGreatDoor

namespace Go.Proofs.YtjoncbfaajcioaaGreatDoor
open RowKit

def addM (na nb : Bool) (a b : Nat) : Nat := if na = nb then a + b else if a < b then b - a else a - b
def addS (na nb : Bool) (a b : Nat) : Bool := if na = nb then na else if a = b then false else if a < b then nb else na
/-- three structs of whole numbers laid: two arguments, the answer -/
structure Laid3 (w : World) (na nb : Bool) (va vb : Value) (wA : World) : Prop where
  bel : Below w.heap.size w wA
  sz : wA.heap.size = w.heap.size + 1 + 1 + 1
  a0 : wA.cell? ⟨w.heap.size, 0, none⟩ = some (.bool na)
  a1 : wA.cell? ⟨w.heap.size, 1, none⟩ = some va
  b0 : wA.cell? ⟨w.heap.size + 1, 0, none⟩ = some (.bool nb)
  b1 : wA.cell? ⟨w.heap.size + 1, 1, none⟩ = some vb
  r0 : wA.cell? ⟨w.heap.size + 1 + 1, 0, none⟩ = some (.bool false)
  r1 : wA.cell? ⟨w.heap.size + 1 + 1, 1, none⟩ = some (.slice none 0 0)
  f0 : wA.frozen? ⟨w.heap.size + 1 + 1, 0, none⟩ = false
  f1 : wA.frozen? ⟨w.heap.size + 1 + 1, 1, none⟩ = false
theorem Laid3.later {w wA w' : World} {na nb : Bool} {va vb : Value} (h : Laid3 w na nb va vb wA) (hb : Below wA.heap.size wA w') :
    Below w.heap.size w w' ∧ w.heap.size + 1 + 1 + 1 ≤ w'.heap.size ∧ w'.cell? ⟨w.heap.size, 0, none⟩ = some (.bool na) ∧ w'.cell? ⟨w.heap.size, 1, none⟩ = some va ∧ w'.cell? ⟨w.heap.size + 1, 0, none⟩ = some (.bool nb) ∧ w'.cell? ⟨w.heap.size + 1, 1, none⟩ = some vb ∧
      w'.cell? ⟨w.heap.size + 1 + 1, 0, none⟩ = some (.bool false) ∧ w'.cell? ⟨w.heap.size + 1 + 1, 1, none⟩ = some (.slice none 0 0) ∧ w'.frozen? ⟨w.heap.size + 1 + 1, 0, none⟩ = false ∧ w'.frozen? ⟨w.heap.size + 1 + 1, 1, none⟩ = false := by
  have hs := h.sz
  refine ⟨h.bel.trans (hb.mono (by omega)), by have := hb.size; omega, ?_, ?_, ?_, ?_, ?_, ?_, ?_, ?_⟩
  · rw [hb.cell (show w.heap.size < wA.heap.size by omega)]; exact h.a0
  · rw [hb.cell (show w.heap.size < wA.heap.size by omega)]; exact h.a1
  · rw [hb.cell (show w.heap.size + 1 < wA.heap.size by omega)]; exact h.b0
  · rw [hb.cell (show w.heap.size + 1 < wA.heap.size by omega)]; exact h.b1
  · rw [hb.cell (show w.heap.size + 1 + 1 < wA.heap.size by omega)]; exact h.r0
  · rw [hb.cell (show w.heap.size + 1 + 1 < wA.heap.size by omega)]; exact h.r1
  · rw [hb.frozen (show w.heap.size + 1 + 1 < wA.heap.size by omega)]; exact h.f0
  · rw [hb.frozen (show w.heap.size + 1 + 1 < wA.heap.size by omega)]; exact h.f1
theorem of_drew {n : Nat} {w w' : World} (h : Below n w.drew w') : Below n w w' := ⟨h.os, h.tape, h.output, h.size, h.block⟩
end Go.Proofs.YtjoncbfaajcioaaGreatDoor

namespace Go.Proofs.YtjoncbfaajcioaaGreatDoor
open RowKit

theorem of_drewN {m n : Nat} {w w' : World} (h : Below m (w.drewN n) w') : Below m w w' := ⟨h.os, h.tape, h.output, h.size, h.block⟩
theorem SlU.some {w : World} {ao : Option Addr} {cap : Nat} {ws : List Nat} (h : SlU w ao cap ws) (h0 : 0 < ws.length) : ∃ g off, ao = Option.some ⟨g, off, none⟩ := by
  rcases h.shape with ⟨_, h1⟩ | h1
  · have := h.cap; omega
  · exact h1
theorem len_pos {ws : List Nat} (h : 0 < num ws) : 0 < ws.length := by
  rcases Nat.eq_zero_or_pos ws.length with h0 | h0
  · rw [List.length_eq_zero_iff.1 h0] at h; simp [num] at h
  · exact h0
theorem len_le {us vs : List Nat} (_ : okW us) (kb : okW vs) (ta : trimW us) (h : num us ≤ num vs) : us.length ≤ vs.length := by
  rcases Nat.lt_or_ge vs.length us.length with h1 | h1
  · have := cm_len kb ta h1; omega
  · exact h1
theorem big_nil (w : World) : Big w (.slice none 0 0) 0 [] := ⟨⟨none, 0, rfl, fun k hk => by simp at hk, .inl ⟨rfl, rfl⟩, Nat.le_refl _⟩, fun x hx => by simp at hx, fun h => by simp at h, rfl⟩

end Go.Proofs.YtjoncbfaajcioaaGreatDoor

namespace Go.Proofs.YtjoncbfaajcioaaGreatDoor
open RowKit

/-- a struct of a sign and words that stands for a whole number -/
def IntZ (w : World) (v : Value) (z : Int) (L : Nat) : Prop := ∃ ao cap ws, v = .agg #[.bool (decide (z < 0)), .slice ao ws.length cap] ∧ SlU w ao cap ws ∧ okW ws ∧ trimW ws ∧ num ws = z.natAbs ∧ ws.length ≤ L
theorem IntZ.below {w w' : World} {v : Value} {z : Int} {L : Nat} (h : IntZ w v z L) (hb : Below w.heap.size w w') : IntZ w' v z L := by
  obtain ⟨ao, cap, ws, h1, h2, h3⟩ := h
  exact ⟨ao, cap, ws, h1, h2.below hb, h3⟩
theorem IntZ.drewN {w : World} {v : Value} {z : Int} {L : Nat} (h : IntZ w v z L) (n : Nat) : IntZ (w.drewN n) v z L := by
  obtain ⟨ao, cap, ws, h1, h2, h3⟩ := h
  exact ⟨ao, cap, ws, h1, h2.drewN n, h3⟩
theorem IntZ.mono {w : World} {v : Value} {z : Int} {L L' : Nat} (h : IntZ w v z L) (hl : L ≤ L') : IntZ w v z L' := by
  obtain ⟨ao, cap, ws, h1, h2, h3, h4, h5, h6⟩ := h
  exact ⟨ao, cap, ws, h1, h2, h3, h4, h5, by omega⟩
def cmZ (a b : Int) : Int := if a < b then -1 else if a = b then 0 else 1

end Go.Proofs.YtjoncbfaajcioaaGreatDoor

namespace Go.Proofs.YtjoncbfaajcioaaGreatDoor
open RowKit
set_option linter.unusedVariables false

end Go.Proofs.YtjoncbfaajcioaaGreatDoor

namespace Go.Proofs.YtjoncbfaajcioaaGreatDoor
open RowKit
set_option linter.unusedVariables false

end Go.Proofs.YtjoncbfaajcioaaGreatDoor

namespace Go.Proofs.YtjoncbfaajcioaaGreatDoor
open RowKit
set_option linter.unusedVariables false

end Go.Proofs.YtjoncbfaajcioaaGreatDoor

namespace Go.Proofs.YtjoncbfaajcioaaGreatDoor
open RowKit

/-- the block in which a number's words lie, if it has any -/
def Hb (v : Value) (b : Nat) : Prop := ∃ s off l c, v = .agg #[s, .slice (some ⟨b, off, none⟩) l c] ∧ 0 < l
def FrZ (n : Nat) (v : Value) : Prop := ∀ b, Hb v b → n ≤ b
theorem FrZ.mono {n m : Nat} {v : Value} (h : FrZ n v) (hm : m ≤ n) : FrZ m v := fun b hb => Nat.le_trans hm (h b hb)
theorem frz_of {n : Nat} {s : Value} {sl : Value} (h : Fr n sl) : FrZ n (.agg #[s, sl]) := by
  rintro b ⟨s', off, l, c, e, _⟩
  simp at e
  exact h b off l c e.2
theorem intZ_of {w : World} {v : Value} {m : Nat} {rs : List Nat} {z : Int} {s : Bool} {L : Nat} (hB : Big w v m rs) (hm : m = z.natAbs) (hs : s = decide (z < 0)) (hl : rs.length ≤ L) : IntZ w (.agg #[.bool s, v]) z L := by
  obtain ⟨⟨ao, cap, rfl, h2⟩, h3, h4, h5⟩ := hB
  exact ⟨ao, cap, rs, by rw [hs], h2, h3, h4, by rw [h5, hm], hl⟩
theorem IntZ.set {w : World} {v : Value} {z : Int} {L : Nat} (h : IntZ w v z L) {p : Addr} (hp : ∀ b, Hb v b → b ≠ p.block) (x : Value) : IntZ (w.setCell p x) v z L := by
  obtain ⟨ao, cap, ws, rfl, h2, h3⟩ := h
  refine ⟨ao, cap, ws, rfl, ⟨?_, h2.shape, h2.cap⟩, h3⟩
  intro k hk
  obtain ⟨b, off, h1, h4, h5⟩ := h2.rd k hk
  subst h1
  exact h2.rd.other (fun b' off' e => by cases e; exact hp _ ⟨_, off, _, _, rfl, by omega⟩) x k hk
/-- the number's words lie in memory that there is -/
theorem IntZ.lies {w : World} {v : Value} {z : Int} {L b : Nat} (h : IntZ w v z L) (hb : Hb v b) : b < w.heap.size := by
  obtain ⟨ao, cap, ws, rfl, h2, h3⟩ := h
  obtain ⟨s', off, l, c, e, hl⟩ := hb
  simp at e
  obtain ⟨_, rfl, rfl, rfl⟩ := e
  obtain ⟨b', off', h1, h4, h5⟩ := h2.rd 0 hl
  cases h1
  exact h4

theorem mul_sign (x y : Int) : (decide (0 < x.natAbs * y.natAbs) && (decide (x < 0) != decide (y < 0))) = decide (x * y < 0) := by
  rcases Int.lt_trichotomy x 0 with hx | hx | hx
  · have nx : decide (x < 0) = true := decide_eq_true hx
    rcases Int.lt_trichotomy y 0 with hy | hy | hy
    · rw [nx, decide_eq_true hy, decide_eq_false (show ¬ x * y < 0 by have := Int.mul_pos_of_neg_of_neg hx hy; omega)]; simp
    · subst hy; simp
    · rw [nx, decide_eq_false (show ¬ y < 0 by omega), decide_eq_true (Int.mul_neg_of_neg_of_pos hx hy), decide_eq_true (Nat.mul_pos (by omega) (by omega))]; rfl
  · subst hx; simp
  · have nx : decide (x < 0) = false := decide_eq_false (by omega)
    rcases Int.lt_trichotomy y 0 with hy | hy | hy
    · rw [nx, decide_eq_true hy, decide_eq_true (Int.mul_neg_of_pos_of_neg hx hy), decide_eq_true (Nat.mul_pos (by omega) (by omega))]; rfl
    · subst hy; simp
    · rw [nx, decide_eq_false (show ¬ y < 0 by omega), decide_eq_false (show ¬ x * y < 0 by have := Int.mul_pos hx hy; omega)]; simp
end Go.Proofs.YtjoncbfaajcioaaGreatDoor

namespace Go.Proofs.YtjoncbfaajcioaaGreatDoor
open RowKit

/-- how many binary digits -/
def nbits : Nat → Nat
  | 0 => 0
  | n + 1 => 1 + nbits ((n + 1) / 2)
decreasing_by omega
theorem nbits_zero : nbits 0 = 0 := by unfold nbits; rfl
theorem nbits_pos {n : Nat} (h : 0 < n) : nbits n = 1 + nbits (n / 2) := by
  cases n with
  | zero => omega
  | succ n => rw [nbits]

theorem nbits_lt (m : Nat) : m < 2 ^ nbits m := by
  induction m using Nat.strongRecOn with
  | _ m ih =>
    rcases Nat.eq_zero_or_pos m with h | h
    · subst h; rw [nbits_zero]; decide
    · rw [nbits_pos h, Nat.add_comm, Nat.pow_succ]
      have := ih (m / 2) (by omega)
      omega
theorem nbits_ge {m : Nat} (h : 0 < m) : 2 ^ nbits m ≤ 2 * m := by
  induction m using Nat.strongRecOn with
  | _ m ih =>
    rw [nbits_pos h, Nat.add_comm, Nat.pow_succ]
    rcases Nat.eq_zero_or_pos (m / 2) with h2 | h2
    · rw [h2, nbits_zero]; omega
    · have := ih (m / 2) (by omega) h2
      omega
theorem pow_le {a b : Nat} (h : (2 : Nat) ^ a < 2 ^ b) : a < b := by
  rcases Nat.lt_or_ge a b with h1 | h1
  · exact h1
  · have := Nat.pow_le_pow_right (n := 2) (by decide) h1; omega
/-- how many digits, by the powers about it -/
theorem nbits_eq {m k : Nat} (h0 : 2 ^ k ≤ 2 * m) (h1 : m < 2 ^ k) : nbits m = k := by
  have hm : 0 < m := by
    rcases Nat.eq_zero_or_pos m with h | h
    · subst h; have := Nat.two_pow_pos k; omega
    · exact h
  have a := nbits_lt m
  have b := nbits_ge hm
  have c : nbits m < k + 1 := pow_le (by rw [Nat.pow_succ]; omega)
  have d : k < nbits m + 1 := pow_le (by rw [Nat.pow_succ]; omega)
  omega
theorem nbits_le {m k : Nat} (h : m < 2 ^ k) : nbits m ≤ k := by
  rcases Nat.eq_zero_or_pos m with h0 | h0
  · subst h0; rw [nbits_zero]; exact Nat.zero_le _
  · have b := nbits_ge h0
    have c : nbits m < k + 1 := pow_le (by rw [Nat.pow_succ]; omega)
    omega
theorem pow32 (n : Nat) : (4294967296 : Nat) ^ n = 2 ^ (32 * n) := by rw [Nat.pow_mul]
theorem nbits_words {us : List Nat} {n u : Nat} (ka : okW us) (hn : us.length = n + 1) (hu : u = us.getD n 0) (h0 : u ≠ 0) : nbits (num us) = 32 * n + nbits u := by
  have h1 := num_split us n (by omega)
  have h2 := num_lt (okW_take ka n)
  have hl : (us.take n).length = n := by rw [List.length_take]; omega
  have hd : us.drop (n + 1) = [] := List.drop_eq_nil_of_le (by omega)
  rw [hl, pow32] at h2
  rw [hd, ← hu, pow32] at h1
  have hz : num ([] : List Nat) = 0 := rfl
  rw [hz, Nat.mul_zero, Nat.add_zero] at h1
  have a := nbits_lt u
  have b := nbits_ge (m := u) (by omega)
  generalize hP : (2 : Nat) ^ (32 * n) = P at *
  apply nbits_eq
  · rw [Nat.pow_add, hP, h1]
    calc P * 2 ^ nbits u ≤ P * (2 * u) := Nat.mul_le_mul_left _ b
      _ ≤ 2 * (num (us.take n) + P * u) := by rw [Nat.mul_left_comm]; omega
  · rw [Nat.pow_add, hP, h1]
    calc num (us.take n) + P * u < P + P * u := by omega
      _ = P * (u + 1) := by rw [Nat.mul_add, Nat.mul_one, Nat.add_comm]
      _ ≤ P * 2 ^ nbits u := Nat.mul_le_mul_left _ a

end Go.Proofs.YtjoncbfaajcioaaGreatDoor

namespace Go.Proofs.YtjoncbfaajcioaaGreatDoor
open RowKit

theorem fold_tab : ({ data := (([0, 1, 2, 2, 3, 3, 3, 3, 4, 4, 4, 4, 4, 4, 4, 4, 5, 5, 5, 5, 5, 5, 5, 5, 5, 5, 5, 5, 5, 5, 5, 5, 6, 6, 6, 6, 6, 6, 6, 6, 6, 6, 6, 6, 6, 6, 6, 6, 6, 6, 6, 6, 6, 6, 6, 6, 6, 6, 6, 6, 6, 6, 6, 6].append [7, 7, 7, 7, 7, 7, 7, 7, 7, 7, 7, 7, 7, 7, 7, 7, 7, 7, 7, 7, 7, 7, 7, 7, 7, 7, 7, 7, 7, 7, 7, 7, 7, 7, 7, 7, 7, 7, 7, 7, 7, 7, 7, 7, 7, 7, 7, 7, 7, 7, 7, 7, 7, 7, 7, 7, 7, 7, 7, 7, 7, 7, 7, 7]).append ([8, 8, 8, 8, 8, 8, 8, 8, 8, 8, 8, 8, 8, 8, 8, 8, 8, 8, 8, 8, 8, 8, 8, 8, 8, 8, 8, 8, 8, 8, 8, 8, 8, 8, 8, 8, 8, 8, 8, 8, 8, 8, 8, 8, 8, 8, 8, 8, 8, 8, 8, 8, 8, 8, 8, 8, 8, 8, 8, 8, 8, 8, 8, 8].append [8, 8, 8, 8, 8, 8, 8, 8, 8, 8, 8, 8, 8, 8, 8, 8, 8, 8, 8, 8, 8, 8, 8, 8, 8, 8, 8, 8, 8, 8, 8, 8, 8, 8, 8, 8, 8, 8, 8, 8, 8, 8, 8, 8, 8, 8, 8, 8, 8, 8, 8, 8, 8, 8, 8, 8, 8, 8, 8, 8, 8, 8, 8, 8])).toArray } : ByteArray) = Lib.len8tab := by kernel_rfl
theorem bitLen_nbits : ∀ x : Nat, x < 18446744073709551616 → Lib.bitLen x = nbits x := by
  intro x
  induction x using Nat.strongRecOn with
  | ind x ih =>
    intro hx
    rcases Nat.eq_zero_or_pos x with h | h
    · subst h; rw [nbits_zero]; rfl
    · rw [Lib.bitLen_half x (by omega) hx, nbits_pos h, ih (x / 2) (by omega) (by omega)]
theorem tab_size : (Lib.len8tab.size : Int) = 256 := by rw [Lib.len8tab_size]; rfl
theorem tab_get (y : Int) (h : y.toNat < Lib.len8tab.size) (h0 : 0 ≤ y) (h1 : y ≤ 255) : ((Lib.len8tab[y.toNat]'h).toNat : Int) = (Lib.bitLen y.toNat : Int) ∧ Lib.bitLen y.toNat ≤ 8 := by
  refine ⟨?_, Lib.bitLen_le8' y h0 h1⟩
  rw [← Lib.len8_of y h0 h1]
  unfold Lib.len8
  rw [getElem?_pos Lib.len8tab y.toNat h]
  rfl
theorem len_fin (x : Int) (k : Nat) (K y : Int) (h : y.toNat < Lib.len8tab.size) (hx0 : 0 ≤ x) (hx : x ≤ 18446744073709551615) (hk : k ≤ 56) (hK : K = (k : Int)) (hy : y.toNat = x.toNat / 2 ^ k) (h0 : 0 ≤ y) (h1 : y ≤ 255) (hp : 2 ^ k ≤ x.toNat) :
    wrap64 (K + wrap64 ((Lib.len8tab[y.toNat]'h).toNat : Int)) = (Lib.bitLen x.toNat : Int) := by
  obtain ⟨e, l⟩ := tab_get y h h0 h1
  have e3 := Lib.bitLen_shift k x.toNat hp (by omega)
  rw [← hy] at e3
  have e5 : ∀ n : Int, 0 ≤ n → n ≤ 100 → wrap64 n = n := fun n h0 h1 => by unfold wrap64; omega
  rw [e, e5 (Lib.bitLen y.toNat : Int) (by omega) (by omega), hK, e5 ((k : Int) + (Lib.bitLen y.toNat : Int)) (by omega) (by omega), e3]
  omega
theorem len_fin0 (x : Int) (h : x.toNat < Lib.len8tab.size) (h0 : 0 ≤ x) (h1 : x ≤ 255) :
    wrap64 ((Lib.len8tab[x.toNat]'h).toNat : Int) = (Lib.bitLen x.toNat : Int) ∧ wrap64 (wrap64 ((Lib.len8tab[x.toNat]'h).toNat : Int)) = (Lib.bitLen x.toNat : Int) := by
  obtain ⟨e, l⟩ := tab_get x h h0 h1
  have e5 : ∀ n : Int, 0 ≤ n → n ≤ 100 → wrap64 n = n := fun n h0 h1 => by unfold wrap64; omega
  rw [e, e5 (Lib.bitLen x.toNat : Int) (by omega) (by omega), e5 (Lib.bitLen x.toNat : Int) (by omega) (by omega)]
  exact ⟨rfl, rfl⟩
set_option maxRecDepth 20000 in
set_option maxHeartbeats 1000000 in
theorem len64_I (x : Int) (w : World) (h0 : 0 ≤ x) (h1 : x ≤ 18446744073709551615) :
    Calls Tryz.prog 129 #[.int .u64 x] w fun e w' => e = .returned (.int .i64 (Lib.bitLen x.toNat)) ∧ w' = w := by
  have hs := tab_size
  go_enter Tryz.func129, Tryz.ntmps129
  simp only [fold_tab]
  go_wp2
  all_goals (try (exfalso; omega))
  all_goals (go_ret; refine ⟨congrArg Ending.returned (congrArg (Value.int IntKind.i64) ?_), rfl⟩)
  all_goals first
    | exact len_fin x 56 _ _ _ h0 h1 (by decide) rfl (by omega) (by omega) (by omega) (by omega)
    | exact len_fin x 48 _ _ _ h0 h1 (by decide) rfl (by omega) (by omega) (by omega) (by omega)
    | exact len_fin x 40 _ _ _ h0 h1 (by decide) rfl (by omega) (by omega) (by omega) (by omega)
    | exact len_fin x 32 _ _ _ h0 h1 (by decide) rfl (by omega) (by omega) (by omega) (by omega)
    | exact len_fin x 24 _ _ _ h0 h1 (by decide) rfl (by omega) (by omega) (by omega) (by omega)
    | exact len_fin x 16 _ _ _ h0 h1 (by decide) rfl (by omega) (by omega) (by omega) (by omega)
    | exact len_fin x 8 _ _ _ h0 h1 (by decide) rfl (by omega) (by omega) (by omega) (by omega)
    | exact (len_fin0 x _ (by omega) (by omega)).1
    | exact (len_fin0 x _ (by omega) (by omega)).2
theorem len64_any (x : Nat) (hx : x < 18446744073709551616) (w : World) :
    Calls Tryz.prog 129 #[.int .u64 x] w fun e w' => e = .returned (.int .i64 (nbits x)) ∧ w' = w := by
  refine (len64_I (x : Int) w (by omega) (by omega)).mono ?_
  rintro e w' ⟨rfl, rfl⟩
  rw [Int.toNat_natCast, bitLen_nbits x hx]
  exact ⟨rfl, rfl⟩

end Go.Proofs.YtjoncbfaajcioaaGreatDoor

namespace Go.Proofs.YtjoncbfaajcioaaGreatDoor
open RowKit

theorem pow64 (n : Nat) : (18446744073709551616 : Nat) ^ n = 2 ^ (64 * n) := by rw [Nat.pow_mul]
theorem nbits_q {us : List Nat} {n u : Nat} (ka : okQ us) (hn : us.length = n + 1) (hu : u = us.getD n 0) (h0 : u ≠ 0) : nbits (qn us) = 64 * n + nbits u := by
  have h1 := qn_split us n (by omega)
  rw [List.drop_of_length_le (by omega), ← hu, show qn [] = 0 from rfl, Nat.mul_zero, Nat.add_zero] at h1
  have h2 := qn_lt (okQ_take ka n)
  rw [List.length_take, Nat.min_eq_left (by omega)] at h2
  rw [h1]
  rw [pow64] at h2 ⊢
  have h3 := nbits_lt u
  have h4 := nbits_ge (m := u) (by omega)
  generalize qn (us.take n) = t at *
  apply nbits_eq
  · rw [Nat.pow_add]
    have : 2 ^ (64 * n) * 2 ^ nbits u ≤ 2 ^ (64 * n) * (2 * u) := Nat.mul_le_mul_left _ h4
    rw [Nat.mul_left_comm] at this
    omega
  · rw [Nat.pow_add]
    have : 2 ^ (64 * n) * (u + 1) ≤ 2 ^ (64 * n) * 2 ^ nbits u := Nat.mul_le_mul_left _ h3
    rw [Nat.mul_succ] at this
    omega
set_option maxHeartbeats 1000000 in
theorem qlen_any {v : Value} {base z L : Nat} (w : World) (hv : Wh w base v z L) (hz : 0 < z) (hL : L ≤ 200000) :
    Calls Tryz.prog 103 #[v] w fun e w' => ∃ n, e = .returned (.int .i64 (nbits z)) ∧ w' = w.drewN n := by
  obtain ⟨us, hoa, ka, ta, nu, hla⟩ := hv
  subst nu
  obtain ⟨ao, ca, rfl, hc, hca, hsh⟩ := own_rd hoa
  have hne : us.length ≠ 0 := fun h => by have := (qn_pos ta).2 h; omega
  obtain ⟨n, hn⟩ : ∃ n, us.length = n + 1 := ⟨us.length - 1, by omega⟩
  obtain ⟨u, hu⟩ : ∃ u, u = us.getD n 0 := ⟨_, rfl⟩
  have hu0 : u ≠ 0 := by have := ta (by omega); rw [hn, Nat.add_sub_cancel, ← hu] at this; exact this
  have hnb := nbits_q ka hn hu hu0
  have huk : u < 18446744073709551616 := by rw [hu]; exact okQ_getD ka n
  obtain ⟨g, rfl, hg, hcell⟩ := hc n (by omega)
  rw [← hu] at hcell
  have hnu : nbits u ≤ 64 := nbits_le (by omega)
  obtain ⟨nb, hnbe⟩ : ∃ nb, nb = nbits u := ⟨_, rfl⟩
  rw [← hnbe] at hnb hnu
  have HNB : Hid (nbits (qn us) = 64 * n + nb) := hnb
  have hlI : (us.length : Int) = (n : Int) + 1 := by omega
  have hn2 : n ≤ 200000 := by omega
  rw [hn]
  clear hnb hoa ta ka hc hsh hu hlI hn hne hz
  have HU : Hid (nb = nbits u) := hnbe
  clear hnbe
  have hwr : wrap64 (n : Int) = (n : Int) := by unfold wrap64; omega
  go_enter Tryz.func103, Tryz.ntmps103
  go_wp2_with (go_at_call 129; (with_reducible refine (len64_any u huk _).mono ?_); rintro e w' ⟨rfl, rfl⟩)
  go_ret
  refine ⟨0, congrArg Ending.returned (congrArg (Value.int .i64) ?_), rfl⟩
  rw [HNB.out, ← HU.out]
  have e5 : ∀ x : Int, 0 ≤ x → x ≤ 100000000 → wrap64 x = x := fun x h0 h1 => by unfold wrap64; omega
  rw [e5 ((n : Int) * 64 + (nb : Int)) (by omega) (by omega)]
  omega

end Go.Proofs.YtjoncbfaajcioaaGreatDoor
