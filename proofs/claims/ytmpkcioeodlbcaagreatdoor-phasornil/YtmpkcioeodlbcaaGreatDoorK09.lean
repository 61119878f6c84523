/-
  Several texts in one: Qr Qs Qt Gm Gh Ql.
-/
import Derived.Test.YtmpkcioeodlbcaaGreatDoorK08
import Derived.Laws.Cover3
import Derived.Test.YtmpkcioeodlbcaaGreatDoorK06
import Derived.Handy
import Derived.Deep.QuietTactic
import Derived.Deep.RegionWith
import Derived.BigQuiet
import Derived.Lib.BitFns
namespace Go.Proofs.YtmpkcioeodlbcaaGreatDoor
open RowKit
theorem hp_drew (w : World) : w.drew.heap = w.heap := rfl
theorem hp_drewN (w : World) (n : Nat) : (w.drewN n).heap = w.heap := rfl
theorem Wh.hp {w w' : World} {base z L : Nat} {v : Value} (h : Wh w base v z L) (e : w'.heap = w.heap) : Wh w' base v z L := by
  obtain ⟨ws, h1, h2⟩ := h
  refine ⟨ws, ?_, h2⟩
  unfold World.ownsRow at h1 ⊢
  rw [e]; exact h1
theorem Only.hp {S : Nat → Prop} {a a' b : World} (h : Only S a' b) (e : a'.heap = a.heap) (e1 : a'.os = a.os) (e2 : a'.tape = a.tape) (e3 : a'.output = a.output) : Only S a b :=
  ⟨h.os.trans e1, h.tape.trans e2, h.output.trans e3, e ▸ h.size, e ▸ h.block⟩
/-- a struct in memory that begins with two whole numbers -/
structure Rt (w : World) (p : Nat) (e : TypeId) (cur : Array Value) (base : Nat) (vr vo : Value) (r o L : Nat) : Prop where
  blk : w.heap[p]? = some (.cells cur e (0, 0))
  c0 : cur[0]? = some vr
  c1 : cur[1]? = some vo
  wr : Wh w base vr r L
  wo : Wh w base vo o L
  ap : ∀ k, Ob vr k → ¬ Ob vo k
  pr : ¬ Ob vr p
  po : ¬ Ob vo p
  bs : base ≤ w.heap.size
theorem Rt.cell0 {w : World} {p base r o L : Nat} {e : TypeId} {cur : Array Value} {vr vo : Value} (h : Rt w p e cur base vr vo r o L) : w.cell? ⟨p, 0, none⟩ = some vr := by
  rw [cell_of_row w p 0 cur e (0, 0) h.blk, ← h.c0]
theorem Rt.cell1 {w : World} {p base r o L : Nat} {e : TypeId} {cur : Array Value} {vr vo : Value} (h : Rt w p e cur base vr vo r o L) : w.cell? ⟨p, 1, none⟩ = some vo := by
  rw [cell_of_row w p 1 cur e (0, 0) h.blk, ← h.c1]
theorem Rt.froz {w : World} {p base r o L : Nat} {e : TypeId} {cur : Array Value} {vr vo : Value} (h : Rt w p e cur base vr vo r o L) (j : Nat) : w.frozen? ⟨p, j, none⟩ = false := frozen_of_row w p j cur e h.blk
theorem Rt.plt {w : World} {p base r o L : Nat} {e : TypeId} {cur : Array Value} {vr vo : Value} (h : Rt w p e cur base vr vo r o L) : p < w.heap.size := (Array.getElem?_eq_some_iff.1 h.blk).1
theorem Rt.drewN {w : World} {p base r o L : Nat} {e : TypeId} {cur : Array Value} {vr vo : Value} (h : Rt w p e cur base vr vo r o L) (n : Nat) : Rt (w.drewN n) p e cur base vr vo r o L := ⟨h.blk, h.c0, h.c1, h.wr, h.wo, h.ap, h.pr, h.po, h.bs⟩
theorem Wh.fit {w w' : World} {base base' z z' L L' : Nat} {v v' : Value} (h : Wh w base v z L) (h' : Wh w' base' v' z' L') (hz : z ≤ z') : Wh w base v z L' := by
  obtain ⟨ws, h1, h2, h3, h4, h5⟩ := h
  obtain ⟨ws', k1, k2, k3, k4, k5⟩ := h'
  exact ⟨ws, h1, h2, h3, h4, Nat.le_trans (qs_len k2 h3 (by omega)) k5⟩
theorem Wh.sl {w : World} {base z L : Nat} {v : Value} (h : Wh w base v z L) : ∃ ao n c, v = .slice ao n c := by
  obtain ⟨ws, h1, _⟩ := h
  obtain ⟨ao, c, e, _⟩ := own_rd h1
  exact ⟨ao, _, c, e⟩
/-- the rest is turned: all else is as it was -/
theorem Rt.put {w w1 : World} {p base r o L r' L' : Nat} {e : TypeId} {cur : Array Value} {vr vo vr' : Value} (h : Rt w p e cur base vr vo r o L) (ho : Only (Ob vr) w w1) (hv : Wh w1 base vr' r' L') (hf : ∀ k, Ob vr' k → Ob vr k ∨ w.heap.size ≤ k) (hL : L ≤ L') :
    Rt (w1.setCell ⟨p, 0, none⟩ vr') p e (cur.setIfInBounds 0 vr') base vr' vo r' o L' ∧ Only (fun k => Ob vr k ∨ k = p) w (w1.setCell ⟨p, 0, none⟩ vr') := by
  have hb1 : w1.heap[p]? = some (.cells cur e (0, 0)) := by rw [ho.block p h.plt h.pr]; exact h.blk
  have hpr' : ¬ Ob vr' p := fun hk => by
    rcases hf p hk with h1 | h1
    · exact h.pr h1
    · have := h.plt; omega
  have os : Only (fun k => k = p) w1 (w1.setCell ⟨p, 0, none⟩ vr') := (Only.refl _ _).set _ _ (.inl rfl)
  refine ⟨⟨heap_setCell_same w1 p 0 cur e vr' hb1, ?_, ?_, hv.only os (fun k hk hk2 => hpr' (hk2 ▸ hk)), ((h.wo.only ho (fun k hk hk2 => h.ap k hk2 hk)).only os (fun k hk hk2 => h.po (hk2 ▸ hk))).mono hL, fun k hk hk2 => ?_, hpr', h.po, ?_⟩, (ho.mono (fun i _ hi => .inl hi)).next os (fun i hi => .inl (.inr hi))⟩
  · have hs : 0 < cur.size := (Array.getElem?_eq_some_iff.1 h.c0).1
    simp [hs]
  · rw [Array.getElem?_setIfInBounds, if_neg (by decide)]; exact h.c1
  · rcases hf k hk with h1 | h1
    · exact h.ap k h1 hk2
    · have := (h.wo.lt hk2).1; omega
  · have := ho.size
    have := h.bs
    simp; omega
theorem setSet (cur : Array Value) (a b : Value) : (cur.setIfInBounds 0 a).setIfInBounds 0 b = cur.setIfInBounds 0 b := by
  apply Array.ext'
  simp
theorem next_step {r b o d : Nat} (h : o ≤ r * b - d * o) (hd : d * o ≤ r * b) : (d + 1) * o ≤ r * b ∧ r * b - d * o - o = r * b - (d + 1) * o := by
  rw [Nat.add_mul]; omega
theorem next_end {r b o d : Nat} (h : r * b - d * o < o) (hd : d * o ≤ r * b) : r * b / o = d ∧ r * b % o = r * b - d * o := by
  have ho : 0 < o := by omega
  have e : r * b = (r * b - d * o) + d * o := by omega
  constructor
  · rw [e, Nat.add_mul_div_right _ _ ho, Nat.div_eq_of_lt h, Nat.zero_add]
  · rw [e, Nat.add_mul_mod_self_right, Nat.mod_eq_of_lt h]; omega
theorem next_lt {r b o d : Nat} (hr : r < o) (hd : d * o ≤ r * b) (hb : 0 < b) : d < b := by
  rcases Nat.lt_or_ge d b with h | h
  · exact h
  · exfalso
    have h1 : b * o ≤ d * o := Nat.mul_le_mul_right _ h
    have h2 : r * b < o * b := Nat.mul_lt_mul_of_pos_right hr hb
    rw [Nat.mul_comm o b] at h2
    omega
theorem cmI_ge {x y : Nat} : (0 ≤ cmI x y) ↔ y ≤ x := by unfold cmI; split <;> (try split) <;> omega
set_option maxRecDepth 10000 in
set_option maxHeartbeats 1000000 in
theorem qnext_any {w : World} {p base r o L b : Nat} {e : TypeId} {cur : Array Value} {vr vo : Value} {B : Int} (h : Rt w p e cur base vr vo r o L) (hr : r < o) (hB : B = ((b : Nat) : Int)) (hb : 1 ≤ b) (hb2 : b ≤ 100) (hL : L ≤ 90000) :
    Calls Tryz.prog 244 #[.pointer (some ⟨p, 0, none⟩), .int .u64 B] w fun e' w' => ∃ dd : Nat, e' = .returned (.int .u64 dd) ∧ dd = r * b / o ∧ ∃ vr' : Value, Rt w' p e (cur.setIfInBounds 0 vr') base vr' vo (r * b % o) o L ∧ Only (fun k => Ob vr k ∨ k = p) w w' ∧ (∀ k, Ob vr' k → Ob vr k ∨ w.heap.size ≤ k) := by
  subst hB
  have hc0 := h.cell0
  have hf1 : ∀ w1, Only (Ob vr) w w1 → w1.frozen? ⟨p, 0, none⟩ = false ∧ ∃ u, w1.cell? ⟨p, 0, none⟩ = some u := fun w1 ho => by
    have hb1 : w1.heap[p]? = some (.cells cur e (0, 0)) := by rw [ho.block p h.plt h.pr]; exact h.blk
    exact ⟨frozen_of_row w1 p 0 cur e hb1, vr, by rw [cell_of_row w1 p 0 cur e (0, 0) hb1]; exact h.c0⟩
  go_enter Tryz.func244, Tryz.ntmps244
  go_wp2_with (go_at_call 261; (with_reducible refine (qtimesI b 0 h.wr rfl (by omega) (by omega) (by omega) (by omega) hb h.bs).mono ?_); rintro e1 w1 ⟨v1, rfl, k1, k2, k3⟩; obtain ⟨kf, u, kc⟩ := hf1 w1 k2; obtain ⟨a1, n1, c1, rfl⟩ := k1.sl)
  obtain ⟨R1, O1⟩ := h.put k2 k1 k3 (Nat.le_succ L)
  rw [Nat.add_zero] at R1
  have hplt := h.plt
  clear kf kc hc0 hf1 k1 k2
  go_loopw [5] (fun dv wq => ∃ (d : Nat) (v0 : Value), dv = .int .u64 d ∧ Rt wq p e (cur.setIfInBounds 0 v0) base v0 vo (r * b - d * o) o (L + 1) ∧ d * o ≤ r * b ∧ Only (fun k => Ob vr k ∨ k = p) w wq ∧ (∀ k, Ob v0 k → Ob vr k ∨ w.heap.size ≤ k)) (fun dv _ => r * b / o - (intOf dv).toNat)
  case atStart => exact ⟨0, _, rfl, by simpa using R1, by omega, O1, k3⟩
  case round =>
    clear R1 O1 k3
    obtain ⟨d, v0, rfl, R, hd, hO, hf⟩ := hrel
    have hdb := next_lt hr hd hb
    have c0 := R.cell0
    have c1 := R.cell1
    have fz := R.froz 0
    by_cases hge : o ≤ r * b - d * o
    · have hcmp : 0 ≤ cmI (r * b - d * o) o := cmI_ge.2 hge
      obtain ⟨s1, s2⟩ := next_step hge hd
      have HS : Hid ((d + 1) * o ≤ r * b ∧ r * b - d * o - o = r * b - (d + 1) * o) := ⟨s1, s2⟩
      have HR : Hid (Rt wr p e (cur.setIfInBounds 0 v0) base v0 vo (r * b - d * o) o (L + 1)) := R
      have HO : Hid (Only (fun k => Ob vr k ∨ k = p) w wr) := hO
      have HF : Hid (∀ k, Ob v0 k → Ob vr k ∨ w.heap.size ≤ k) := hf
      generalize hx : cmI (r * b - d * o) o = x at hcmp
      have HX : Hid (cmI (r * b - d * o) o = x) := hx
      have hf2 : ∀ w1, Only (Ob v0) wr w1 → w1.frozen? ⟨p, 0, none⟩ = false ∧ ∃ u, w1.cell? ⟨p, 0, none⟩ = some u := fun w1 ho => by
        have hb1 : w1.heap[p]? = some (.cells (cur.setIfInBounds 0 v0) e (0, 0)) := by rw [ho.block p R.plt R.pr]; exact R.blk
        exact ⟨frozen_of_row w1 p 0 _ e hb1, v0, by rw [cell_of_row w1 p 0 _ e (0, 0) hb1]; exact R.c0⟩
      clear hx s1 s2 hO hf
      go_wp2_with fail
      go_region_with (go_at_call 265; (with_reducible refine (qcmp_any _ (R.wr.hp (by first | exact hp_drew _ | exact hp_drewN _ _)) (R.wo.hp (by first | exact hp_drew _ | exact hp_drewN _ _)) (by omega) (by omega)).mono ?_); rintro e1 w1 ⟨m1, rfl, rfl⟩; rw [HX.out])
      all_goals
        go_wp2_with fail
        go_region_with (go_at_call 266; (with_reducible refine (qminus_any _ (HR.out.wr.hp (by first | exact hp_drew _ | exact hp_drewN _ _)) (HR.out.wo.hp (by first | exact hp_drew _ | exact hp_drewN _ _)) hge HR.out.ap (by omega)).mono ?_); rintro e1 w1 ⟨v2, rfl, j1, j2, j3⟩; obtain ⟨kf2, u2, kc2⟩ := hf2 w1 (j2.hp rfl rfl rfl rfl); obtain ⟨a2, n2, c2, rfl⟩ := j1.sl)
      all_goals
        go_wp2
        go_roundw
        case rel =>
          obtain ⟨R2, O2⟩ := HR.out.put (j2.hp rfl rfl rfl rfl) j1 (fun k hk => .inl (j3 k hk)) (Nat.le_refl _)
          rw [setSet, HS.out.2] at R2
          refine ⟨d + 1, _, congrArg (Value.int .u64) (by omega), R2, HS.out.1, HO.out.next O2 (fun i hi => ?_), fun k hk => HF.out k (j3 k hk)⟩
          rcases hi with hi | hi
          · exact (HF.out i hi).imp .inl id
          · exact .inl (.inr hi)
        case measure =>
          have hq : d + 1 ≤ r * b / o := (Nat.le_div_iff_mul_le (by omega)).2 HS.out.1
          generalize r * b / o = q at *
          simp [intOf]
          omega
    · have hcmp : ¬ 0 ≤ cmI (r * b - d * o) o := fun h => hge (cmI_ge.1 h)
      have E : Hid (r * b / o = d ∧ r * b % o = r * b - d * o) := next_end (by omega) hd
      have HR : Hid (Rt wr p e (cur.setIfInBounds 0 v0) base v0 vo (r * b - d * o) o (L + 1)) := R
      generalize hx : cmI (r * b - d * o) o = x at hcmp
      have HX : Hid (cmI (r * b - d * o) o = x) := hx
      clear hx
      go_wp2_with fail
      go_region_with (go_at_call 265; (with_reducible refine (qcmp_any _ (R.wr.hp (by first | exact hp_drew _ | exact hp_drewN _ _)) (R.wo.hp (by first | exact hp_drew _ | exact hp_drewN _ _)) (by omega) (by omega)).mono ?_); rintro e1 w1 ⟨n1, rfl, rfl⟩; rw [HX.out])
      all_goals
        go_wp2
        go_ret
        exact ⟨d, rfl, E.out.1.symm, v0, by rw [E.out.2]; exact ⟨HR.out.blk, HR.out.c0, HR.out.c1, HR.out.wr.fit h.wo (by omega), HR.out.wo.fit h.wo (Nat.le_refl _), HR.out.ap, HR.out.pr, HR.out.po, HR.out.bs⟩, hO.drewN _, hf⟩

end Go.Proofs.YtmpkcioeodlbcaaGreatDoor
namespace Go.Proofs.YtmpkcioeodlbcaaGreatDoor
open RowKit
theorem run_nil64 (a : Addr) (n c : Nat) (w : World) : (binOp BinOp.eql 288 (Value.slice (some a) n c) (Value.slice none 0 0)).run Tryz.prog w = .ok (.bool false) w := by
  simp [binOp, run_equal_slice_nil w 288 47 (some a) n c Tryz.underlying288]
set_option maxRecDepth 20000 in
set_option maxHeartbeats 1000000 in
theorem qclone_any {v : Value} {base z L : Nat} (w : World) (hv : Wh w base v z L) (hz : 0 < z) (hL : L ≤ 200000) :
    Calls Tryz.prog 294 #[v] w fun e w' => ∃ v', e = .returned v' ∧ Wh w' w.heap.size v' z L ∧ Below w.heap.size w w' := by
  obtain ⟨i0, hi0, hz0, hz1, hz2⟩ := info_parts3 Tryz.info64
  obtain ⟨ws, hoa, ka, ta, nu, hla⟩ := hv
  subst nu
  obtain ⟨ao, ca, rfl, hc, hca, hsh⟩ := own_rd hoa
  have hne : ws.length ≠ 0 := fun h => by have := (qn_pos ta).2 h; omega
  obtain ⟨g, rfl⟩ : ∃ g, ao = some ⟨g, 0, none⟩ := by
    rcases hsh with h | h
    · omega
    · exact h
  have hl0 : (w.alloc (.cells #[] 47)).ownsRow w.heap.size 47 1 (.slice (some ⟨w.heap.size, 0, none⟩) 0 0) 0 [] := World.ownsRow_lit w #[] 0 (Nat.le_refl _) (by unfold maxLen; omega) rfl
  have hnil := run_nil64 ⟨g, 0, none⟩ ws.length ca
  go_enter Tryz.func294, Tryz.ntmps294
  go_wp2_with (at_builtin; refine wpList_append_new _ rfl _ _ 288 rfl w.heap.size 47 i0 (.int .u64 0) 8 Tryz.underlying288 hi0 hz0 hz1 hz2 rfl _ 0 [] rfl hl0 ⟨g, 0, none⟩ ws.length ca (qv ws) rfl (by rw [qv_len, Nat.mul_one]) ((hoa.alloc _).cells (g := g) rfl) ?c2 (by unfold maxLen; omega) (by omega) (by simp) ?_)
  case c2 =>
    intro u hu
    unfold qv at hu
    obtain ⟨y, _, rfl⟩ := List.mem_map.1 hu
    rfl
  · intro v' w1 hown1 hgrow hfr
    have B : Below w.heap.size w w1 := ((Below.refl _ w).alloc (Nat.le_refl _) _).grown hgrow (by simp) (fun j hj => by simp [Value.ownBlock] at hj; omega)
    have R : w1.ownsRow w.heap.size 47 1 v' ws.length (qv ws) := by simpa using hown1
    clear hown1 hgrow hfr
    go_wp2
    go_ret
    exact ⟨_, rfl, ⟨ws, R, ka, ta, rfl, hla⟩, B⟩
theorem undrewB {n : Nat} {w w' : World} (h : Below n w.drew w') : Below n w w' := ⟨h.os, h.tape, h.output, h.size, h.block⟩
theorem lack_ap {w w1 : World} {base r L L' z : Nat} {v1 vr : Value} (k1 : Wh w1 w.heap.size v1 z L') (h : Wh w base vr r L) : ∀ k, Ob v1 k → ¬ Ob vr k := fun k hk hk2 => by
  have q1 := (k1.lt hk).2
  have q2 := (h.lt hk2).1
  omega
theorem lack_wr {w w1 : World} {base r L : Nat} {vr : Value} (k2 : Below w.heap.size w w1) (h : Wh w base vr r L) : Wh w1 base vr r L := h.only (Only.of_below (S := fun _ => False) k2) (fun _ _ => id)
set_option maxRecDepth 10000 in
set_option maxHeartbeats 1000000 in
theorem qlack_any {w : World} {p base r o L : Nat} {e : TypeId} {cur : Array Value} {vr vo : Value} (h : Rt w p e cur base vr vo r o L) (hr : r ≤ o) (ho : 0 < o) (hL : L ≤ 200000) :
    Calls Tryz.prog 267 #[.pointer (some ⟨p, 0, none⟩)] w fun e' w' => ∃ v', e' = .returned v' ∧ Wh w' w.heap.size v' (o - r) L ∧ Below w.heap.size w w' := by
  have c0 := h.cell0
  have c1 := h.cell1
  have hp := h.plt
  go_enter Tryz.func267, Tryz.ntmps267
  go_wp2_with fail
  go_region_held_law (fun W => W.cell? ⟨p, 0, none⟩ = some vr ∧ W.cell? ⟨p, 1, none⟩ = some vo)
    (first | with_reducible exact D1 | with_reducible exact D2 | go_keep)
    (first
    | (go_at_call 294; (with_reducible refine (qclone_any _ (h.wo.hp (hp_drew _)) ho hL).mono ?_); rintro e1 w1 ⟨v1, rfl, k1, k2⟩; have k2 := undrewB k2; have W1 := lack_wr k2 h.wr; have AP := lack_ap k1 h.wr; have D1 : w1.cell? ⟨p, 0, none⟩ = some vr ∧ w1.cell? ⟨p, 1, none⟩ = some vo := ⟨(k2.cell (by exact hp)).trans c0, (k2.cell (by exact hp)).trans c1⟩)
    | (go_at_call 266; (with_reducible refine (qminus_any w1 k1 W1 hr AP hL).mono ?_); rintro e2 w2 ⟨v2, rfl, j1, j2, j3⟩; have B2 : Below w.heap.size w w2 := k2.trans (j2.below _ k2.size (fun i hi => (k1.lt hi).2)); have D2 : w2.cell? ⟨p, 0, none⟩ = some vr ∧ w2.cell? ⟨p, 1, none⟩ = some vo := ⟨(B2.cell (by exact hp)).trans c0, (B2.cell (by exact hp)).trans c1⟩))
  go_wp2
  go_ret
  exact ⟨_, rfl, j1, B2⟩

end Go.Proofs.YtmpkcioeodlbcaaGreatDoor
namespace Go.Proofs.YtmpkcioeodlbcaaGreatDoor
open RowKit
theorem Rt.hp {w w' : World} {p base r o L : Nat} {e : TypeId} {cur : Array Value} {vr vo : Value} (h : Rt w p e cur base vr vo r o L) (hh : w'.heap = w.heap) : Rt w' p e cur base vr vo r o L := ⟨hh ▸ h.blk, h.c0, h.c1, h.wr.hp hh, h.wo.hp hh, h.ap, h.pr, h.po, hh ▸ h.bs⟩
/-- is 1 nearer, or as near, the digit ahead being odd? -/
def rUp (r o d : Nat) : Bool := decide (o < 2 * r ∨ (o = 2 * r ∧ d % 2 = 1))
theorem cm_cases {r o : Nat} (hr : r ≤ o) : (o < 2 * r ∧ cmI r (o - r) = 1) ∨ (o = 2 * r ∧ cmI r (o - r) = 0) ∨ (2 * r < o ∧ cmI r (o - r) = -1) := by
  unfold cmI
  rcases Nat.lt_trichotomy o (2 * r) with h | h | h
  · exact .inl ⟨h, by rw [if_neg (by omega), if_neg (by omega)]⟩
  · exact .inr (.inl ⟨h, by rw [if_neg (by omega), if_pos (by omega)]⟩)
  · exact .inr (.inr ⟨h, by rw [if_pos (by omega)]⟩)
set_option maxRecDepth 10000 in
set_option maxHeartbeats 1000000 in
theorem qround_any {w : World} {p base r o L d : Nat} {e : TypeId} {cur : Array Value} {vr vo : Value} (h : Rt w p e cur base vr vo r o L) (hr : r ≤ o) (ho : 0 < o) (hL : L ≤ 200000) (hd : d < 18446744073709551616) :
    Calls Tryz.prog 245 #[.pointer (some ⟨p, 0, none⟩), .int .u64 d] w fun e' w' => e' = .returned (.bool (rUp r o d)) ∧ Below w.heap.size w w' := by
  have c0 := h.cell0
  have hp := h.plt
  obtain ⟨x, hx⟩ : ∃ x, x = cmI r (o - r) := ⟨_, rfl⟩
  have HX : Hid (cmI r (o - r) = x) := hx.symm
  have hcs := cm_cases hr
  rw [← hx] at hcs
  clear hx
  have hm2 : (d : Int).tmod 2 = ((d % 2 : Nat) : Int) := by rw [Int.tmod_eq_emod_of_nonneg (by omega)]; omega
  obtain ⟨m, hm⟩ : ∃ m, m = d % 2 := ⟨_, rfl⟩
  rw [← hm] at hm2
  have HM : Hid (m = d % 2) := hm
  have hm1 : m < 2 := by omega
  clear hm
  rcases hcs with ⟨q, rfl⟩ | ⟨q, rfl⟩ | ⟨q, rfl⟩
  all_goals
    go_enter Tryz.func245, Tryz.ntmps245
    go_wp2_with fail
    go_region_held_law (fun W => W.cell? ⟨p, 0, none⟩ = some vr)
      (first | with_reducible exact D1 | with_reducible exact D2 | go_keep)
      (first
      | (go_at_call 267; (with_reducible refine (qlack_any (h.hp (hp_drew _)) hr ho hL).mono ?_); rintro e1 w1 ⟨v1, rfl, k1, k2⟩; have k2 := undrewB k2; have W1 := lack_wr k2 h.wr; have D1 : w1.cell? ⟨p, 0, none⟩ = some vr := (k2.cell (by exact hp)).trans c0)
      | (go_at_call 265; (with_reducible refine (qcmp_any w1 W1 k1 hL hL).mono ?_); rintro e2 w2 ⟨n2, rfl, rfl⟩; rw [HX.out]; have D2 : (w1.drewN n2).cell? ⟨p, 0, none⟩ = some vr := D1))
    go_wp2
  · go_ret
    exact ⟨congrArg Ending.returned (congrArg Value.bool (by unfold rUp; rw [decide_eq_true (.inl q)])), below_drewN' k2 _⟩
  · go_ret
    refine ⟨congrArg Ending.returned (congrArg Value.bool ?_), below_drewN' k2 _⟩
    have hm := HM.out
    unfold rUp
    rcases (by omega : m = 0 ∨ m = 1) with h0 | h0
    · rw [h0, decide_eq_false (by omega)]; rfl
    · rw [h0, decide_eq_true (.inr ⟨q, by omega⟩)]; rfl
  · go_ret
    exact ⟨congrArg Ending.returned (congrArg Value.bool (by unfold rUp; rw [decide_eq_false (by omega)])), below_drewN' k2 _⟩

end Go.Proofs.YtmpkcioeodlbcaaGreatDoor
namespace Go.Proofs.YtmpkcioeodlbcaaGreatDoor
open RowKit
theorem other_cell_Gm (w : World) {a b : Addr} (h : a ≠ b) (v : Value) : (w.setCell a v).cell? b = w.cell? b := by
  apply World.cell?_setCell_other; exact h
end Go.Proofs.YtmpkcioeodlbcaaGreatDoor
namespace Go.Proofs.YtmpkcioeodlbcaaGreatDoor
open RowKit
/-- how many binary digits -/
def nbits : Nat → Nat
  | 0 => 0
  | n + 1 => 1 + nbits ((n + 1) / 2)
decreasing_by omega
theorem nbits_zero : nbits 0 = 0 := by unfold nbits; rfl
theorem nbits_pos {n : Nat} (h : 0 < n) : nbits n = 1 + nbits (n / 2) := by
  cases n with
  | zero => omega
  | succ n => rw [nbits]

theorem nbits_lt (m : Nat) : m < 2 ^ nbits m := by
  induction m using Nat.strongRecOn with
  | _ m ih =>
    rcases Nat.eq_zero_or_pos m with h | h
    · subst h; rw [nbits_zero]; decide
    · rw [nbits_pos h, Nat.add_comm, Nat.pow_succ]
      have := ih (m / 2) (by omega)
      omega
theorem nbits_ge {m : Nat} (h : 0 < m) : 2 ^ nbits m ≤ 2 * m := by
  induction m using Nat.strongRecOn with
  | _ m ih =>
    rw [nbits_pos h, Nat.add_comm, Nat.pow_succ]
    rcases Nat.eq_zero_or_pos (m / 2) with h2 | h2
    · rw [h2, nbits_zero]; omega
    · have := ih (m / 2) (by omega) h2
      omega
theorem pow_le {a b : Nat} (h : (2 : Nat) ^ a < 2 ^ b) : a < b := by
  rcases Nat.lt_or_ge a b with h1 | h1
  · exact h1
  · have := Nat.pow_le_pow_right (n := 2) (by decide) h1; omega
/-- how many digits, by the powers about it -/
theorem nbits_eq {m k : Nat} (h0 : 2 ^ k ≤ 2 * m) (h1 : m < 2 ^ k) : nbits m = k := by
  have hm : 0 < m := by
    rcases Nat.eq_zero_or_pos m with h | h
    · subst h; have := Nat.two_pow_pos k; omega
    · exact h
  have a := nbits_lt m
  have b := nbits_ge hm
  have c : nbits m < k + 1 := pow_le (by rw [Nat.pow_succ]; omega)
  have d : k < nbits m + 1 := pow_le (by rw [Nat.pow_succ]; omega)
  omega
theorem nbits_le {m k : Nat} (h : m < 2 ^ k) : nbits m ≤ k := by
  rcases Nat.eq_zero_or_pos m with h0 | h0
  · subst h0; rw [nbits_zero]; exact Nat.zero_le _
  · have b := nbits_ge h0
    have c : nbits m < k + 1 := pow_le (by rw [Nat.pow_succ]; omega)
    omega
end Go.Proofs.YtmpkcioeodlbcaaGreatDoor
namespace Go.Proofs.YtmpkcioeodlbcaaGreatDoor
open RowKit
theorem fold_tab : ({ data := (([0, 1, 2, 2, 3, 3, 3, 3, 4, 4, 4, 4, 4, 4, 4, 4, 5, 5, 5, 5, 5, 5, 5, 5, 5, 5, 5, 5, 5, 5, 5, 5, 6, 6, 6, 6, 6, 6, 6, 6, 6, 6, 6, 6, 6, 6, 6, 6, 6, 6, 6, 6, 6, 6, 6, 6, 6, 6, 6, 6, 6, 6, 6, 6].append [7, 7, 7, 7, 7, 7, 7, 7, 7, 7, 7, 7, 7, 7, 7, 7, 7, 7, 7, 7, 7, 7, 7, 7, 7, 7, 7, 7, 7, 7, 7, 7, 7, 7, 7, 7, 7, 7, 7, 7, 7, 7, 7, 7, 7, 7, 7, 7, 7, 7, 7, 7, 7, 7, 7, 7, 7, 7, 7, 7, 7, 7, 7, 7]).append ([8, 8, 8, 8, 8, 8, 8, 8, 8, 8, 8, 8, 8, 8, 8, 8, 8, 8, 8, 8, 8, 8, 8, 8, 8, 8, 8, 8, 8, 8, 8, 8, 8, 8, 8, 8, 8, 8, 8, 8, 8, 8, 8, 8, 8, 8, 8, 8, 8, 8, 8, 8, 8, 8, 8, 8, 8, 8, 8, 8, 8, 8, 8, 8].append [8, 8, 8, 8, 8, 8, 8, 8, 8, 8, 8, 8, 8, 8, 8, 8, 8, 8, 8, 8, 8, 8, 8, 8, 8, 8, 8, 8, 8, 8, 8, 8, 8, 8, 8, 8, 8, 8, 8, 8, 8, 8, 8, 8, 8, 8, 8, 8, 8, 8, 8, 8, 8, 8, 8, 8, 8, 8, 8, 8, 8, 8, 8, 8])).toArray } : ByteArray) = Lib.len8tab := by kernel_rfl
theorem bitLen_nbits : ∀ x : Nat, x < 18446744073709551616 → Lib.bitLen x = nbits x := by
  intro x
  induction x using Nat.strongRecOn with
  | ind x ih =>
    intro hx
    rcases Nat.eq_zero_or_pos x with h | h
    · subst h; rw [nbits_zero]; rfl
    · rw [Lib.bitLen_half x (by omega) hx, nbits_pos h, ih (x / 2) (by omega) (by omega)]
theorem tab_size : (Lib.len8tab.size : Int) = 256 := by rw [Lib.len8tab_size]; rfl
theorem tab_get (y : Int) (h : y.toNat < Lib.len8tab.size) (h0 : 0 ≤ y) (h1 : y ≤ 255) : ((Lib.len8tab[y.toNat]'h).toNat : Int) = (Lib.bitLen y.toNat : Int) ∧ Lib.bitLen y.toNat ≤ 8 := by
  refine ⟨?_, Lib.bitLen_le8' y h0 h1⟩
  rw [← Lib.len8_of y h0 h1]
  unfold Lib.len8
  rw [getElem?_pos Lib.len8tab y.toNat h]
  rfl
theorem len_fin (x : Int) (k : Nat) (K y : Int) (h : y.toNat < Lib.len8tab.size) (hx0 : 0 ≤ x) (hx : x ≤ 18446744073709551615) (hk : k ≤ 56) (hK : K = (k : Int)) (hy : y.toNat = x.toNat / 2 ^ k) (h0 : 0 ≤ y) (h1 : y ≤ 255) (hp : 2 ^ k ≤ x.toNat) :
    wrap64 (K + wrap64 ((Lib.len8tab[y.toNat]'h).toNat : Int)) = (Lib.bitLen x.toNat : Int) := by
  obtain ⟨e, l⟩ := tab_get y h h0 h1
  have e3 := Lib.bitLen_shift k x.toNat hp (by omega)
  rw [← hy] at e3
  have e5 : ∀ n : Int, 0 ≤ n → n ≤ 100 → wrap64 n = n := fun n h0 h1 => by unfold wrap64; omega
  rw [e, e5 (Lib.bitLen y.toNat : Int) (by omega) (by omega), hK, e5 ((k : Int) + (Lib.bitLen y.toNat : Int)) (by omega) (by omega), e3]
  omega
theorem len_fin0 (x : Int) (h : x.toNat < Lib.len8tab.size) (h0 : 0 ≤ x) (h1 : x ≤ 255) :
    wrap64 ((Lib.len8tab[x.toNat]'h).toNat : Int) = (Lib.bitLen x.toNat : Int) ∧ wrap64 (wrap64 ((Lib.len8tab[x.toNat]'h).toNat : Int)) = (Lib.bitLen x.toNat : Int) := by
  obtain ⟨e, l⟩ := tab_get x h h0 h1
  have e5 : ∀ n : Int, 0 ≤ n → n ≤ 100 → wrap64 n = n := fun n h0 h1 => by unfold wrap64; omega
  rw [e, e5 (Lib.bitLen x.toNat : Int) (by omega) (by omega), e5 (Lib.bitLen x.toNat : Int) (by omega) (by omega)]
  exact ⟨rfl, rfl⟩
set_option maxRecDepth 20000 in
set_option maxHeartbeats 1000000 in
theorem len64_I (x : Int) (w : World) (h0 : 0 ≤ x) (h1 : x ≤ 18446744073709551615) :
    Calls Tryz.prog 290 #[.int .u64 x] w fun e w' => e = .returned (.int .i64 (Lib.bitLen x.toNat)) ∧ w' = w := by
  have hs := tab_size
  go_enter Tryz.func290, Tryz.ntmps290
  simp only [fold_tab]
  go_wp2
  all_goals (try (exfalso; omega))
  all_goals (go_ret; refine ⟨congrArg Ending.returned (congrArg (Value.int IntKind.i64) ?_), rfl⟩)
  all_goals first
    | exact len_fin x 56 _ _ _ h0 h1 (by decide) rfl (by omega) (by omega) (by omega) (by omega)
    | exact len_fin x 48 _ _ _ h0 h1 (by decide) rfl (by omega) (by omega) (by omega) (by omega)
    | exact len_fin x 40 _ _ _ h0 h1 (by decide) rfl (by omega) (by omega) (by omega) (by omega)
    | exact len_fin x 32 _ _ _ h0 h1 (by decide) rfl (by omega) (by omega) (by omega) (by omega)
    | exact len_fin x 24 _ _ _ h0 h1 (by decide) rfl (by omega) (by omega) (by omega) (by omega)
    | exact len_fin x 16 _ _ _ h0 h1 (by decide) rfl (by omega) (by omega) (by omega) (by omega)
    | exact len_fin x 8 _ _ _ h0 h1 (by decide) rfl (by omega) (by omega) (by omega) (by omega)
    | exact (len_fin0 x _ (by omega) (by omega)).1
    | exact (len_fin0 x _ (by omega) (by omega)).2
theorem len64_any (x : Nat) (hx : x < 18446744073709551616) (w : World) :
    Calls Tryz.prog 290 #[.int .u64 x] w fun e w' => e = .returned (.int .i64 (nbits x)) ∧ w' = w := by
  refine (len64_I (x : Int) w (by omega) (by omega)).mono ?_
  rintro e w' ⟨rfl, rfl⟩
  rw [Int.toNat_natCast, bitLen_nbits x hx]
  exact ⟨rfl, rfl⟩

end Go.Proofs.YtmpkcioeodlbcaaGreatDoor
