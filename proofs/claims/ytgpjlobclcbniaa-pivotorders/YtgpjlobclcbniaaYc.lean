/-
  Lists of integers in memory; what pivot's refused, copied and exchange hand back.
-/
import Derived.Test.YtgpjlobclcbniaaYb
import Derived.Test.YtgpjlobclcbniaaXa
import Derived.Test.YtgpjlobclcbniaaMc
import Derived.Laws.CopyOwn
namespace Go.Proofs.Ytgpjlobclcbniaa
open Fl RowKit

def ci (z : Int) : Value := .int .i64 z
/-- what a list of integers in memory reads as -/
def Qi (w : World) (ao : Option Addr) (zs : List Int) : Prop :=
  ∀ k, k < zs.length → ∃ b off, ao = some ⟨b, off, none⟩ ∧ b < w.heap.size ∧ w.cell? ⟨b, off + k, none⟩ = some (.int .i64 (iat zs k))
theorem Qi.below {w w' : World} {ao : Option Addr} {zs : List Int} (h : Qi w ao zs) (hb : Below w.heap.size w w') : Qi w' ao zs := by
  intro k hk
  obtain ⟨b, off, h1, h2, h3⟩ := h k hk
  exact ⟨b, off, h1, Nat.lt_of_lt_of_le h2 hb.size, (hb.cell (by exact h2)).trans h3⟩
theorem Qi.drewN {w : World} {ao : Option Addr} {zs : List Int} (h : Qi w ao zs) (n : Nat) : Qi (w.drewN n) ao zs := h
theorem Try.infoI : (Try.prog.info? 3).map (fun i => (i.zero, i.size, i.bytes)) = some (some (.int .i64 0), 1, 8) := by kernel_rfl
theorem Try.infoIs : (Try.prog.info? 3).map (·.size) = some 1 := by kernel_rfl
/-- a row of integers that is owned -/
structure Ir (w : World) (b : Nat) (v : Value) (n : Nat) (zs : List Int) : Prop where
  len : zs.length = n
  own : w.ownsRow b 3 1 v n (zs.map ci)
theorem Ir.below {w w' : World} {b n : Nat} {v : Value} {zs : List Int} (h : Ir w b v n zs) (hb : Below w.heap.size w w') : Ir w' b v n zs := ⟨h.len, own_below h.own hb⟩
theorem Ir.drewN {w : World} {b n : Nat} {v : Value} {zs : List Int} (h : Ir w b v n zs) (m : Nat) : Ir (w.drewN m) b v n zs := ⟨h.len, h.own⟩
theorem Ir.base {w : World} {b b' n : Nat} {v : Value} {zs : List Int} (h : Ir w b v n zs) (hb : b' ≤ b) : Ir w b' v n zs := ⟨h.len, own_base h.own hb⟩
theorem Ir.qi {w : World} {b g n c : Nat} {zs : List Int} (h : Ir w b (.slice (some ⟨g, 0, none⟩) n c) n zs) : Qi w (some ⟨g, 0, none⟩) zs := by
  obtain ⟨rfl, h2⟩ := h
  intro k hk
  refine ⟨g, 0, rfl, (h2.lt g rfl).2, ?_⟩
  rw [Nat.zero_add, h2.cellAt k (by omega), List.getElem?_map, iat_lt hk]; rfl
theorem Ir.lt {w : World} {b n g c : Nat} {zs : List Int} (h : Ir w b (.slice (some ⟨g, 0, none⟩) n c) n zs) : b ≤ g ∧ g < w.heap.size := h.own.lt g rfl
theorem Ir.set {w : World} {b g n c : Nat} {zs : List Int} (h : Ir w b (.slice (some ⟨g, 0, none⟩) n c) n zs) (k : Nat) (v : Int) : Ir (w.setCell ⟨g, k, none⟩ (.int .i64 v)) b (.slice (some ⟨g, 0, none⟩) n c) n (zs.set k v) := by
  refine ⟨by simpa using h.len, ?_⟩
  have := (h.own.stored k (ci v)).1
  rw [← List.map_set] at this
  exact this

theorem hid_o {p : Prop} (h : p) : Hid p := h
/-- which of the 64 stand already -/
structure St (w : World) (p : Nat) (zs : List Int) (k : Nat) : Prop where
  lt : p < w.heap.size
  cell : ∀ j, j < 64 → w.cell? ⟨p, j, none⟩ = some (.bool (decide (cI zs (j : Int) k ≠ 0)))
  frozen : ∀ j, w.frozen? ⟨p, j, none⟩ = false
theorem St.next {w : World} {p k v : Nat} {zs : List Int} (h : St w p zs k) (hv : iat zs k = (v : Int)) (h64 : v < 64) : St (w.setCell ⟨p, v, none⟩ (.bool true)) p zs (k + 1) := by
  refine ⟨by simpa using h.lt, ?_, ?_⟩
  · intro j hj
    by_cases e : j = v
    · subst e
      rw [World.cell?_setCell_same _ _ _ (h.cell j hj)]
      have : cI zs (j : Int) (k + 1) ≠ 0 := by
        show cI zs (j : Int) k + _ ≠ 0
        rw [if_pos hv]; omega
      rw [decide_eq_true this]
    · rw [World.cell?_setCell_other _ _ _ _ (by intro c; cases c; exact e rfl), h.cell j hj]
      have : cI zs (j : Int) (k + 1) = cI zs (j : Int) k := by
        show cI zs (j : Int) k + _ = _
        rw [if_neg (by rw [hv]; omega)]; rfl
      rw [this]
  · intro j
    simpa using h.frozen j
theorem st_new (w : World) (t : TypeId) (zs : List Int) (cs : Array Value) (h : cs = Array.replicate 64 (.bool false)) : St (w.alloc (.cells cs t)) w.heap.size zs 0 := by
  subst h
  refine ⟨by simp, ?_, by simp⟩
  intro j hj
  rw [World.cell?_alloc_new]
  simp [hj, cI]
theorem rf_3 {zs : List Int} (h : 64 < zs.length) : rfE zs = 3 := if_pos h
theorem rf_2 {zs : List Int} (h : ¬ 64 < zs.length) (k : ordK zs zs.length = false) : rfE zs = 2 := by unfold rfE; rw [if_neg h, if_neg (by rw [k]; decide)]
theorem rf_0 {zs : List Int} (h : ¬ 64 < zs.length) (k : ordK zs zs.length = true) : rfE zs = 0 := by unfold rfE; rw [if_neg h, if_pos k]
set_option maxHeartbeats 2000000 in
theorem refused_any (ao : Option Addr) (cap : Nat) (zs : List Int) (w : World) (hsz : zs.length * 8 ≤ 140737488355328) (hc : Qi w ao zs) :
    Calls Try.prog 55 #[.slice ao zs.length cap] w fun e w' => e = .returned (.int .i64 (rfE zs)) ∧ Below w.heap.size w w' := by
  by_cases h64 : 64 < zs.length
  · rw [rf_3 h64]
    clear hc
    go_enter Try.func55, Try.ntmps55
    go_wp2
    go_ret
    exact ⟨rfl, below_self _⟩
  · have E2 := hid_o (rf_2 h64)
    have E0 := hid_o (rf_0 h64)
    obtain ⟨E, hE⟩ : ∃ E, E = rfE zs := ⟨_, rfl⟩
    rw [← hE] at E2 E0 ⊢
    clear hE
    go_enter Try.func55, Try.ntmps55
    go_wp2
    go_loopw [11] (fun i wr => ∃ (k : Nat), k ≤ zs.length ∧ i = .int .i64 k ∧ ordK zs k = true ∧ St wr w.heap.size zs k ∧ Below w.heap.size w wr) (fun i _ => zs.length - (intOf i).toNat)
    case atStart => exact ⟨0, Nat.zero_le _, rfl, rfl, st_new _ _ _ _ (by rfl), bal _ _⟩
    case round =>
      obtain ⟨k, hk, rfl, ho, hst, hbel⟩ := hrel
      by_cases hlt : k < zs.length
      · obtain ⟨b, off, rfl, hb, hcx0⟩ := hc k hlt
        have hcx := (hbel.cell (p := ⟨b, off + k, none⟩) hb).trans hcx0
        have HB := hid_o hbel
        have OK1 : ordK zs (k + 1) = (ordK zs k && (decide (0 ≤ iat zs k ∧ iat zs k < (zs.length : Int)) && decide (cI zs (iat zs k) k = 0))) := rfl
        rw [ho, Bool.true_and] at OK1
        have OF := fun h => ordK_false (zs := zs) (k := k) h zs.length hlt
        have NX := fun v hv h => hst.next (v := v) hv h
        obtain ⟨x, hxe⟩ : ∃ x, x = iat zs k := ⟨_, rfl⟩
        rw [← hxe] at hcx OK1 NX
        clear hcx0 hxe hc hbel
        by_cases hr : 0 ≤ x ∧ x < (zs.length : Int)
        · obtain ⟨v, rfl⟩ : ∃ v : Nat, x = v := ⟨x.toNat, by omega⟩
          have hv : v < 64 := by omega
          have hcs := hst.cell v hv
          have hfz := hst.frozen v
          have hpl := hst.lt
          have hd := decide_eq_true hr
          rw [hd, Bool.true_and] at OK1
          have HN := hid_o (NX v rfl hv)
          have HOF := hid_o OF
          clear NX hst OF
          by_cases hz : cI zs (v : Int) k = 0
          · rw [decide_eq_true hz] at OK1
            rw [decide_eq_false (fun h => h hz)] at hcs
            have HO := hid_o OK1
            clear OK1 hz
            go_wp2_with (go_at_call 42; (with_reducible refine (pwithin_any _ _ _).mono ?_); rintro e w1 ⟨rfl, rfl⟩; rw [hd])
            go_roundw
            case measure => simp [intOf]; omega
            case rel => exact ⟨k + 1, by omega, by go_num, HO.out, HN.out, HB.out.setCell (p := ⟨w.heap.size, v, none⟩) (Nat.le_refl _) _⟩
          · rw [decide_eq_false hz] at OK1
            rw [decide_eq_true hz] at hcs
            have e := E2.out (HOF.out OK1)
            subst e
            clear OK1 hz HN HOF
            go_wp2_with (go_at_call 42; (with_reducible refine (pwithin_any _ _ _).mono ?_); rintro e w1 ⟨rfl, rfl⟩; rw [hd])
            go_ret
            exact ⟨rfl, HB.out⟩
        · have hd := decide_eq_false hr
          rw [hd, Bool.false_and] at OK1
          have e := E2.out (OF OK1)
          subst e
          clear NX OK1 OF hst hr
          go_wp2_with (go_at_call 42; (with_reducible refine (pwithin_any _ _ _).mono ?_); rintro e w1 ⟨rfl, rfl⟩; rw [hd])
          go_ret
          exact ⟨rfl, HB.out⟩
      · have e : k = zs.length := by omega
        subst e
        have e := E0.out ho
        subst e
        clear hst hc ho
        go_wp2
        go_ret
        exact ⟨rfl, hbel⟩

end Go.Proofs.Ytgpjlobclcbniaa
