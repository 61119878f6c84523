/-
  The walk of PivotTurns.
-/
import Derived.Test.YtgpjlobclcbniaaYf
import Derived.Test.YtgpjlobclcbniaaXf
import Derived.Deep.AppendLies
import Derived.Deep.CutRange
import Derived.Deep.DeepCutAuto
namespace Go.Proofs.Ytgpjlobclcbniaa
open Fl RowKit

theorem ppick_any (a : Int) (n : Nat) (hn : 0 < n) (hb : n ≤ 65) : ∃ j : Nat, j < n ∧ ∀ w, Calls Try.prog 38 #[.int .i64 a, .int .i64 n] w fun e w' => e = .returned (.int .i64 (j : Int)) ∧ w' = w := by
  have h1 := Int.natAbs_tmod a (n : Int)
  have h2 : (a.tmod n).natAbs < n := by
    rw [h1, Int.natAbs_natCast]; exact Nat.mod_lt _ hn
  have hne : ¬ (n : Int) = 0 := by omega
  by_cases h0 : a.tmod n < 0
  · obtain ⟨j, hj⟩ := Int.eq_ofNat_of_zero_le (show 0 ≤ a.tmod n + (n : Int) by omega)
    refine ⟨j, by omega, fun w => ?_⟩
    have hwr : IntKind.i64.wrap (a.tmod n + (n : Int)) = (j : Int) := by rw [IntKind.wrap_i64]; omega
    clear h1 h2
    go_enter Try.func38, Try.ntmps38
    go_wp2
    go_ret
    exact ⟨by first | rfl | (rw [hj]; rfl) | (simp [hj]), rfl⟩
  · obtain ⟨j, hj⟩ := Int.eq_ofNat_of_zero_le (show 0 ≤ a.tmod n by omega)
    refine ⟨j, by omega, fun w => ?_⟩
    clear h1 h2
    go_enter Try.func38, Try.ntmps38
    go_wp2
    go_ret
    exact ⟨by first | rfl | (rw [hj]; rfl) | (simp [hj]), rfl⟩
def pat (ps : List (Int × Int)) (k : Nat) : Int × Int := ps.getD k (0, 0)
/-- what a list of pairs of integers in memory reads as -/
def Qp (w : World) (ao : Option Addr) (ps : List (Int × Int)) : Prop :=
  ∀ k, k < ps.length → ∃ b off, ao = some ⟨b, off, none⟩ ∧ b < w.heap.size ∧ w.cell? ⟨b, off + k * 2, none⟩ = some (.int .i64 (pat ps k).1) ∧ w.cell? ⟨b, off + k * 2 + 1, none⟩ = some (.int .i64 (pat ps k).2)
theorem Qp.below {w w' : World} {ao : Option Addr} {ps : List (Int × Int)} (h : Qp w ao ps) (hb : Below w.heap.size w w') : Qp w' ao ps := by
  intro k hk
  obtain ⟨b, off, h1, h2, h3, h4⟩ := h k hk
  exact ⟨b, off, h1, Nat.lt_of_lt_of_le h2 hb.size, (hb.cell (by exact h2)).trans h3, (hb.cell (by exact h2)).trans h4⟩
theorem Qi.drew {w : World} {ao : Option Addr} {zs : List Int} (h : Qi w ao zs) : Qi w.drew ao zs := h
def iota (k : Nat) : List Int := (List.range k).map (fun (i : Nat) => (i : Int))
theorem iota_len (k : Nat) : (iota k).length = k := by simp [iota]
theorem iota_succ (k : Nat) : iota (k + 1) = iota k ++ [(k : Int)] := by simp [iota, List.range_succ]
theorem iota_at {k j : Nat} (h : j < k) : iat (iota k) j = (j : Int) := by simp [iota, iat, List.getD_eq_getElem?_getD, h]
theorem iota_ord (k : Nat) : Ord (iota k) := by
  refine ⟨?_, ?_⟩
  · intro j hj
    rw [iota_len] at hj ⊢
    rw [iota_at hj]; omega
  · intro i j hi hj e
    rw [iota_len] at hi hj
    rw [iota_at hi, iota_at hj] at e
    omega
theorem iota_sg (k : Nat) : sgL (iota k) = 1 := sg_rise (fun j hj => by rw [iota_len] at hj; exact iota_at hj)
theorem ir_nil (b : Nat) (w : World) : Ir w b (.slice none 0 0) 0 (iota 0) := ⟨rfl, World.ownsRow_nil _ _ _ _⟩
theorem ir_slice {w : World} {b n : Nat} {v : Value} {zs : List Int} (h : Ir w b v n zs) : ∃ A c, v = .slice A n c ∧ Qi w A zs ∧ n ≤ c := by
  have hl := h.len
  rcases h.own.2 with ⟨hv, h0⟩ | ⟨g, cap, cur, hv, hb, hg, hnc, _, _, htake⟩
  · subst h0
    exact ⟨none, 0, hv, fun k hk => by omega, Nat.le_refl _⟩
  · subst hv
    exact ⟨_, _, rfl, h.qi, hnc⟩
theorem newI_cell (w : World) (v : Value) (t : TypeId) : (w.alloc (.cells #[v] t)).cell? ⟨w.heap.size, 0, none⟩ = some v := World.cell?_alloc_new w _ _ 0
theorem ir_push {w1 : World} {b k g cap : Nat} {zs : List Int} {r : Int} (hl : zs.length = k) (hown : w1.ownsRow b 3 1 (.slice (some ⟨g, 0, none⟩) (k + 1) cap) (k + 1) (zs.map ci ++ [.int .i64 r])) : Ir w1 b (.slice (some ⟨g, 0, none⟩) (k + 1) cap) (k + 1) (zs ++ [r]) := by
  refine ⟨by rw [List.length_append, hl]; rfl, ?_⟩
  rw [List.map_append]; exact hown
set_option maxRecDepth 20000 in
set_option maxHeartbeats 16000000 in
theorem turns_any (a : Int) (ao : Option Addr) (L cap : Nat) (ps : List (Int × Int)) (w : World) (hL : ps.length = L) (hsz : L * 16 ≤ 140737488355328) (hc : Qp w ao ps) :
    Calls Try.prog 7 #[.int .i64 a, .slice ao L cap] w fun e w' => e = .returned (.bool true) ∧ Below w.heap.size w w' := by
  by_cases h200 : 200 < L
  · clear hc
    have h200' : (200 : Int) < (L : Int) := by omega
    go_enter Try.func7, Try.ntmps7
    go_wp2_with (first
      | (go_at_call 13; (with_reducible refine (plives_any _).mono ?_); rintro e w5 ⟨rfl, hb5⟩))
    go_ret
    exact ⟨rfl, hb5⟩
  obtain ⟨i0, hi, hz0, hz1, hz2⟩ := info_parts Try.infoI
  obtain ⟨N, hN, pk⟩ := ppick_any a 65 (by omega) (by omega)
  have HPK : Hid (∀ w, Calls Try.prog 38 #[.int .i64 a, .int .i64 65] w fun e w' => e = .returned (.int .i64 (N : Int)) ∧ w' = w) := pk
  clear pk
  go_enter Try.func7, Try.ntmps7
  go_wp2_with (first
    | (go_at_call 13; (with_reducible refine (plives_any _).mono ?_); rintro e w5 ⟨rfl, hb5⟩; have hc5 := hid_o (hc.below hb5); have B5 := hid_o hb5; clear hb5 hc)
    | (go_at_call 38; (with_reducible refine (HPK.out _).mono ?_); rintro e w6 ⟨rfl, hw6⟩; subst w6))
  go_loopw [5, 6] (fun v i wr => ∃ (k : Nat) (v0 : Value), k ≤ N ∧ i = .int .i64 k ∧ v0 = v ∧ Ir wr w5.heap.size v0 k (iota k) ∧ Below w5.heap.size w5 wr) (fun _ i _ => N - (intOf i).toNat)
  case atStart => exact ⟨0, _, Nat.zero_le _, rfl, rfl, ir_nil _ _, Below.refl _ _⟩
  case round =>
    obtain ⟨k, v0, hk, rfl, rfl, hI, hbel⟩ := hrel
    have hS := hbel.size
    by_cases hlt : k < N
    · have HB := hid_o hbel
      have HI := hid_o hI
      clear hbel hI
      go_wp2_with (first
        | (at_builtin; refine wpList_append_lies _ (by rfl) _ _ 45 (by rfl) w5.heap.size 3 i0 (.int .i64 0) 1 8 Try.underlying45 hi hz0 hz1 hz2 (by rfl) (by decide) v0 k ((iota k).map ci) (by rfl) (HI.out.own.alloc _) ⟨_, 0, none⟩ 1 1 [.int .i64 (k : Int)] (by rfl) (by rfl) (fun j u hj => by match j, hj with | 0, hj => (simp at hj; subst hj; simp [Addr.add])) (fun u hu => by simp at hu; subst hu; rfl) (by decide) (by unfold maxLen; omega) (by omega) (by simp; omega) _ rfl ?_; intro g1 cap1 w7 hown1 hgrow1 hat1 hlt1; have I7 := hid_o (ir_push (iota_len k) hown1); have B7 := hid_o ((HB.out.alloc HB.out.size _).grown hgrow1 (Nat.le_trans HB.out.size (by simp)) (fun j hj => own_ge HI.out.own hj)); clear hown1 hgrow1 hat1))
      exact ⟨⟨k + 1, _, by omega, by go_num, rfl, by rw [iota_succ]; exact I7.out, B7.out⟩, by simp [intOf]; omega⟩
    · have e : k = N := by omega
      subst e
      obtain ⟨A, c, rfl, hq, hcap⟩ := ir_slice hI
      have BW := hid_o (b_of B5.out hbel B5.out.size)
      have HC := hid_o (hc5.out.below hbel)
      clear hI hbel hc5 B5 hS
      by_cases hz : k = 0
      · subst hz
        have PA : Hid (∀ W, Qi W A (iota 0) → Calls Try.prog 23 #[.slice A 0 c] W fun e w' => e = .returned (.tuple #[.int .i64 1, .int .i64 0]) ∧ Below W.heap.size W w') := by
          intro W hW
          have := parity_any A c 0 (iota 0) W rfl (by decide) hW
          exact this
        go_wp2_with (first
          | (go_at_call 23; (with_reducible refine (PA.out _ hq).mono ?_); rintro e w8 ⟨rfl, hb8⟩))
        go_ret
        exact ⟨rfl, b_of BW.out hb8 BW.out.size⟩
      · have hkp : 0 < k := by omega
        have hz' : ((k : Int) == 0) = false := by rw [beq_eq_false_iff_ne]; omega
        have hsg := iota_sg k
        have ho := iota_ord k
        have hlen := iota_len k
        obtain ⟨zs0, hzs⟩ : ∃ zs0, zs0 = iota k := ⟨_, rfl⟩
        rw [← hzs] at hq hsg ho hlen
        have HQ := hid_o hq
        have HO := hid_o ho
        have HSG := hid_o hsg
        have HLN := hid_o hlen
        clear hq ho hsg hlen hzs
        obtain ⟨W0, hW0⟩ : ∃ W0, W0 = wr := ⟨_, rfl⟩
        rw [← hW0] at HQ BW HC ⊢
        clear hW0
        go_wp2
        go_loopw [5, 9, 10] (fun v s i wr => ∃ (q : Nat) (zs : List Int) (A : Option Addr) (c : Nat), q ≤ L ∧ i = .int .i64 q ∧ v = .slice A k c ∧ s = .int .i64 (sgL zs) ∧ zs.length = k ∧ Ord zs ∧ Qi wr A zs ∧ Below W0.heap.size W0 wr) (fun _ _ i _ => L - (intOf i).toNat)
        case atStart => exact ⟨0, zs0, A, c, Nat.zero_le _, rfl, rfl, by rw [HSG.out], HLN.out, HO.out, HQ.out, Below.refl _ _⟩
        case round =>
          clear HQ HO HSG HLN
          obtain ⟨q, zs, A, c, hq, rfl, rfl, rfl, hlen, hord, hQ, hbel⟩ := hrel
          by_cases hql : q < L
          · obtain ⟨b, off, hA, hb, hx0, hy0⟩ := HC.out q (by omega)
            subst hA
            have hx := (hbel.cell (p := ⟨b, off + q * 2, none⟩) hb).trans hx0
            have hy := (hbel.cell (p := ⟨b, off + q * 2 + 1, none⟩) hb).trans hy0
            obtain ⟨x, hxe⟩ : ∃ x, x = (pat ps q).1 := ⟨_, rfl⟩
            obtain ⟨y, hye⟩ : ∃ y, y = (pat ps q).2 := ⟨_, rfl⟩
            rw [← hxe] at hx
            rw [← hye] at hy
            obtain ⟨i, hik, pi⟩ := ppick_any x k hkp (by omega)
            obtain ⟨j, hjk, pj⟩ := ppick_any y k hkp (by omega)
            have HPI := hid_o pi
            have HPJ := hid_o pj
            have hr0 : rfE zs = 0 := rfE_0.2 ⟨by omega, hord⟩
            have hos := hord.sw (i := i) (j := j) (by omega) (by omega)
            have hr1 : rfE (sw zs i j) = 0 := rfE_0.2 ⟨by rw [sw_len]; omega, hos⟩
            have hss := sw_sw (zs := zs) (i := i) (j := j) (by omega) (by omega)
            have hsl : (sw zs i j).length = k := by rw [sw_len, hlen]
            have sg1 : i ≠ j → sgL (sw zs i j) = -sgL zs := fun h => sg_sw hord (by omega) (by omega) h
            have sg2 : i = j → sgL (sw zs i j) = sgL zs := fun h => by rw [← h, sw_self (by omega)]
            have v1 : iat (sw zs i j) i = iat zs j := by
              rw [iat_sw (by omega) (by omega)]
              by_cases h : i = j
              · rw [if_pos h, h]
              · rw [if_neg h, if_pos rfl]
            have v2 : iat (sw zs i j) j = iat zs i := by rw [iat_sw (by omega) (by omega), if_pos rfl]
            have spm := sg_pm zs
            obtain ⟨ws, hws⟩ : ∃ ws, ws = sw zs i j := ⟨_, rfl⟩
            rw [← hws] at hos hr1 hsl sg1 sg2 v1 v2
            have SWI : Hid (∀ (W : World) (A : Option Addr) (c : Nat), Qi W A zs → Calls Try.prog 25 #[.slice A k c, .int .i64 i, .int .i64 j] W fun e w' => ∃ g, e = .returned (.tuple #[.slice (some ⟨g, 0, none⟩) k k, .int .i64 0]) ∧ Ir w' W.heap.size (.slice (some ⟨g, 0, none⟩) k k) k ws ∧ Below W.heap.size W w') := fun W A c h => by rw [hws]; exact swapped_ok A c k i j zs W hlen hr0 hik hjk h
            have SWB : Hid (∀ (W : World) (A : Option Addr) (c : Nat), Qi W A ws → Calls Try.prog 25 #[.slice A k c, .int .i64 i, .int .i64 j] W fun e w' => ∃ g, e = .returned (.tuple #[.slice (some ⟨g, 0, none⟩) k k, .int .i64 0]) ∧ Ir w' W.heap.size (.slice (some ⟨g, 0, none⟩) k k) k zs ∧ Below W.heap.size W w') := fun W A c h => by
              have := swapped_ok A c k i j ws W hsl hr1 hik hjk h
              rw [hws, hss] at this
              exact this
            have PAR : Hid (∀ (W : World) (A : Option Addr) (c : Nat), Qi W A ws → Calls Try.prog 23 #[.slice A k c] W fun e w' => e = .returned (.tuple #[.int .i64 (sgL ws), .int .i64 0]) ∧ Below W.heap.size W w') := fun W A c h => by
              have := parity_any A c k ws W hsl (by omega) h
              rw [show paI ws = sgL ws from if_pos hr1, hr1] at this
              exact this
            have HLN := hid_o hlen
            have HLW := hid_o hsl
            have HOW := hid_o hos
            have HQ := hid_o hQ
            have HB := hid_o hbel
            have HV1 := hid_o v1
            have HV2 := hid_o v2
            clear hx0 hy0 hxe hye pi pj hord hQ hbel hr0 hos hr1 hss hsl hws v1 v2 hlen
            obtain ⟨S, hS⟩ : ∃ S, S = sgL zs := ⟨_, rfl⟩
            obtain ⟨T, hT⟩ : ∃ T, T = sgL ws := ⟨_, rfl⟩
            rw [← hS] at spm sg1 sg2 ⊢
            rw [← hT] at sg1 sg2 PAR
            have HTT := hid_o hT
            clear hS hT
            have hneg : wrap64 (-S) = -S := by unfold wrap64; omega
            obtain ⟨ob, oo, hA, hob, _⟩ := HQ.out i (by have := HLN.out; omega)
            subst hA
            have c3 : wr.cell? ⟨ob, oo + i, none⟩ = some (.int .i64 (iat zs i)) := by
              obtain ⟨b', o', e1, _, e3⟩ := HQ.out i (by have := HLN.out; omega)
              cases e1; exact e3
            have c4 : wr.cell? ⟨ob, oo + j, none⟩ = some (.int .i64 (iat zs j)) := by
              obtain ⟨b', o', e1, _, e3⟩ := HQ.out j (by have := HLN.out; omega)
              cases e1; exact e3
            obtain ⟨zi, hzi⟩ : ∃ zi, zi = iat zs i := ⟨_, rfl⟩
            obtain ⟨zj, hzj⟩ : ∃ zj, zj = iat zs j := ⟨_, rfl⟩
            rw [← hzi] at c3 HV2
            rw [← hzj] at c4 HV1
            have C3 := hid_o c3
            have C4 := hid_o c4
            clear hzi hzj c3 c4
            have h8 : k * 8 ≤ 140737488355328 := by omega
            go_wp2
            go_cut [11, 12] (fun u v wc => u = .int .i64 (i : Int) ∧ v = .int .i64 (j : Int) ∧ wc = wr.drew)
            case first =>
              go_region_held_law (fun W => W.cell? ⟨b, off + q * 2, none⟩ = some (.int .i64 x) ∧ W.cell? ⟨b, off + q * 2 + 1, none⟩ = some (.int .i64 y)) (first | (with_reducible exact ⟨hx, hy⟩) | go_keep)
                (first
                | (go_at_call 38; (with_reducible refine (HPI.out _).mono ?_); rintro e w6 ⟨rfl, hw6⟩; subst w6)
                | (go_at_call 38; (with_reducible refine (HPJ.out _).mono ?_); rintro e w6 ⟨rfl, hw6⟩; subst w6))
              all_goals
                go_wp2_with fail
                go_meet
                case rel => exact ⟨rfl, rfl, rfl⟩
            case rest =>
              obtain ⟨rfl, rfl, rfl⟩ := hcut
              clear hx hy HPI HPJ
              have cases2 : i = j ∧ T = S ∨ ¬ (i : Int) = (j : Int) ∧ T = -S := by
                by_cases hij : i = j
                · exact .inl ⟨hij, sg2 hij⟩
                · exact .inr ⟨by omega, sg1 hij⟩
              clear sg1 sg2
              rcases cases2 with ⟨rfl, e⟩ | ⟨hij, e⟩
              ·
                subst e
                have ezz : zj = zi := by
                  have h3 := C3.out
                  rw [C4.out] at h3
                  cases h3; rfl
                subst ezz
                go_wp2_with (first
                  | (go_at_call 25; (with_reducible refine (SWI.out _ _ _ (Qi.drew HQ.out)).mono ?_); rintro e w7 ⟨g7, rfl, I7, hb7⟩; have B7 := hid_o (b_of (Below.drew HB.out) hb7 (Below.drew HB.out).size); have R7 := hid_o I7.qi; have O7 := hid_o ((Qi.drew HQ.out).below hb7); have D3 := hid_o ((hb7.cell (p := ⟨ob, oo + i, none⟩) hob).trans C3.out); have D4 := hid_o ((hb7.cell (p := ⟨ob, oo + i, none⟩) hob).trans C4.out); have hob7 := Nat.lt_of_lt_of_le hob hb7.size; clear I7 hb7)
                  | (go_at_call 25; (with_reducible refine (SWB.out _ _ _ R7.out).mono ?_); rintro e w8 ⟨g8, rfl, I8, hb8⟩; have B8 := hid_o (b_of B7.out hb8 B7.out.size); have R8 := hid_o (R7.out.below hb8); have O8 := hid_o (O7.out.below hb8); have K8 := hid_o I8.qi; have D3' := hid_o ((hb8.cell (p := ⟨ob, oo + i, none⟩) hob7).trans D3.out); have D4' := hid_o ((hb8.cell (p := ⟨ob, oo + i, none⟩) hob7).trans D4.out); have hob8 := Nat.lt_of_lt_of_le hob7 hb8.size; clear I8 hb8 B7 R7 O7 D3 D4)
                  | (go_at_call 23; (with_reducible refine (PAR.out _ _ _ R8.out).mono ?_); rintro e w9 ⟨rfl, hb9⟩; have B9 := hid_o (b_of B8.out hb9 B8.out.size); have R9 := hid_o (R8.out.below hb9); have O9 := hid_o (O8.out.below hb9); have K9 := hid_o (K8.out.below hb9); have E3 := (hb9.cell (p := ⟨ob, oo + i, none⟩) hob8).trans D3'.out; have E4 := (hb9.cell (p := ⟨ob, oo + i, none⟩) hob8).trans D4'.out; clear hb9 B8 R8 O8 K8 D3' D4'))
                have N1 : w9.cell? ⟨g7, i, none⟩ = some (.int .i64 zj) := by
                  obtain ⟨b', o', e1, _, e3⟩ := R9.out i (by have := HLW.out; omega)
                  cases e1; rw [Nat.zero_add, HV1.out] at e3; exact e3
                have N2 : w9.cell? ⟨g7, i, none⟩ = some (.int .i64 zj) := by
                  obtain ⟨b', o', e1, _, e3⟩ := R9.out i (by have := HLW.out; omega)
                  cases e1; rw [Nat.zero_add, HV2.out] at e3; exact e3
                go_region_held_law (fun W => W.cell? ⟨g7, i, none⟩ = some (.int .i64 zj) ∧ W.cell? ⟨g7, i, none⟩ = some (.int .i64 zj) ∧ W.cell? ⟨ob, oo + i, none⟩ = some (.int .i64 zj) ∧ W.cell? ⟨ob, oo + i, none⟩ = some (.int .i64 zj)) (first | (with_reducible exact ⟨N1, N2, E3, E4⟩) | go_keep)
                  (first
                  | (go_at_call 29; (with_reducible refine (ksameI _ _ _ _ _ zs _ HLN.out h8 (Qi.drew K9.out) (Qi.drew O9.out)).mono ?_); rintro e w10 ⟨m10, rfl, rfl⟩))
                all_goals
                  clear N1 N2 E3 E4
                  go_wp2
                  go_roundw
                  case measure => simp [intOf]; omega
                  case rel => exact ⟨q + 1, ws, some ⟨g7, 0, none⟩, k, by omega, by go_num, rfl, by rw [HTT.out], HLW.out, HOW.out, Qi.drewN R9.out _, below_drewN B9.out _⟩
              ·
                subst e
                go_wp2_with (first
                  | (go_at_call 25; (with_reducible refine (SWI.out _ _ _ (Qi.drew HQ.out)).mono ?_); rintro e w7 ⟨g7, rfl, I7, hb7⟩; have B7 := hid_o (b_of (Below.drew HB.out) hb7 (Below.drew HB.out).size); have R7 := hid_o I7.qi; have O7 := hid_o ((Qi.drew HQ.out).below hb7); have D3 := hid_o ((hb7.cell (p := ⟨ob, oo + i, none⟩) hob).trans C3.out); have D4 := hid_o ((hb7.cell (p := ⟨ob, oo + j, none⟩) hob).trans C4.out); have hob7 := Nat.lt_of_lt_of_le hob hb7.size; clear I7 hb7)
                  | (go_at_call 25; (with_reducible refine (SWB.out _ _ _ R7.out).mono ?_); rintro e w8 ⟨g8, rfl, I8, hb8⟩; have B8 := hid_o (b_of B7.out hb8 B7.out.size); have R8 := hid_o (R7.out.below hb8); have O8 := hid_o (O7.out.below hb8); have K8 := hid_o I8.qi; have D3' := hid_o ((hb8.cell (p := ⟨ob, oo + i, none⟩) hob7).trans D3.out); have D4' := hid_o ((hb8.cell (p := ⟨ob, oo + j, none⟩) hob7).trans D4.out); have hob8 := Nat.lt_of_lt_of_le hob7 hb8.size; clear I8 hb8 B7 R7 O7 D3 D4)
                  | (go_at_call 23; (with_reducible refine (PAR.out _ _ _ R8.out).mono ?_); rintro e w9 ⟨rfl, hb9⟩; have B9 := hid_o (b_of B8.out hb9 B8.out.size); have R9 := hid_o (R8.out.below hb9); have O9 := hid_o (O8.out.below hb9); have K9 := hid_o (K8.out.below hb9); have E3 := (hb9.cell (p := ⟨ob, oo + i, none⟩) hob8).trans D3'.out; have E4 := (hb9.cell (p := ⟨ob, oo + j, none⟩) hob8).trans D4'.out; clear hb9 B8 R8 O8 K8 D3' D4'))
                have N1 : w9.cell? ⟨g7, i, none⟩ = some (.int .i64 zj) := by
                  obtain ⟨b', o', e1, _, e3⟩ := R9.out i (by have := HLW.out; omega)
                  cases e1; rw [Nat.zero_add, HV1.out] at e3; exact e3
                have N2 : w9.cell? ⟨g7, j, none⟩ = some (.int .i64 zi) := by
                  obtain ⟨b', o', e1, _, e3⟩ := R9.out j (by have := HLW.out; omega)
                  cases e1; rw [Nat.zero_add, HV2.out] at e3; exact e3
                go_region_held_law (fun W => W.cell? ⟨g7, i, none⟩ = some (.int .i64 zj) ∧ W.cell? ⟨g7, j, none⟩ = some (.int .i64 zi) ∧ W.cell? ⟨ob, oo + i, none⟩ = some (.int .i64 zi) ∧ W.cell? ⟨ob, oo + j, none⟩ = some (.int .i64 zj)) (first | (with_reducible exact ⟨N1, N2, E3, E4⟩) | go_keep)
                  (first
                  | (go_at_call 29; (with_reducible refine (ksameI _ _ _ _ _ zs _ HLN.out h8 (Qi.drew K9.out) (Qi.drew O9.out)).mono ?_); rintro e w10 ⟨m10, rfl, rfl⟩))
                all_goals
                  clear N1 N2 E3 E4
                  go_wp2
                  go_roundw
                  case measure => simp [intOf]; omega
                  case rel => exact ⟨q + 1, ws, some ⟨g7, 0, none⟩, k, by omega, by go_num, rfl, by rw [HTT.out], HLW.out, HOW.out, Qi.drewN R9.out _, below_drewN B9.out _⟩
          · have BF := hid_o (b_of BW.out hbel BW.out.size)
            clear hord hQ hbel
            go_wp2
            go_ret
            exact ⟨rfl, BF.out⟩

end Go.Proofs.Ytgpjlobclcbniaa
