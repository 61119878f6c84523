/-
  The walk of VectorExact: it hands back true and only lays new memory.
-/
import Derived.Test.YtlpfjaldmokdfaaVy
import Derived.Test.YtlpfjaldmokdfaaWVMirrorE
import Derived.Deep.RegionWith
import Derived.BigQuiet
import Derived.Deep.Cut
import Derived.Deep.DeepCutAuto
import Derived.Deep.CutBlock
namespace Go.Proofs.Ytlpfjaldmokdfaa
open Fl RowKit

theorem pick_any (a : Int) (n : Nat) (hn : 0 < n) (hb : n ≤ 64) : ∃ j : Nat, j < n ∧ ∀ w, Calls Try.prog 46 #[.int .i64 a, .int .i64 n] w fun e w' => e = .returned (.int .i64 (j : Int)) ∧ w' = w := by
  have h1 := Int.natAbs_tmod a (n : Int)
  have h2 : (a.tmod n).natAbs < n := by
    rw [h1, Int.natAbs_natCast]; exact Nat.mod_lt _ hn
  have hne : ¬ (n : Int) = 0 := by omega
  by_cases h0 : a.tmod n < 0
  · obtain ⟨j, hj⟩ := Int.eq_ofNat_of_zero_le (show 0 ≤ a.tmod n + (n : Int) by omega)
    refine ⟨j, by omega, fun w => ?_⟩
    have hwr : IntKind.i64.wrap (a.tmod n + (n : Int)) = (j : Int) := by rw [IntKind.wrap_i64]; omega
    clear h1 h2
    go_enter Try.func46, Try.ntmps46
    go_wp2
    go_ret
    exact ⟨by first | rfl | (rw [hj]; rfl) | (simp [hj]), rfl⟩
  · obtain ⟨j, hj⟩ := Int.eq_ofNat_of_zero_le (show 0 ≤ a.tmod n by omega)
    refine ⟨j, by omega, fun w => ?_⟩
    clear h1 h2
    go_enter Try.func46, Try.ntmps46
    go_wp2
    go_ret
    exact ⟨by first | rfl | (rw [hj]; rfl) | (simp [hj]), rfl⟩
theorem both_is {xs ds zs ys : List Cw} {n : Nat} {s1 s2 t1 t2 b1 b2 : Nat} (hn : n ≤ 64) (wA : ∀ j, j < n → Wd 1048576 (zat xs j)) (wB : ∀ j, j < n → Wd 1048576 (zat ys j)) (wD : ∀ j, j < n → Wd 1048576 (zat ds j))
    (hz : repl (zipF addZ (fun j => anz (zat xs j)) (fun j => anz (zat ds j))) n zs)
    (h1 : repz (sumZ (zipF mulZ (fun j => anz (zat xs j)) (fun j => anz (zat ys j))) n) (s1, s2)) (h2 : repz (sumZ (zipF mulZ (fun j => anz (zat ds j)) (fun j => anz (zat ys j))) n) (t1, t2)) (h3 : repz (sumZ (zipF mulZ (zipF addZ (fun j => anz (zat xs j)) (fun j => anz (zat ds j))) (fun j => anz (zat ys j))) n) (b1, b2)) :
    (FloatKind.f64.format.order s1 (floatOfInt .f64 (sumI (fun j => reG (zat xs j, zat ys j)) n)) = some .eq ∧ FloatKind.f64.format.order s2 (floatOfInt .f64 (sumI (fun j => imG (zat xs j, zat ys j)) n)) = some .eq) ∧
    ∃ r1 r2, addO s1 t1 = some r1 ∧ addO s2 t2 = some r2 ∧ FloatKind.f64.format.order b1 r1 = some .eq ∧ FloatKind.f64.format.order b2 r2 = some .eq := by
  have uA : ∀ j, j < n → Wd 2097152 (zat xs j) := fun j hj => (wA j hj).mono (by omega)
  have uB : ∀ j, j < n → Wd 2097152 (zat ys j) := fun j hj => (wB j hj).mono (by omega)
  have uD : ∀ j, j < n → Wd 2097152 (zat ds j) := fun j hj => (wD j hj).mono (by omega)
  have sw := sum_wd wA wD hz
  have i1 := dot_is uA uB hn
  have i2 := dot_is uD uB hn
  have i3 := dot_is (fun j hj => (sw j hj).1) uB hn
  have e3 : sumZ (zipF mulZ (fun j => anz (zat zs j)) (fun j => anz (zat ys j))) n = sumZ (zipF mulZ (zipF addZ (fun j => anz (zat xs j)) (fun j => anz (zat ds j))) (fun j => anz (zat ys j))) n := sumZ_congr (fun j hj => by
    show mulZ (anz (zat zs j)) (anz (zat ys j)) = mulZ (zipF addZ (fun j => anz (zat xs j)) (fun j => anz (zat ds j)) j) (anz (zat ys j))
    rw [hz.anz hj])
  rw [e3] at i3
  obtain ⟨sb1, sb2⟩ := sum_both (ys := ys) sw
  rw [sb1, sb2] at i3
  obtain ⟨q1, q2⟩ := sum_bd2 uA uB hn
  obtain ⟨q3, q4⟩ := sum_bd2 uD uB hn
  refine ⟨⟨i1.1.order_fw h1.1 (by omega), i1.2.order_fw h1.2 (by omega)⟩, ?_⟩
  obtain ⟨f1, v1⟩ := i1.1.word h1.1
  obtain ⟨f2, v2⟩ := i1.2.word h1.2
  obtain ⟨f3, v3⟩ := i2.1.word h2.1
  obtain ⟨f4, v4⟩ := i2.2.word h2.2
  obtain ⟨f5, v5⟩ := i3.1.word h3.1
  obtain ⟨f6, v6⟩ := i3.2.word h3.2
  obtain ⟨r1, a1, g1, w1⟩ := add_whole f1 f3 v1 v3 (by omega)
  obtain ⟨r2, a2, g2, w2⟩ := add_whole f2 f4 v2 v4 (by omega)
  exact ⟨r1, r2, a1, a2, eq_of_beq (eqB_val f5 g1 (v5.trans w1.symm)), eq_of_beq (eqB_val f6 g2 (v6.trans w2.symm))⟩
theorem again_is {xs ys xs' ys' : List Cw} {n : Nat} {s1 s2 t1 t2 : Nat} (hn : n ≤ 64) (wA : ∀ j, j < n → Wd 1048576 (zat xs j)) (wB : ∀ j, j < n → Wd 1048576 (zat ys j)) (hp : (pr xs' ys' n).Perm (pr xs ys n))
    (h1 : repz (sumZ (zipF mulZ (fun j => anz (zat xs j)) (fun j => anz (zat ys j))) n) (s1, s2)) (h2 : repz (sumZ (zipF mulZ (fun j => anz (zat xs' j)) (fun j => anz (zat ys' j))) n) (t1, t2)) :
    FloatKind.f64.format.order t1 s1 = some .eq ∧ FloatKind.f64.format.order t2 s2 = some .eq := by
  have uA : ∀ j, j < n → Wd 2097152 (zat xs j) := fun j hj => (wA j hj).mono (by omega)
  have uB : ∀ j, j < n → Wd 2097152 (zat ys j) := fun j hj => (wB j hj).mono (by omega)
  have pw := perm_wd hp uA uB
  have i1 := dot_is uA uB hn
  have i2 := dot_is (fun j hj => (pw j hj).1) (fun j hj => (pw j hj).2) hn
  rw [sum_perm reG hp, sum_perm imG hp] at i2
  exact ⟨i2.1.order i1.1 h2.1 h1.1, i2.2.order i1.2 h2.2 h1.2⟩
theorem perm_okl {xs ys xs' ys' : List Cw} {n : Nat} (h : (pr xs' ys' n).Perm (pr xs ys n)) (hx : okl xs) (hy : okl ys) (lx : xs'.length = n) (ly : ys'.length = n) : okl xs' ∧ okl ys' := by
  have each : ∀ j, j < n → okz (zat xs' j) ∧ okz (zat ys' j) := by
    intro j hj
    have hm : (zat xs' j, zat ys' j) ∈ pr xs' ys' n := by unfold pr; exact List.mem_map.2 ⟨j, List.mem_range.2 hj, rfl⟩
    have := h.subset hm
    unfold pr at this
    obtain ⟨i, hi, e⟩ := List.mem_map.1 this
    have e1 : zat xs i = zat xs' j := congrArg Prod.fst e
    have e2 : zat ys i = zat ys' j := congrArg Prod.snd e
    rw [← e1, ← e2]
    exact ⟨hx i, hy i⟩
  constructor
  · intro j
    rcases Nat.lt_or_ge j n with hj | hj
    · exact (each j hj).1
    · rw [zat_ge (by omega)]; exact ⟨by decide, by decide⟩
  · intro j
    rcases Nat.lt_or_ge j n with hj | hj
    · exact (each j hj).2
    · rw [zat_ge (by omega)]; exact ⟨by decide, by decide⟩
theorem wrapI {a : Int} (h : a.natAbs ≤ 4611686018427387904) : IntKind.i64.wrap a = a := by rw [IntKind.wrap_i64]; omega
theorem copy_len2 {A : Option Addr} {C n : Nat} {xs : List Cw} {w : World} (hn : xs.length = n) (hsz : n * 16 ≤ 140737488355328) (h : Sl w A C xs) :
    Calls Try.prog 45 #[.slice A n C] w fun e w' => ∃ A' C', e = .returned (.slice A' n C') ∧ (w'.ownsRow w.heap.size 29 1 (.slice A' n C') n (xs.map cx) ∧ True) ∧ Below w.heap.size w w' := by
  subst hn
  refine (copy_own A C xs w hsz h).mono ?_
  rintro e w' ⟨v, rfl, ho, hb⟩
  obtain ⟨A', C', rfl⟩ : ∃ A' C', v = .slice A' xs.length C' := by
    obtain ⟨A', C', e, _⟩ := own_rc rfl ho
    exact ⟨A', C', e⟩
  exact ⟨A', C', rfl, ⟨ho, trivial⟩, hb⟩
theorem rw_lst2 {w : World} {b n C : Nat} {A : Option Addr} {zs : List Cw} (hl : zs.length = n) (ho : okl zs) (h : w.ownsRow b 29 1 (.slice A n C) n (zs.map cx)) : Lst w A n (fun j => anz (zat zs j)) zs := by
  obtain ⟨A', C', hv, _, _, hr⟩ := own_rc hl.symm h
  rw [hl] at hv
  cases hv
  exact lst_self hl ho hr
theorem swap_facts {w : World} {base n j q g c : Nat} {zs : List Cw} (hl : zs.length = n) (hj : j < n) (hq : q < n) (h : w.ownsRow base 29 1 (.slice (some ⟨g, 0, none⟩) n c) n (zs.map cx)) :
    (w.cell? ⟨g, j, none⟩ = some (cx (zat zs j)) ∧ w.frozen? ⟨g, j, none⟩ = false) ∧ (w.cell? ⟨g, q, none⟩ = some (cx (zat zs q)) ∧ w.frozen? ⟨g, q, none⟩ = false) ∧
    (w.setCell ⟨g, j, none⟩ (cx (zat zs q))).cell? ⟨g, q, none⟩ = some (cx (zat zs q)) ∧ (w.setCell ⟨g, j, none⟩ (cx (zat zs q))).frozen? ⟨g, q, none⟩ = false ∧
    ((w.setCell ⟨g, j, none⟩ (cx (zat zs q))).setCell ⟨g, q, none⟩ (cx (zat zs j))).ownsRow base 29 1 (.slice (some ⟨g, 0, none⟩) n c) n ((swp zs j q).map cx) := by
  have c1 : ∀ i, i < n → w.cell? ⟨g, i, none⟩ = some (cx (zat zs i)) := fun i hi => by rw [h.cellAt i (by omega), List.getElem?_map, zat_lt (by omega)]; rfl
  have h1 := (h.stored j (cx (zat zs q))).1
  rw [← List.map_set] at h1
  have h2 := (h1.stored q (cx (zat zs j))).1
  rw [← List.map_set] at h2
  refine ⟨⟨c1 j hj, h.frozenAt j⟩, ⟨c1 q hq, h.frozenAt q⟩, ?_, h1.frozenAt q, h2⟩
  have hls : (zs.set j (zat zs q)).length = n := by simpa using hl
  rw [h1.cellAt q (by omega), List.getElem?_map, zat_lt (by omega)]
  have : zat (zs.set j (zat zs q)) q = zat zs q := by
    by_cases e : q = j
    · subst e
      unfold zat; rw [List.getD_eq_getElem?_getD, List.getElem?_set_self (by omega)]; rfl
    · simp [zat, List.getD_eq_getElem?_getD, Ne.symm e]
  rw [this]; rfl
theorem wh_take {w : World} {A : Option Addr} {C n N : Nat} {xs : List Cw} (h : Wh w A C n xs) (hN : N ≤ n) : Lst w A N (fun j => anz (zat (xs.take N) j)) (xs.take N) := by
  refine lst_self (by rw [List.length_take, h.len]; omega) (fun j => ?_) (h.rc.take N)
  rcases Nat.lt_or_ge j N with hj | hj
  · rw [show zat (xs.take N) j = zat xs j by simp [zat, List.getD_eq_getElem?_getD, hj]]
    exact (h.sm j (by omega)).ok
  · rw [zat_ge (by rw [List.length_take]; omega)]; exact ⟨by decide, by decide⟩
theorem wh_wd {w : World} {A : Option Addr} {C n N : Nat} {xs : List Cw} (h : Wh w A C n xs) (hN : N ≤ n) : Hid (∀ j, j < N → Wd 1048576 (zat (xs.take N) j)) := fun j hj => by
  rw [show zat (xs.take N) j = zat xs j by simp [zat, List.getD_eq_getElem?_getD, hj]]
  exact (h.sm j (by omega)).wd
theorem wh_shape {w : World} {A : Option Addr} {C n N : Nat} {xs : List Cw} (h : Wh w A C n xs) (hN : N ≤ n) : Hid (A = none ∧ N = 0 ∧ C = 0 ∨ ∃ g, A = some ⟨g, 0, none⟩) := by
  rcases h.shape with ⟨a, b, c⟩ | h
  · exact .inl ⟨a, by omega, c⟩
  · exact .inr h
theorem wh_sl {w : World} {A : Option Addr} {C N : Nat} {f : Nat → Cn} {xs : List Cw} (h : Hid (A = none ∧ N = 0 ∧ C = 0 ∨ ∃ g, A = some ⟨g, 0, none⟩)) (L : Lst w A N f xs) (hc : N ≤ C) : Hid (Sl w A C xs) := by
  refine ⟨L.rc, ?_, by rw [L.len]; exact hc⟩
  rcases h.out with ⟨a, b, _⟩ | ⟨g, a⟩
  · exact .inl ⟨a, by rw [L.len]; exact b⟩
  · exact .inr ⟨g, 0, a⟩
set_option maxRecDepth 10000 in
set_option maxHeartbeats 16000000 in
theorem vexact_walk (ao bo co oo : Option Addr) (c0 c1 c2 c3 : Nat) (ks ls ms os : List Int) (w : World) (h0 : ks.length * 8 ≤ 140737488355328) (h1 : ls.length * 8 ≤ 140737488355328) (h2 : ms.length * 8 ≤ 140737488355328) (h3 : os.length * 8 ≤ 140737488355328) (r0 : Ri w ao ks) (r1 : Ri w bo ls) (r2 : Ri w co ms) (r3 : Ri w oo os) :
    Calls Try.prog 8 #[.slice ao ks.length c0, .slice bo ls.length c1, .slice co ms.length c2, .slice oo os.length c3] w fun e w' => e = .returned (.bool true) ∧ Below w.heap.size w w' := by
  have st : Stg 0 := ⟨trivial⟩
  have R0 : Hid (Ri w oo os) := r3
  have HBW : Hid (os.length * 8 ≤ 140737488355328) := h3
  go_enter Try.func8, Try.ntmps8
  go_upto_region 2 with (first
    | ((have _ := (st : Stg 0)); go_at_call 44; (with_reducible refine (whole_any ao c0 ks _ h0 r0).mono ?_); rintro e w1 ⟨A, CA, na, rfl, ⟨xa, SA⟩, BB⟩; clear st; (have st : Stg 1 := ⟨trivial⟩); (replace r1 := r1.below BB); (replace r2 := r2.below BB); (replace r3 := r3.below BB); clear r0)
    | ((have _ := (st : Stg 1)); go_at_call 44; (with_reducible refine (whole_any bo c1 ls _ h1 r1).mono ?_); rintro e w2 ⟨B, CB, nb, rfl, ⟨xb, SB⟩, hb⟩; clear st; (have st : Stg 2 := ⟨trivial⟩); (replace SA := SA.below hb); (replace r2 := r2.below hb); (replace r3 := r3.below hb); (replace BB := BB.trans (hb.mono BB.size)); clear r1 hb)
    | ((have _ := (st : Stg 2)); go_at_call 44; (with_reducible refine (whole_any co c2 ms _ h2 r2).mono ?_); rintro e w3 ⟨D, CD, nd, rfl, ⟨xd, SD⟩, hb⟩; clear st; (have st : Stg 3 := ⟨trivial⟩); (replace SA := SA.below hb); (replace SB := SB.below hb); (replace r3 := r3.below hb); (replace BB := BB.trans (hb.mono BB.size)); clear r2 hb))
  go_cut [12] (fun nv wc => ∃ N : Nat, nv = .int .i64 N ∧ N ≤ na ∧ N ≤ nb ∧ N ≤ nd ∧ wc = w3)
  case first =>
    go_wp2
    all_goals
      go_meet
      case rel => first | exact ⟨na, rfl, by omega, by omega, by omega, rfl⟩ | exact ⟨nb, rfl, by omega, by omega, by omega, rfl⟩ | exact ⟨nd, rfl, by omega, by omega, by omega, rfl⟩
  case rest =>
    obtain ⟨N, rfl, hNa, hNb, hNd, rfl⟩ := hcut
    have hf := SA.few
    have N64 : N ≤ 64 := by omega
    have cA : N ≤ CA := Nat.le_trans hNa SA.cap
    have cB : N ≤ CB := Nat.le_trans hNb SB.cap
    have cD : N ≤ CD := Nat.le_trans hNd SD.cap
    have LA := wh_take SA hNa
    have LB := wh_take SB hNb
    have LD := wh_take SD hNd
    have wA := wh_wd SA hNa
    have wB := wh_wd SB hNb
    have wD := wh_wd SD hNd
    obtain ⟨xs, hxs⟩ : ∃ xs, xs = xa.take N := ⟨_, rfl⟩
    obtain ⟨ys, hys⟩ : ∃ ys, ys = xb.take N := ⟨_, rfl⟩
    obtain ⟨ds, hds⟩ : ∃ ds, ds = xd.take N := ⟨_, rfl⟩
    rw [← hxs] at LA wA
    rw [← hys] at LB wB
    rw [← hds] at LD wD
    have hsA := wh_shape SA hNa
    have hsB := wh_shape SB hNb
    have hsD := wh_shape SD hNd
    clear hxs hys hds SA SB SD hNa hNb hNd hf
    go_wp2_with fail
    go_region_held_law (fun _ => True) (trivial) (fail)
    have HSA : Hid (Sl wc A CA xs) := wh_sl hsA LA cA
    have HSB : Hid (Sl wc B CB ys) := wh_sl hsB LB cB
    clear hsA hsB hsD cA cB cD
    go_wp2
    go_loopw [13, 14, 15] (fun rv mv iv' wr => ∃ (k q : Nat), k ≤ N ∧ iv' = .int .i64 k ∧ rv = .int .i64 (sumI (fun j => reG (zat xs j, zat ys j)) k) ∧ mv = .int .i64 (sumI (fun j => imG (zat xs j, zat ys j)) k) ∧ wr = wc.drewN q) (fun _ _ i _ => N - (intOf i).toNat)
    case atStart => exact ⟨0, 1, Nat.zero_le _, rfl, rfl, rfl, rfl⟩
    case round =>
      obtain ⟨k, m, hk, rfl, rfl, rfl, hw⟩ := hrel
      obtain ⟨hb1, hb2⟩ := sum_bd2 (xs := xs) (ys := ys) (n := k) (fun j hj => (wA.out j (by omega)).mono (by omega)) (fun j hj => (wB.out j (by omega)).mono (by omega)) (by omega)
      have HW : Hid (wr = wc.drewN m) := hw
      by_cases hlt : k < N
      · have hkA := wA.out k hlt
        have hkB := wB.out k hlt
        have s1 : sumI (fun j => reG (zat xs j, zat ys j)) (k + 1) = sumI (fun j => reG (zat xs j, zat ys j)) k + reG (zat xs k, zat ys k) := rfl
        have s2 : sumI (fun j => imG (zat xs j, zat ys j)) (k + 1) = sumI (fun j => imG (zat xs j, zat ys j)) k + imG (zat xs k, zat ys k) := rfl
        obtain ⟨b, off, rfl, hb, hcx⟩ := LA.rc k (by rw [LA.len]; exact hlt)
        obtain ⟨b2, off2, rfl, hb', hcy⟩ := LB.rc k (by rw [LB.len]; exact hlt)
        have hcx : wr.cell? ⟨b, off + k, none⟩ = some (cx (zat xs k)) := by rw [hw]; exact hcx
        have hcy : wr.cell? ⟨b2, off2 + k, none⟩ = some (cx (zat ys k)) := by rw [hw]; exact hcy
        have okA := LA.okl k
        have okB := LB.okl k
        obtain ⟨x, hxe⟩ : ∃ x, x = zat xs k := ⟨_, rfl⟩
        obtain ⟨y, hye⟩ : ∃ y, y = zat ys k := ⟨_, rfl⟩
        rw [← hxe] at hcx hkA s1 s2 okA
        rw [← hye] at hcy hkB s1 s2 okB
        unfold cx at hcx hcy
        rw [show reG (x, y) = iv x.1 * iv y.1 - iv x.2 * iv y.2 from rfl] at s1
        rw [show imG (x, y) = iv x.1 * iv y.2 + iv x.2 * iv y.1 from rfl] at s2
        obtain ⟨R, hR⟩ : ∃ R, R = sumI (fun j => reG (zat xs j, zat ys j)) k := ⟨_, rfl⟩
        obtain ⟨I, hI⟩ : ∃ I, I = sumI (fun j => imG (zat xs j, zat ys j)) k := ⟨_, rfl⟩
        rw [← hR] at s1 hb1
        rw [← hI] at s2 hb2
        rw [← hR, ← hI]
        have v1 := run_toint (hkA.1.1.word (rep_ans okA.1)).1 (hkA.1.1.word (rep_ans okA.1)).2 (by have := hkA.2.1; omega)
        have v2 := run_toint (hkA.1.2.word (rep_ans okA.2)).1 (hkA.1.2.word (rep_ans okA.2)).2 (by have := hkA.2.2; omega)
        have v3 := run_toint (hkB.1.1.word (rep_ans okB.1)).1 (hkB.1.1.word (rep_ans okB.1)).2 (by have := hkB.2.1; omega)
        have v4 := run_toint (hkB.1.2.word (rep_ans okB.2)).1 (hkB.1.2.word (rep_ans okB.2)).2 (by have := hkB.2.2; omega)
        have p1 := prod_bd hkA.2.1 hkB.2.1
        have p2 := prod_bd hkA.2.2 hkB.2.2
        have p3 := prod_bd hkA.2.1 hkB.2.2
        have p4 := prod_bd hkA.2.2 hkB.2.1
        obtain ⟨P, hP⟩ : ∃ P, P = iv x.1 := ⟨_, rfl⟩
        obtain ⟨Q, hQ⟩ : ∃ Q, Q = iv x.2 := ⟨_, rfl⟩
        obtain ⟨C, hC⟩ : ∃ C, C = iv y.1 := ⟨_, rfl⟩
        obtain ⟨E, hE⟩ : ∃ E, E = iv y.2 := ⟨_, rfl⟩
        simp only [← hP, ← hQ, ← hC, ← hE] at v1 v2 v3 v4 p1 p2 p3 p4 s1 s2
        have g1 : IntKind.i64.wrap (P * C) = P * C := wrapI (by omega)
        have g2 : IntKind.i64.wrap (R + P * C) = R + P * C := wrapI (by omega)
        have g3 : IntKind.i64.wrap (Q * E) = Q * E := wrapI (by omega)
        have g4 : IntKind.i64.wrap (R + P * C - Q * E) = R + P * C - Q * E := wrapI (by omega)
        have g5 : IntKind.i64.wrap (P * E) = P * E := wrapI (by omega)
        have g6 : IntKind.i64.wrap (I + P * E) = I + P * E := wrapI (by omega)
        have g7 : IntKind.i64.wrap (Q * C) = Q * C := wrapI (by omega)
        have g8 : IntKind.i64.wrap (I + P * E + Q * C) = I + P * E + Q * C := wrapI (by omega)
        have S1 : Hid (R + P * C - Q * E = sumI (fun j => reG (zat xs j, zat ys j)) (k + 1)) := by show _ = _; rw [s1]; omega
        have S2 : Hid (I + P * E + Q * C = sumI (fun j => imG (zat xs j, zat ys j)) (k + 1)) := by show _ = _; rw [s2]; omega
        clear s1 s2 hP hQ hC hE hR hI hxe hye okA okB hkA hkB hw p1 p2 p3 p4 hb1 hb2 LA LB LD wA wB wD r3
        go_wp2
        go_big_quiet (fail)
        go_wp2
        go_roundw
        case rel => exact ⟨k + 1, _, by omega, by go_num, by rw [← S1.out], by rw [← S2.out], by rw [HW.out]; simp only [World.drewN_drewN]; rfl⟩
        case measure => simp [intOf]; omega
      · have e : k = N := by omega
        subst e
        obtain ⟨R, hR⟩ : ∃ R, R = sumI (fun j => reG (zat xs j, zat ys j)) k := ⟨_, rfl⟩
        obtain ⟨I, hI⟩ : ∃ I, I = sumI (fun j => imG (zat xs j, zat ys j)) k := ⟨_, rfl⟩
        rw [← hR] at hb1
        rw [← hI] at hb2
        rw [← hR, ← hI]
        have HR : Hid (R = sumI (fun j => reG (zat xs j, zat ys j)) k) := hR
        have HI : Hid (I = sumI (fun j => imG (zat xs j, zat ys j)) k) := hI
        have l1 := LA.len
        have l2 := LB.len
        have lenA : Hid (xs.length = k) := l1
        have lenB : Hid (ys.length = k) := l2
        have okA := LA.okl
        have okB := LB.okl
        replace LA := LA.drewN m
        replace LB := LB.drewN m
        replace LD := LD.drewN m
        replace r3 := r3.drewN m
        replace BB := below_drewN BB m
        have SA : Sl wr A CA xs := by rw [hw]; exact HSA.out.drewN m
        have SB : Sl wr B CB ys := by rw [hw]; exact HSB.out.drewN m
        rw [← hw] at LA LB LD r3 BB
        clear hR hI hw HW hlt hk HSA HSB hb1 hb2
        have h65 : k ≤ 65536 := by omega
        have hs16 : k * 16 ≤ 140737488355328 := by omega
        have HOA : Hid (okl xs) := okA
        have HOB : Hid (okl ys) := okB
        clear okA okB
        go_wp2_with (first
          | (go_at_call 13; (with_reducible refine (ldot_ok (ao := A) (bo := B) (ca := CA) (cb := CB) LA LB h65).mono ?_); rintro e w' ⟨s1, s2, m1, rfl, hs, rfl⟩; (have HD1 : Hid (repz (sumZ (zipF mulZ (fun j => anz (zat xs j)) (fun j => anz (zat ys j))) k) (s1, s2)) := hs); clear hs)
          | (go_at_call 13; (with_reducible refine (ldot_ok (ao := D) (bo := B) (LD.drewN _) (LB.drewN _) h65).mono ?_); rintro e w' ⟨t1, t2, m2, rfl, hs, rfl⟩; (have HD2 : Hid (repz (sumZ (zipF mulZ (fun j => anz (zat ds j)) (fun j => anz (zat ys j))) k) (t1, t2)) := hs); clear hs)
          | (go_at_call 11; (with_reducible refine (ladd_ok (LA.drewN _) (LD.drewN _) h65).mono ?_); rintro e w5 ⟨gz, zz, rfl, LZ, hb⟩; (replace hb := und hb); (replace LB := LB.below hb); (replace SA := SA.below hb); (replace SB := SB.below hb); (replace r3 := r3.below hb); (replace BB := BB.trans (hb.mono BB.size)); clear hb LA LD)
          | (go_at_call 13; (with_reducible refine (ldot_ok LZ LB h65).mono ?_); rintro e w' ⟨b1, b2, m3, rfl, hs, rfl⟩; (have HQ := both_is N64 wA.out wB.out wD.out LZ.rep HD1.out HD2.out hs); clear hs LZ LB; obtain ⟨⟨q1, q2⟩, z1, z2, a1, a2, q3, q4⟩ := HQ; rw [← HR.out] at q1; rw [← HI.out] at q2; (have hadd := fun W => run_cadd a1 a2 29 W); clear a1 a2 wD)
          | (go_at_call 36; (with_reducible refine (awake_any _).mono ?_); rintro e w6 ⟨rfl, hb⟩; (replace hb := und hb); (replace SA := SA.below hb); (replace SB := SB.below hb); (replace r3 := r3.below hb); (replace BB := BB.trans (hb.mono BB.size)); clear hb)
          | (go_at_call 45; (with_reducible refine (copy_len2 l1 hs16 SA).mono ?_); rintro e w7 ⟨X1, C1, rfl, OX, hb⟩; (replace OX := OX.1); (have LX7 : Hid (∀ g, (Value.slice X1 k C1).ownBlock = some g → g < w7.heap.size) := fun g hg => (OX.lt g hg).2); (replace SB := SB.below hb); (replace r3 := r3.below hb); (have Z7 := hb.size); (have BS := BB.size); (replace BB := BB.trans (hb.mono BB.size)); clear hb SA)
          | (go_at_call 45; (with_reducible refine (copy_len2 l2 hs16 SB).mono ?_); rintro e w8 ⟨Y1, C2, rfl, OY, hb⟩; (replace OY := OY.1); (replace OX := own_below OX hb); (replace r3 := r3.below hb); (have Z8 := hb.size); (replace BB := BB.trans (hb.mono BB.size)); clear hb SB))
        clear q1 q2 q3 q4 hadd HR HI HD2 r3 l1 l2 hs16
        go_loopw [30] (fun iv' wr => ∃ (i : Nat) (xs' ys' : List Cw), i ≤ os.length ∧ iv' = .int .i64 i ∧ xs'.length = k ∧ ys'.length = k ∧ (pr xs' ys' k).Perm (pr xs ys k) ∧ wr.ownsRow w6.heap.size 29 1 (.slice X1 k C1) k (xs'.map cx) ∧ wr.ownsRow w7.heap.size 29 1 (.slice Y1 k C2) k (ys'.map cx) ∧ Below w6.heap.size w8 wr) (fun i _ => os.length - (intOf i).toNat)
        case atStart => exact ⟨0, xs, ys, Nat.zero_le _, rfl, lenA.out, lenB.out, List.Perm.refl _, OX, OY, Below.refl _ _⟩
        case round =>
          obtain ⟨i, xs', ys', hi, rfl, hl1, hl2, hperm, OX', OY', hB8⟩ := hrel
          clear OX OY lenA lenB
          have hos := HBW.out
          by_cases ha : i < os.length
          · by_cases hb2 : i < 200
            · by_cases hc2 : 0 < k
              · have iA : (i : Int) < (os.length : Int) := by omega
                have iB : (i : Int) < 200 := by omega
                have iC : (0 : Int) < (k : Int) := by omega
                obtain ⟨b, off, rfl, hbo, hco⟩ := R0.out i ha
                have hco : wr.cell? ⟨b, off + i, none⟩ = some (.int .i64 (os.getD i 0)) := by
                  rw [hB8.cell (p := ⟨b, off + i, none⟩) (by show b < _; omega), BB.cell (p := ⟨b, off + i, none⟩) hbo]
                  exact hco
                obtain ⟨a, hae⟩ : ∃ a, a = os.getD i 0 := ⟨_, rfl⟩
                rw [← hae] at hco
                obtain ⟨j, hj, hpk⟩ := pick_any a k hc2 N64
                obtain ⟨q, hq⟩ : ∃ q, q = i % k := ⟨_, rfl⟩
                have hqk : q < k := by rw [hq]; exact Nat.mod_lt _ hc2
                have hmod : (i : Int).tmod (k : Int) = (q : Int) := by rw [Int.tmod_eq_emod_of_nonneg (by omega), hq]; exact (Int.natCast_emod i k).symm
                have hne : ¬ (k : Int) = 0 := by omega
                obtain ⟨gx, cx1, hX1, gX6, _⟩ := own_shape OX' hc2
                obtain ⟨gy, cy1, hY1, gY7, _⟩ := own_shape OY' hc2
                cases hX1
                cases hY1
                have gX := (OX'.lt gx rfl)
                have gY := (OY'.lt gy rfl)
                have gX7 := LX7.out gx rfl
                obtain ⟨x1, hx1⟩ : ∃ x1, x1 = zat xs' j := ⟨_, rfl⟩
                obtain ⟨x2, hx2⟩ : ∃ x2, x2 = zat xs' q := ⟨_, rfl⟩
                obtain ⟨y1, hy1⟩ : ∃ y1, y1 = zat ys' j := ⟨_, rfl⟩
                obtain ⟨y2, hy2⟩ : ∃ y2, y2 = zat ys' q := ⟨_, rfl⟩
                have FX := swap_facts hl1 hj hqk OX'
                rw [← hx1, ← hx2] at FX
                have hFar : ∀ u v : Value, (((wr.setCell ⟨gx, j, none⟩ u).setCell ⟨gx, q, none⟩ v)).ownsRow w7.heap.size 29 1 (.slice (some ⟨gy, 0, none⟩) k C2) k (ys'.map cx) := fun u v => own_at OY' (fun g hg => by
                  have : gy = g := by simpa [Value.ownBlock] using hg
                  rw [Below.heap_setCell _ _ _ _ (by show g ≠ gx; omega), Below.heap_setCell _ _ _ _ (by show g ≠ gx; omega)])
                have HX : Hid (((wr.setCell ⟨gx, j, none⟩ (cx x2)).setCell ⟨gx, q, none⟩ (cx x1)).ownsRow w6.heap.size 29 1 (.slice (some ⟨gx, 0, none⟩) k C1) k ((swp xs' j q).map cx)) := FX.2.2.2.2
                have HY := hFar (cx x2) (cx x1)
                have FY := swap_facts hl2 hj hqk HY
                rw [← hy1, ← hy2] at FY
                obtain ⟨⟨f1, f2⟩, ⟨f3, f4⟩, f5, f6, _⟩ := FX
                obtain ⟨⟨k1, k2⟩, ⟨k3, k4⟩, k5, k6, HYY⟩ := FY
                have HY2 : Hid ((((wr.setCell ⟨gx, j, none⟩ (cx x2)).setCell ⟨gx, q, none⟩ (cx x1)).setCell ⟨gy, j, none⟩ (cx y2)).setCell ⟨gy, q, none⟩ (cx y1) |>.ownsRow w7.heap.size 29 1 (.slice (some ⟨gy, 0, none⟩) k C2) k ((swp ys' j q).map cx)) := HYY
                have HPM : Hid ((pr (swp xs' j q) (swp ys' j q) k).Perm (pr xs ys k)) := (pr_swp hl1 hl2 hj hqk).trans hperm
                have HB8 : Hid (Below w6.heap.size w8 wr) := hB8
                have HL1 : Hid (xs'.length = k) := hl1
                have HL2 : Hid (ys'.length = k) := hl2
                unfold cx at f1 f3 f5 f6 k1 k3 k5 k6 k2 k4
                clear HYY HY hFar hx1 hx2 hy1 hy2 hperm hB8 hl1 hl2 OX' OY' hae hq gX gY hbo
                have jI : (j : Int) < (k : Int) := by omega
                have qI : (q : Int) < (k : Int) := by omega
                go_wp2
                go_big_quiet (first | (go_at_call 46; (with_reducible exact Calls.quiet_of_same (hpk _))))
                obtain ⟨W, hW⟩ : ∃ W, W = wr.drewN nq := ⟨_, rfl⟩
                rw [← hW]
                replace f1 : W.cell? ⟨gx, j, none⟩ = some (.complex .f64 x1.1 x1.2) := by rw [hW]; exact f1
                replace f2 : W.frozen? ⟨gx, j, none⟩ = false := by rw [hW]; exact f2
                replace f3 : W.cell? ⟨gx, q, none⟩ = some (.complex .f64 x2.1 x2.2) := by rw [hW]; exact f3
                replace f4 : W.frozen? ⟨gx, q, none⟩ = false := by rw [hW]; exact f4
                replace f5 : (W.setCell ⟨gx, j, none⟩ (.complex .f64 x2.1 x2.2)).cell? ⟨gx, q, none⟩ = some (.complex .f64 x2.1 x2.2) := by rw [hW]; exact f5
                replace f6 : (W.setCell ⟨gx, j, none⟩ (.complex .f64 x2.1 x2.2)).frozen? ⟨gx, q, none⟩ = false := by rw [hW]; exact f6
                replace k1 : ((W.setCell ⟨gx, j, none⟩ (.complex .f64 x2.1 x2.2)).setCell ⟨gx, q, none⟩ (.complex .f64 x1.1 x1.2)).cell? ⟨gy, j, none⟩ = some (.complex .f64 y1.1 y1.2) := by rw [hW]; exact k1
                replace k2 : ((W.setCell ⟨gx, j, none⟩ (.complex .f64 x2.1 x2.2)).setCell ⟨gx, q, none⟩ (.complex .f64 x1.1 x1.2)).frozen? ⟨gy, j, none⟩ = false := by rw [hW]; exact k2
                replace k3 : ((W.setCell ⟨gx, j, none⟩ (.complex .f64 x2.1 x2.2)).setCell ⟨gx, q, none⟩ (.complex .f64 x1.1 x1.2)).cell? ⟨gy, q, none⟩ = some (.complex .f64 y2.1 y2.2) := by rw [hW]; exact k3
                replace k4 : ((W.setCell ⟨gx, j, none⟩ (.complex .f64 x2.1 x2.2)).setCell ⟨gx, q, none⟩ (.complex .f64 x1.1 x1.2)).frozen? ⟨gy, q, none⟩ = false := by rw [hW]; exact k4
                replace k5 : (((W.setCell ⟨gx, j, none⟩ (.complex .f64 x2.1 x2.2)).setCell ⟨gx, q, none⟩ (.complex .f64 x1.1 x1.2)).setCell ⟨gy, j, none⟩ (.complex .f64 y2.1 y2.2)).cell? ⟨gy, q, none⟩ = some (.complex .f64 y2.1 y2.2) := by rw [hW]; exact k5
                replace k6 : (((W.setCell ⟨gx, j, none⟩ (.complex .f64 x2.1 x2.2)).setCell ⟨gx, q, none⟩ (.complex .f64 x1.1 x1.2)).setCell ⟨gy, j, none⟩ (.complex .f64 y2.1 y2.2)).frozen? ⟨gy, q, none⟩ = false := by rw [hW]; exact k6
                replace HX : Hid (((W.setCell ⟨gx, j, none⟩ (.complex .f64 x2.1 x2.2)).setCell ⟨gx, q, none⟩ (.complex .f64 x1.1 x1.2)).ownsRow w6.heap.size 29 1 (.slice (some ⟨gx, 0, none⟩) k C1) k ((swp xs' j q).map cx)) := by rw [hW]; exact HX
                replace HY2 : Hid (((((W.setCell ⟨gx, j, none⟩ (.complex .f64 x2.1 x2.2)).setCell ⟨gx, q, none⟩ (.complex .f64 x1.1 x1.2)).setCell ⟨gy, j, none⟩ (.complex .f64 y2.1 y2.2)).setCell ⟨gy, q, none⟩ (.complex .f64 y1.1 y1.2)).ownsRow w7.heap.size 29 1 (.slice (some ⟨gy, 0, none⟩) k C2) k ((swp ys' j q).map cx)) := by rw [hW]; exact HY2
                replace HB8 : Hid (Below w6.heap.size w8 W) := by rw [hW]; exact below_drewN HB8.out nq
                clear hW hpk hco hmod
                go_wp2
                go_region
                have hgx6 : w6.heap.size ≤ gx := gX6
                have hgy6 : w6.heap.size ≤ gy := by omega
                obtain ⟨Z, hZ⟩ : ∃ Z, Z = ((W.setCell ⟨gx, j, none⟩ (.complex .f64 x2.1 x2.2)).setCell ⟨gx, q, none⟩ (.complex .f64 x1.1 x1.2)).drew := ⟨_, rfl⟩
                rw [← hZ]
                replace k1 : Z.cell? ⟨gy, j, none⟩ = some (.complex .f64 y1.1 y1.2) := by rw [hZ]; exact k1
                replace k2 : Z.frozen? ⟨gy, j, none⟩ = false := by rw [hZ]; exact k2
                replace k3 : Z.cell? ⟨gy, q, none⟩ = some (.complex .f64 y2.1 y2.2) := by rw [hZ]; exact k3
                replace k4 : Z.frozen? ⟨gy, q, none⟩ = false := by rw [hZ]; exact k4
                replace k5 : (Z.setCell ⟨gy, j, none⟩ (.complex .f64 y2.1 y2.2)).cell? ⟨gy, q, none⟩ = some (.complex .f64 y2.1 y2.2) := by rw [hZ]; exact k5
                replace k6 : (Z.setCell ⟨gy, j, none⟩ (.complex .f64 y2.1 y2.2)).frozen? ⟨gy, q, none⟩ = false := by rw [hZ]; exact k6
                replace HX : Hid (Z.ownsRow w6.heap.size 29 1 (.slice (some ⟨gx, 0, none⟩) k C1) k ((swp xs' j q).map cx)) := by rw [hZ]; exact HX
                replace HY2 : Hid (((Z.setCell ⟨gy, j, none⟩ (.complex .f64 y2.1 y2.2)).setCell ⟨gy, q, none⟩ (.complex .f64 y1.1 y1.2)).ownsRow w7.heap.size 29 1 (.slice (some ⟨gy, 0, none⟩) k C2) k ((swp ys' j q).map cx)) := by rw [hZ]; exact HY2
                replace HB8 : Hid (Below w6.heap.size w8 Z) := by rw [hZ]; exact ((HB8.out.setCell (p := ⟨gx, j, none⟩) hgx6 _).setCell (p := ⟨gx, q, none⟩) hgx6 _).drew
                clear hZ f1 f2 f3 f4 f5 f6
                go_wp2
                go_region
                go_wp2
                go_roundw
                case rel =>
                  refine ⟨i + 1, swp xs' j q, swp ys' j q, by omega, by go_num, by rw [swp_len]; exact HL1.out, by rw [swp_len]; exact HL2.out, HPM.out, ?_, HY2.out, ((HB8.out.setCell (p := ⟨gy, j, none⟩) hgy6 _).setCell (p := ⟨gy, q, none⟩) hgy6 _).drew⟩
                  refine own_at HX.out (fun g hg => ?_)
                  have : gx = g := by simpa [Value.ownBlock] using hg
                  show (World.setCell _ _ _).heap[g]? = _
                  rw [Below.heap_setCell _ _ _ _ (by show g ≠ gy; omega), Below.heap_setCell _ _ _ _ (by show g ≠ gy; omega)]
                case measure => simp [intOf]; omega
              · have iA : (i : Int) < (os.length : Int) := by omega
                have iB : (i : Int) < 200 := by omega
                have iC : ¬ (0 : Int) < (k : Int) := by omega
                have L1 := rw_lst2 hl1 (perm_okl hperm HOA.out HOB.out hl1 hl2).1 OX'
                have L2 := rw_lst2 hl2 (perm_okl hperm HOA.out HOB.out hl1 hl2).2 OY'
                have HP : Hid ((pr xs' ys' k).Perm (pr xs ys k)) := hperm
                clear hperm OX' OY' hl1 hl2
                go_wp2_with (first
                  | (go_at_call 13; (with_reducible refine (ldot_ok L1 L2 h65).mono ?_); rintro e w' ⟨f1, f2, m9, rfl, hs, rfl⟩; (have HQ := again_is N64 wA.out wB.out HP.out HD1.out hs); (have q5 := HQ.1); (have q6 := HQ.2); clear hs HQ))
                go_ret
                exact ⟨rfl, below_drewN (BB.trans (hB8.mono (by omega))) _⟩
            · have iA : (i : Int) < (os.length : Int) := by omega
              have iB : ¬ (i : Int) < 200 := by omega
              have L1 := rw_lst2 hl1 (perm_okl hperm HOA.out HOB.out hl1 hl2).1 OX'
              have L2 := rw_lst2 hl2 (perm_okl hperm HOA.out HOB.out hl1 hl2).2 OY'
              have HP : Hid ((pr xs' ys' k).Perm (pr xs ys k)) := hperm
              clear hperm OX' OY' hl1 hl2
              go_wp2_with (first
                | (go_at_call 13; (with_reducible refine (ldot_ok L1 L2 h65).mono ?_); rintro e w' ⟨f1, f2, m9, rfl, hs, rfl⟩; (have HQ := again_is N64 wA.out wB.out HP.out HD1.out hs); (have q5 := HQ.1); (have q6 := HQ.2); clear hs HQ))
              go_ret
              exact ⟨rfl, below_drewN (BB.trans (hB8.mono (by omega))) _⟩
          · have iA : ¬ (i : Int) < (os.length : Int) := by omega
            have L1 := rw_lst2 hl1 (perm_okl hperm HOA.out HOB.out hl1 hl2).1 OX'
            have L2 := rw_lst2 hl2 (perm_okl hperm HOA.out HOB.out hl1 hl2).2 OY'
            have HP : Hid ((pr xs' ys' k).Perm (pr xs ys k)) := hperm
            clear hperm OX' OY' hl1 hl2
            go_wp2_with (first
              | (go_at_call 13; (with_reducible refine (ldot_ok L1 L2 h65).mono ?_); rintro e w' ⟨f1, f2, m9, rfl, hs, rfl⟩; (have HQ := again_is N64 wA.out wB.out HP.out HD1.out hs); (have q5 := HQ.1); (have q6 := HQ.2); clear hs HQ))
            go_ret
            exact ⟨rfl, below_drewN (BB.trans (hB8.mono (by omega))) _⟩
end Go.Proofs.Ytlpfjaldmokdfaa
