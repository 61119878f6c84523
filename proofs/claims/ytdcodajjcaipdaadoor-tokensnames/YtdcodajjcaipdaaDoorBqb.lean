/-
  Several texts in one: Gl Gm Ga Gb0 Gi Gb1 Gb2 Gb3 Gk Gh Ql Qm.
-/
import Derived.Test.YtdcodajjcaipdaaDoorBqa
import Derived.Handy
import Derived.Deep.RegionWith
import Derived.BigQuiet
import Derived.Deep.QuietTactic
import Derived.Lib.BitFns
namespace Go.Proofs.YtdcodajjcaipdaaDoor
open RowKit

theorem vw_get (ws : List Nat) (k : Nat) (h : k < ws.length) : (vw ws)[k]? = some (.int .u32 ((ws.getD k 0 : Nat) : Int)) := by
  unfold vw; rw [List.getElem?_map]; simp [List.getD_eq_getElem?_getD, h]
theorem vw_set (ws : List Nat) (k x : Nat) : (vw ws).set k (.int .u32 ((x : Nat) : Int)) = vw (ws.set k x) := by unfold vw; rw [List.map_set]
theorem news_of {w : World} {g off : Nat} {ws : List Nat} (hc : RdU w (some ⟨g, off, none⟩) ws) : ∀ j u, (vw ws)[j]? = some u → w.cell? ((⟨g, off, none⟩ : Addr).add j) = some u := by
  intro j u hj
  have hl : j < ws.length := by
    rcases Nat.lt_or_ge j ws.length with h | h
    · exact h
    · rw [List.getElem?_eq_none (by rw [vw_len]; exact h)] at hj; cases hj
  rw [vw_get ws j hl] at hj
  cases hj
  obtain ⟨b, o, h1, _, h3⟩ := hc j hl
  simp only [Option.some.injEq, Addr.mk.injEq, and_true] at h1
  obtain ⟨rfl, rfl⟩ := h1
  have ha : (⟨g, off, none⟩ : Addr).add j = ⟨g, off + j, none⟩ := by unfold Addr.add; split <;> simp_all
  rw [ha, h3]
theorem vw_one (ws : List Nat) : ∀ u ∈ vw ws, u.oneCell' = true := by
  intro u hu; unfold vw at hu; rw [List.mem_map] at hu; obtain ⟨n, _, rfl⟩ := hu; rfl
theorem split_set {ds us : List Nat} {i x : Nat} (hd : ds.length = i) (hi : i < us.length) : (ds ++ us.drop i).set i x = (ds ++ [x]) ++ us.drop (i + 1) := by
  subst hd
  rw [List.set_append_right _ _ (Nat.le_refl _), Nat.sub_self, List.drop_eq_getElem_cons hi, List.append_assoc]; rfl
theorem split_get {ds us : List Nat} {i : Nat} (hd : ds.length = i) : (ds ++ us.drop i).getD i 0 = us.getD i 0 := by
  subst hd
  rw [List.getD_eq_getElem?_getD, List.getElem?_append_right (Nat.le_refl _), Nat.sub_self, List.getElem?_drop, Nat.add_zero, ← List.getD_eq_getElem?_getD]
theorem own_empty (w : World) : (w.alloc (.cells #[] 107)).ownsRow w.heap.size 107 1 (.slice (some ⟨w.heap.size, 0, none⟩) 0 0) 0 [] := by
  refine ⟨rfl, .inr ⟨w.heap.size, 0, #[], rfl, Nat.le_refl _, ?_, Nat.le_refl _, by unfold maxLen; omega, rfl, rfl⟩⟩
  show (w.heap.push _)[w.heap.size]? = _
  simp
/-- the next digit of a difference -/
theorem less_step {ds us vs : List Nat} {i r : Nat} (hd : ds.length = i) (h2 : num ds + num (vs.take i) = num (us.take i) + 4294967296 ^ i * r) (z r' : Nat) (hz : z + (r + vs.getD i 0) = us.getD i 0 + 4294967296 * r') :
    num (ds ++ [z]) + num (vs.take (i + 1)) = num (us.take (i + 1)) + 4294967296 ^ (i + 1) * r' := by
  have take_succ : ∀ ws : List Nat, num (ws.take (i + 1)) = num (ws.take i) + 4294967296 ^ i * ws.getD i 0 := by
    intro ws
    rcases Nat.lt_or_ge i ws.length with h1 | h1
    · exact num_take_succ ws i h1
    · rw [List.take_of_length_le h1, List.take_of_length_le (by omega), List.getD_eq_getElem?_getD, List.getElem?_eq_none h1]; simp
  rw [take_succ us, take_succ vs, num_snoc, hd, Nat.pow_succ]
  have e := congrArg (fun t => 4294967296 ^ i * t) hz
  simp only [Nat.mul_add] at e
  rw [Nat.mul_assoc]
  omega

set_option maxRecDepth 10000 in
set_option maxHeartbeats 2000000 in
theorem wless_any (g off ca cb : Nat) (bo : Option Addr) (us vs : List Nat) (w : World) (hsa : us.length ≤ 100000) (hsb : vs.length ≤ us.length) (hle : num vs ≤ num us) (h0 : 0 < us.length) (hc : RdU w (some ⟨g, off, none⟩) us) (hd : RdU w bo vs) (ka : okW us) (kb : okW vs) :
    Calls Tryd.prog 105 #[.slice (some ⟨g, off, none⟩) us.length ca, .slice bo vs.length cb] w fun e w' => ∃ v rs, e = .returned v ∧ Big w' v (num us - num vs) rs ∧ rs.length ≤ us.length ∧ Below w.heap.size w w' ∧ Fr w.heap.size v := by
  obtain ⟨i0, hi0, hz0, hz1, hz2⟩ := info_parts3 Tryd.infoU
  go_enter Tryd.func105, Tryd.ntmps105
  go_wp2_with (at_builtin; refine wpList_append_own _ rfl _ _ 93 rfl w.heap.size 107 i0 (.int .u32 0) 1 4 Tryd.underlying93 hi0 hz0 hz1 hz2 rfl (by decide) _ 0 [] rfl (own_empty w) ⟨g, off, none⟩ us.length ca (vw us) rfl (by rw [vw_len]; simp) (news_of (hc.below ((Below.refl _ _).alloc (Nat.le_refl _) _))) (vw_one us) ?c3 ?c4 ?c5 ?_)
  case c3 => unfold maxLen; omega
  case c4 => omega
  case c5 => simp
  · intro v' w1 hown' hgrow _
    have B1 : Below w.heap.size w w1 := ((Below.refl _ _).alloc (Nat.le_refl _) _).grown hgrow (by simp) (by intro k hk; simp [Value.ownBlock] at hk; omega)
    rcases hown'.2 with ⟨_, hno⟩ | ⟨go, co, cur, hv, hgo, _, hco, _, _, _⟩
    · omega
    · subst hv
      have HD : Hid (RdU w bo vs) := hd
      clear hgrow hd hc
      go_wp2
      go_loopw [6, 7] (fun rv iv wr => ∃ (i r : Nat) (ds : List Nat), rv = .int .u64 r ∧ iv = .int .i64 i ∧ r ≤ 1 ∧ i ≤ us.length ∧ ds.length = i ∧ okW ds ∧ num ds + num (vs.take i) = num (us.take i) + 4294967296 ^ i * r ∧ wr.ownsRow w.heap.size 107 1 (.slice (some ⟨go, 0, none⟩) us.length co) us.length (vw (ds ++ us.drop i)) ∧ Below w.heap.size w wr) (fun _ iv _ => us.length - (intOf iv).toNat)
      case atStart => exact ⟨0, 0, [], rfl, rfl, by omega, by omega, rfl, fun x hx => by simp at hx, by simp [num], by simpa using hown', B1⟩
      case round =>
        obtain ⟨i, r, ds, rfl, rfl, hr1, hil, hdl, hkd, hnum, hown, hbel⟩ := hrel
        have hdr := HD.out.below hbel
        by_cases hlt : i < us.length
        · have hcell := hown.cellAt i (by omega)
          have hfz := hown.frozenAt i
          rw [vw_get _ _ (by rw [List.length_append, List.length_drop]; omega), split_get hdl] at hcell
          have xa := okW_getD ka i
          obtain ⟨x, hx⟩ : ∃ x, x = us.getD i 0 := ⟨_, rfl⟩
          rw [← hx] at xa hcell
          by_cases hb : i < vs.length
          · obtain ⟨b2, o2, hbo, hb2, hc2⟩ := hdr i hb
            have xb := okW_getD kb i
            obtain ⟨y, hy⟩ : ∃ y, y = vs.getD i 0 := ⟨_, rfl⟩
            rw [← hy] at xb hc2
            subst hbo
            by_cases hxd : x < r + y
            · obtain ⟨z, hzz⟩ : ∃ z, z = x + 4294967296 - (r + y) := ⟨_, rfl⟩
              have hzlt : z < 4294967296 := by omega
              have HT : Hid (z + (r + vs.getD i 0) = us.getD i 0 + 4294967296 * 1) := by
                show _ = _; omega
              have hst := (hown.stored i (.int .u32 ((z : Nat) : Int))).1
              rw [vw_set, split_set hdl hlt] at hst
              have HZ : Hid ((z : Int) = ((x : Int) + 4294967296 - ((r : Int) + (y : Int)))) := by show _ = _; omega
              have HS : Hid ((wr.setCell ⟨go, i, none⟩ (.int .u32 ((z : Nat) : Int))).ownsRow w.heap.size 107 1 (.slice (some ⟨go, 0, none⟩) us.length co) us.length (vw (ds ++ [z] ++ us.drop (i + 1)))) := hst
              have HN : Hid (num ds + num (vs.take i) = num (us.take i) + 4294967296 ^ i * r) := hnum
              have HB : Hid (Below w.heap.size w wr) := hbel
              have hxI : (x : Int) < ((r : Int) + (y : Int)) := by omega
              clear hown hnum hbel hdr hx hy ka kb hown' hst hzz
              go_wp2
              go_roundw
              case rel =>
                rw [← HZ.out]
                exact ⟨i + 1, 1, ds ++ [z], rfl, by go_num, by omega, by omega, by simp [hdl], okW_append hkd (fun t ht => by simp at ht; omega), less_step hdl HN.out z 1 HT.out, HS.out, HB.out.setCell (p := ⟨go, i, none⟩) hgo _⟩
              case measure => simp [intOf]; omega
            · obtain ⟨z, hzz⟩ : ∃ z, z = x - (r + y) := ⟨_, rfl⟩
              have hzlt : z < 4294967296 := by omega
              have HT : Hid (z + (r + vs.getD i 0) = us.getD i 0 + 4294967296 * 0) := by
                show _ = _; omega
              have hst := (hown.stored i (.int .u32 ((z : Nat) : Int))).1
              rw [vw_set, split_set hdl hlt] at hst
              have HZ : Hid ((z : Int) = ((x : Int) - ((r : Int) + (y : Int)))) := by show _ = _; omega
              have HS : Hid ((wr.setCell ⟨go, i, none⟩ (.int .u32 ((z : Nat) : Int))).ownsRow w.heap.size 107 1 (.slice (some ⟨go, 0, none⟩) us.length co) us.length (vw (ds ++ [z] ++ us.drop (i + 1)))) := hst
              have HN : Hid (num ds + num (vs.take i) = num (us.take i) + 4294967296 ^ i * r) := hnum
              have HB : Hid (Below w.heap.size w wr) := hbel
              have hxI : ¬ ((x : Int) < ((r : Int) + (y : Int))) := by omega
              have hxJ : ((r : Int) + (y : Int)) ≤ (x : Int) := by omega
              clear hown hnum hbel hdr hx hy ka kb hown' hst hzz
              go_wp2
              go_roundw
              case rel =>
                rw [← HZ.out]
                exact ⟨i + 1, 0, ds ++ [z], rfl, by go_num, by omega, by omega, by simp [hdl], okW_append hkd (fun t ht => by simp at ht; omega), less_step hdl HN.out z 0 HT.out, HS.out, HB.out.setCell (p := ⟨go, i, none⟩) hgo _⟩
              case measure => simp [intOf]; omega
          · have hy0 : vs.getD i 0 = 0 := by rw [List.getD_eq_getElem?_getD, List.getElem?_eq_none (by omega)]; rfl
            by_cases hxd : x < r
            · obtain ⟨z, hzz⟩ : ∃ z, z = x + 4294967296 - (r) := ⟨_, rfl⟩
              have hzlt : z < 4294967296 := by omega
              have HT : Hid (z + (r + vs.getD i 0) = us.getD i 0 + 4294967296 * 1) := by
                show _ = _; omega
              have hst := (hown.stored i (.int .u32 ((z : Nat) : Int))).1
              rw [vw_set, split_set hdl hlt] at hst
              have HZ : Hid ((z : Int) = ((x : Int) + 4294967296 - (r : Int))) := by show _ = _; omega
              have HS : Hid ((wr.setCell ⟨go, i, none⟩ (.int .u32 ((z : Nat) : Int))).ownsRow w.heap.size 107 1 (.slice (some ⟨go, 0, none⟩) us.length co) us.length (vw (ds ++ [z] ++ us.drop (i + 1)))) := hst
              have HN : Hid (num ds + num (vs.take i) = num (us.take i) + 4294967296 ^ i * r) := hnum
              have HB : Hid (Below w.heap.size w wr) := hbel
              have hxI : (x : Int) < (r : Int) := by omega
              clear hown hnum hbel hdr hx hy0 ka kb hown' hst hzz
              go_wp2
              go_roundw
              case rel =>
                rw [← HZ.out]
                exact ⟨i + 1, 1, ds ++ [z], rfl, by go_num, by omega, by omega, by simp [hdl], okW_append hkd (fun t ht => by simp at ht; omega), less_step hdl HN.out z 1 HT.out, HS.out, HB.out.setCell (p := ⟨go, i, none⟩) hgo _⟩
              case measure => simp [intOf]; omega
            · obtain ⟨z, hzz⟩ : ∃ z, z = x - (r) := ⟨_, rfl⟩
              have hzlt : z < 4294967296 := by omega
              have HT : Hid (z + (r + vs.getD i 0) = us.getD i 0 + 4294967296 * 0) := by
                show _ = _; omega
              have hst := (hown.stored i (.int .u32 ((z : Nat) : Int))).1
              rw [vw_set, split_set hdl hlt] at hst
              have HZ : Hid ((z : Int) = ((x : Int) - (r : Int))) := by show _ = _; omega
              have HS : Hid ((wr.setCell ⟨go, i, none⟩ (.int .u32 ((z : Nat) : Int))).ownsRow w.heap.size 107 1 (.slice (some ⟨go, 0, none⟩) us.length co) us.length (vw (ds ++ [z] ++ us.drop (i + 1)))) := hst
              have HN : Hid (num ds + num (vs.take i) = num (us.take i) + 4294967296 ^ i * r) := hnum
              have HB : Hid (Below w.heap.size w wr) := hbel
              have hxI : ¬ ((x : Int) < (r : Int)) := by omega
              have hxJ : (r : Int) ≤ (x : Int) := by omega
              clear hown hnum hbel hdr hx hy0 ka kb hown' hst hzz
              go_wp2
              go_roundw
              case rel =>
                rw [← HZ.out]
                exact ⟨i + 1, 0, ds ++ [z], rfl, by go_num, by omega, by omega, by simp [hdl], okW_append hkd (fun t ht => by simp at ht; omega), less_step hdl HN.out z 0 HT.out, HS.out, HB.out.setCell (p := ⟨go, i, none⟩) hgo _⟩
              case measure => simp [intOf]; omega
        · have e : i = us.length := by omega
          subst e
          rw [List.drop_length, List.append_nil] at hown
          rw [List.take_of_length_le hsb, List.take_of_length_le (Nat.le_refl _)] at hnum
          have hlt2 := num_lt hkd
          rw [hdl] at hlt2
          have hr0 : r = 0 := by
            rcases Nat.eq_zero_or_pos r with h | h
            · exact h
            · exfalso
              have e1 : r = 1 := by omega
              rw [e1, Nat.mul_one] at hnum
              generalize 4294967296 ^ us.length = B at *
              omega
          rw [hr0, Nat.mul_zero, Nat.add_zero] at hnum
          have HR : Hid (num ds = num us - num vs) := by show _ = _; omega
          obtain ⟨ro, rc, hv, hsl⟩ := own_slU hdl.symm hown
          rw [hdl] at hv
          cases hv
          have HB : Hid (Below w.heap.size w wr) := hbel
          clear hown hnum hbel hdr ka kb hown' hlt2
          go_wp2_with (first | (go_at_call 106; refine (trim_big (some ⟨go, 0, none⟩) co us.length (num us - num vs) ds _ hdl.symm (by omega) hsl hkd HR.out).mono ?_; rintro e w9 ⟨rs, q, rfl, hB, hle9, rfl⟩))
          go_ret
          exact ⟨_, rs, rfl, hB.drewN q, by omega, below_drewN' HB.out q, fun b off l c e => by cases e; exact hgo⟩
end Go.Proofs.YtdcodajjcaipdaaDoor

namespace Go.Proofs.YtdcodajjcaipdaaDoor
open RowKit

theorem num_set (os : List Nat) (p x : Nat) (hp : p < os.length) : num (os.set p x) + 4294967296 ^ p * os.getD p 0 = num os + 4294967296 ^ p * x := by
  have h1 := num_split os p hp
  have h2 := num_split (os.set p x) p (by rw [List.length_set]; exact hp)
  have e1 : (os.set p x).take p = os.take p := by rw [List.take_set, List.set_eq_of_length_le (by rw [List.length_take]; omega)]
  have e2 : (os.set p x).drop (p + 1) = os.drop (p + 1) := by rw [List.drop_set]; simp
  have e3 : (os.set p x).getD p 0 = x := by simp [List.getD_eq_getElem?_getD, hp]
  rw [e1, e2, e3] at h2
  rw [h1, h2]
  simp only [Nat.mul_add]
  omega
theorem okW_set {os : List Nat} (h : okW os) (p x : Nat) (hx : x < 4294967296) : okW (os.set p x) := by
  intro y hy
  rcases List.mem_or_eq_of_mem_set hy with h1 | h1
  · exact h y h1
  · omega
theorem getD_set_ne (os : List Nat) (p x j : Nat) (h : j ≠ p) : (os.set p x).getD j 0 = os.getD j 0 := by
  simp [List.getD_eq_getElem?_getD, List.getElem?_set_ne (Ne.symm h)]
/-- the next digit of a row of a product -/
theorem mul_step {os us vs : List Nat} {i k c u v : Nat} (hk : k < vs.length) (hv : v = vs.getD k 0) (hp : i + k < os.length) (h : num os + 4294967296 ^ (i + k) * c = num (us.take i) * num vs + 4294967296 ^ i * (u * num (vs.take k))) :
    num (os.set (i + k) ((c + u * v + os.getD (i + k) 0) % 4294967296)) + 4294967296 ^ (i + (k + 1)) * ((c + u * v + os.getD (i + k) 0) / 4294967296) = num (us.take i) * num vs + 4294967296 ^ i * (u * num (vs.take (k + 1))) := by
  have h1 := num_set os (i + k) ((c + u * v + os.getD (i + k) 0) % 4294967296) hp
  have h2 := Nat.div_add_mod (c + u * v + os.getD (i + k) 0) 4294967296
  have h3 := num_take_succ vs k hk
  rw [h3, ← hv, show i + (k + 1) = (i + k) + 1 by omega, Nat.pow_succ]
  generalize os.getD (i + k) 0 = o at *
  have e1 : 4294967296 ^ i * (u * (num (vs.take k) + 4294967296 ^ k * v)) = 4294967296 ^ i * (u * num (vs.take k)) + 4294967296 ^ (i + k) * (u * v) := by
    rw [Nat.mul_add, Nat.mul_add, Nat.pow_add]
    congr 1
    simp only [Nat.mul_comm, Nat.mul_left_comm, Nat.mul_assoc]
  rw [e1]
  generalize (c + u * v + o) / 4294967296 = q at *
  generalize (c + u * v + o) % 4294967296 = m at *
  have e2 := congrArg (fun t => 4294967296 ^ (i + k) * t) h2
  simp only [Nat.mul_add] at e2
  rw [Nat.mul_assoc]
  generalize 4294967296 ^ (i + k) * (u * v) = uv at *
  generalize 4294967296 ^ (i + k) * (4294967296 * q) = bq at *
  generalize 4294967296 ^ (i + k) * m = bm at *
  generalize 4294967296 ^ (i + k) * o = bo at *
  generalize 4294967296 ^ (i + k) * c = bc at *
  omega
theorem mul_row {os us vs : List Nat} {i c u : Nat} (hi : i < us.length) (hu : u = us.getD i 0) (hp : i + vs.length < os.length) (h0 : os.getD (i + vs.length) 0 = 0) (h : num os + 4294967296 ^ (i + vs.length) * c = num (us.take i) * num vs + 4294967296 ^ i * (u * num (vs.take vs.length))) :
    num (os.set (i + vs.length) c) = num (us.take (i + 1)) * num vs := by
  have h1 := num_set os (i + vs.length) c hp
  rw [h0, Nat.mul_zero, Nat.add_zero] at h1
  rw [h1, h, List.take_of_length_le (Nat.le_refl _), num_take_succ us i hi, ← hu, Nat.add_mul, Nat.mul_assoc]
theorem _root_.Go.World.ownsRow.drewN' {w : World} {a : Addr} {u : Value} {base e size n : Nat} {v : Value} {xs : List Value} (h : (w.setCell a u).ownsRow base e size v n xs) (q : Nat) : ((w.drewN q).setCell a u).ownsRow base e size v n xs := h
theorem _root_.Go.RowKit.Below.drewN' {n : Nat} {w w' : World} (h : Below n w w') (k : Nat) : Below n w (w'.drewN k) := by
  obtain ⟨h1, h2, h3, h4, h5⟩ := h
  exact ⟨h1, h2, h3, h4, h5⟩
theorem other_cell (w : World) {a b : Addr} (h : a ≠ b) (v : Value) : (w.setCell a v).cell? b = w.cell? b := by
  apply World.cell?_setCell_other; exact h
theorem froz_new {w : World} (c : Array Value) (t : TypeId) (n i : Nat) (hn : n = w.heap.size) : (w.alloc (.cells c t)).frozen? ⟨n, i, none⟩ = false := by
  subst hn; simp
theorem made_words (n : Nat) : (madeCells (Value.int .u32 0).cells (n * 1)).toList = vw (List.replicate n 0) := by
  unfold vw
  apply List.ext_getElem?
  intro i
  simp only [madeCells, Array.toList_map, List.getElem?_map, Array.toList_range, Nat.mul_one, List.getElem?_replicate]
  by_cases h : i < n
  · simp [h, Value.cells, Nat.mod_one]
  · simp [h]
set_option maxRecDepth 10000 in
set_option maxHeartbeats 2000000 in
theorem wmul_any (na nb : Bool) (ao bo : Option Addr) (ca cb : Nat) (us vs : List Nat) (w : World) (hsa : us.length ≤ 100000) (hsb : vs.length ≤ 100000) (hc : RdU w ao us) (hd : RdU w bo vs) (ka : okW us) (kb : okW vs) :
    Calls Tryd.prog 80 #[.agg #[.bool na, .slice ao us.length ca], .agg #[.bool nb, .slice bo vs.length cb]] w fun e w' => ∃ v rs, e = .returned (.agg #[.bool (decide (0 < num us * num vs) && (na != nb)), v]) ∧ Big w' v (num us * num vs) rs ∧ rs.length ≤ us.length + vs.length ∧ Below w.heap.size w w' ∧ Fr w.heap.size v := by
  obtain ⟨i0, hi0, hz0, hz1, hz2⟩ := info_parts3 Tryd.infoU
  go_enter Tryd.func80, Tryd.ntmps80
  obtain ⟨wA, hwA⟩ : ∃ wA, wA = (((w.alloc (.cells #[.bool na, .slice ao us.length ca] 95)).alloc (.cells #[.bool nb, .slice bo vs.length cb] 95)).alloc (.cells #[.bool false, .slice none 0 0] 95)) := ⟨_, rfl⟩
  have BA : Below w.heap.size w wA := by rw [hwA]; exact ((((Below.refl w.heap.size w).alloc (Nat.le_refl _) _).alloc (by simp) _).alloc (by simp; omega) _)
  have sA : wA.heap.size = w.heap.size + 1 + 1 + 1 := by rw [hwA]; simp
  have cA0 : wA.cell? ⟨w.heap.size, 0, none⟩ = some (.bool na) := by rw [hwA, World.cell?_alloc_lt _ _ _ (by simp; omega), World.cell?_alloc_lt _ _ _ (by simp)]; exact World.cell?_alloc_new w _ _ 0
  have cA1 : wA.cell? ⟨w.heap.size, 1, none⟩ = some (.slice ao us.length ca) := by rw [hwA, World.cell?_alloc_lt _ _ _ (by simp; omega), World.cell?_alloc_lt _ _ _ (by simp)]; exact World.cell?_alloc_new w _ _ 1
  have cB0 : wA.cell? ⟨w.heap.size + 1, 0, none⟩ = some (.bool nb) := by rw [hwA, World.cell?_alloc_lt _ _ _ (by simp)]; exact World.cell?_alloc_at _ _ _ _ (by simp)
  have cB1 : wA.cell? ⟨w.heap.size + 1, 1, none⟩ = some (.slice bo vs.length cb) := by rw [hwA, World.cell?_alloc_lt _ _ _ (by simp)]; exact World.cell?_alloc_at _ _ _ _ (by simp)
  have cR0 : wA.cell? ⟨w.heap.size + 1 + 1, 0, none⟩ = some (.bool false) := by rw [hwA]; exact World.cell?_alloc_at _ _ _ _ (by simp)
  have cR1 : wA.cell? ⟨w.heap.size + 1 + 1, 1, none⟩ = some (.slice none 0 0) := by rw [hwA]; exact World.cell?_alloc_at _ _ _ _ (by simp)
  have gR0 : wA.frozen? ⟨w.heap.size + 1 + 1, 0, none⟩ = false := by rw [hwA]; exact froz_new _ _ _ _ (by simp)
  have gR1 : wA.frozen? ⟨w.heap.size + 1 + 1, 1, none⟩ = false := by rw [hwA]; exact froz_new _ _ _ _ (by simp)
  have RA := hc.below BA
  have RB := hd.below BA
  go_wp2_with (at_make; refine wpList_make_full _ rfl _ _ 93 rfl w.heap.size 107 i0 (.int .u32 0) 1 Tryd.underlying93 hi0 hz0 hz1 _ _ _ _ (us.length + vs.length) rfl rfl (Int.natCast_add _ _).symm (Int.natCast_add _ _).symm (by rw [hz2]; omega) (by unfold maxLen; omega) (by first | exact BA.size | (rw [← hwA]; exact BA.size)) ?_; intro w1 hown hgrow)
  rw [← hwA] at hown hgrow
  have B1 : Below wA.heap.size wA w1 := (Below.refl _ _).grown hgrow (Nat.le_refl _) (by simp)
  rw [made_words, sA] at hown
  clear hgrow hwA hc hd
  go_loopw [6] (fun iv wr => ∃ (i : Nat) (os : List Nat), iv = .int .i64 i ∧ i ≤ us.length ∧ os.length = us.length + vs.length ∧ okW os ∧ num os = num (us.take i) * num vs ∧ (∀ j, i + vs.length ≤ j → os.getD j 0 = 0) ∧ wr.ownsRow w.heap.size 107 1 (.slice (some ⟨w.heap.size + 1 + 1 + 1, 0, none⟩) (us.length + vs.length) (us.length + vs.length)) (us.length + vs.length) (vw os) ∧ Below wA.heap.size wA wr) (fun iv _ => us.length - (intOf iv).toNat)
  case atStart => exact ⟨0, List.replicate (us.length + vs.length) 0, rfl, Nat.zero_le _, by simp, fun x hx => by simp at hx; omega, by rw [num_zero (fun j => by simp [List.getD_eq_getElem?_getD, List.getElem?_replicate]; split <;> rfl)]; simp [num], fun j _ => by simp [List.getD_eq_getElem?_getD, List.getElem?_replicate]; split <;> rfl, hown, B1⟩
  case round =>
    obtain ⟨i, os, rfl, hi, hol, hok, hnum, hzer, hown, hbel⟩ := hrel
    have kA1 : wr.cell? ⟨w.heap.size, 1, none⟩ = some (.slice ao us.length ca) := by rw [hbel.cell (show w.heap.size < wA.heap.size by omega)]; exact cA1
    have kB1 : wr.cell? ⟨w.heap.size + 1, 1, none⟩ = some (.slice bo vs.length cb) := by rw [hbel.cell (show w.heap.size + 1 < wA.heap.size by omega)]; exact cB1
    by_cases hlt : i < us.length
    · obtain ⟨u, hu⟩ : ∃ u, u = us.getD i 0 := ⟨_, rfl⟩
      have ku := okW_getD ka i
      rw [← hu] at ku
      have HU : Hid (u = us.getD i 0) := hu
      go_wp2
      go_loopw [7, 8] (fun cv kv wr => ∃ (k c : Nat) (os : List Nat), cv = .int .u64 c ∧ kv = .int .i64 k ∧ k ≤ vs.length ∧ c < 4294967296 ∧ os.length = us.length + vs.length ∧ okW os ∧ num os + 4294967296 ^ (i + k) * c = num (us.take i) * num vs + 4294967296 ^ i * (u * num (vs.take k)) ∧ (∀ j, i + vs.length ≤ j → os.getD j 0 = 0) ∧ wr.ownsRow w.heap.size 107 1 (.slice (some ⟨w.heap.size + 1 + 1 + 1, 0, none⟩) (us.length + vs.length) (us.length + vs.length)) (us.length + vs.length) (vw os) ∧ Below wA.heap.size wA wr) (fun _ kv _ => vs.length - (intOf kv).toNat)
      case atStart => exact ⟨0, 0, os, rfl, rfl, Nat.zero_le _, by omega, hol, hok, by rw [hnum]; simp [num], hzer, hown, hbel⟩
      case round =>
        clear hol hok hnum hzer hown hbel kA1 kB1
        obtain ⟨k, c, os, rfl, rfl, hk, hc, hol, hok, hnum, hzer, hown, hbel⟩ := hrel
        have kA1 : wr.cell? ⟨w.heap.size, 1, none⟩ = some (.slice ao us.length ca) := by rw [hbel.cell (show w.heap.size < wA.heap.size by omega)]; exact cA1
        have kB1 : wr.cell? ⟨w.heap.size + 1, 1, none⟩ = some (.slice bo vs.length cb) := by rw [hbel.cell (show w.heap.size + 1 < wA.heap.size by omega)]; exact cB1
        have lsz := hbel.size
        by_cases hkl : k < vs.length
        · obtain ⟨b1, o1, rfl, hb1, hc1⟩ := RA.below hbel i hlt
          obtain ⟨b2, o2, rfl, hb2, hc2⟩ := RB.below hbel k hkl
          rw [← hu] at hc1
          obtain ⟨v, hv⟩ : ∃ v, v = vs.getD k 0 := ⟨_, rfl⟩
          have kv := okW_getD kb k
          rw [← hv] at kv hc2
          have hcell := hown.cellAt (i + k) (by omega)
          have hfz := hown.frozenAt (i + k)
          rw [vw_get _ _ (by omega)] at hcell
          obtain ⟨o, ho⟩ : ∃ o, o = os.getD (i + k) 0 := ⟨_, rfl⟩
          have ko := okW_getD hok (i + k)
          rw [← ho] at hcell ko
          have huv : u * v ≤ 4294967295 * 4294967295 := Nat.mul_le_mul (by omega) (by omega)
          obtain ⟨p, hp⟩ : ∃ p, p = u * v := ⟨_, rfl⟩
          have hpI : (u : Int) * (v : Int) = (p : Int) := by rw [hp]; exact (Int.natCast_mul u v).symm
          rw [← hp] at huv
          have hst := mul_step (c := c) (u := u) hkl hv (by omega) hnum
          rw [← hp, ← ho] at hst
          have HST : Hid (num (os.set (i + k) ((c + p + o) % 4294967296)) + 4294967296 ^ (i + (k + 1)) * ((c + p + o) / 4294967296) = num (us.take i) * num vs + 4294967296 ^ i * (u * num (vs.take (k + 1)))) := hst
          have hsto := (hown.stored (i + k) (.int .u32 (((c + p + o) % 4294967296 : Nat) : Int))).1
          rw [vw_set] at hsto
          have HSO : Hid ((wr.setCell ⟨w.heap.size + 1 + 1 + 1, i + k, none⟩ (.int .u32 (((c + p + o) % 4294967296 : Nat) : Int))).ownsRow w.heap.size 107 1 (.slice (some ⟨w.heap.size + 1 + 1 + 1, 0, none⟩) (us.length + vs.length) (us.length + vs.length)) (us.length + vs.length) (vw (os.set (i + k) ((c + p + o) % 4294967296)))) := hsto
          clear hst hsto hp
          have HO : Hid (o = os.getD (i + k) 0) := ho
          have HV : Hid (v = vs.getD k 0) := hv
          have HN : Hid (num os + 4294967296 ^ (i + k) * c = num (us.take i) * num vs + 4294967296 ^ i * (u * num (vs.take k))) := hnum
          have HZ : Hid (∀ j, i + vs.length ≤ j → os.getD j 0 = 0) := hzer
          have HB : Hid (Below wA.heap.size wA wr) := hbel
          clear RA RB hu ho hv hnum hzer hbel ka kb BA B1
          have hcI : (c : Int) < 4294967296 := by omega
          have hoI : (o : Int) < 4294967296 := by omega
          go_wp2
          go_quiet (fail)
          go_wp2
          go_roundw
          case rel =>
            have eM : ((c : Int) + (p : Int) + (o : Int)) % 4294967296 = (((c + p + o) % 4294967296 : Nat) : Int) := by omega
            rw [eM]
            refine ⟨k + 1, (c + p + o) / 4294967296, os.set (i + k) ((c + p + o) % 4294967296), congrArg (Value.int .u64) (by omega), by go_num, by omega, by omega, by rw [List.length_set]; exact hol, okW_set hok _ _ (by omega), HST.out, ?_, HSO.out.drewN' nq, (HB.out.drewN' nq).setCell (p := ⟨w.heap.size + 1 + 1 + 1, i + k, none⟩) (by show wA.heap.size ≤ w.heap.size + 1 + 1 + 1; omega) _⟩
            intro j hj
            rw [getD_set_ne _ _ _ _ (by omega)]; exact HZ.out j hj
          case measure => simp [intOf]; omega
        · have e : k = vs.length := by omega
          subst e
          have hcell := hown.cellAt (i + vs.length) (by omega)
          have hfz := hown.frozenAt (i + vs.length)
          rw [vw_get _ _ (by omega), hzer _ (Nat.le_refl _)] at hcell
          have hst := mul_row hlt hu (by omega) (hzer _ (Nat.le_refl _)) hnum
          have HST : Hid (num (os.set (i + vs.length) c) = num (us.take (i + 1)) * num vs) := hst
          have hsto := (hown.stored (i + vs.length) (.int .u32 ((c : Nat) : Int))).1
          rw [vw_set] at hsto
          have HSO : Hid ((wr.setCell ⟨w.heap.size + 1 + 1 + 1, i + vs.length, none⟩ (.int .u32 ((c : Nat) : Int))).ownsRow w.heap.size 107 1 (.slice (some ⟨w.heap.size + 1 + 1 + 1, 0, none⟩) (us.length + vs.length) (us.length + vs.length)) (us.length + vs.length) (vw (os.set (i + vs.length) c))) := hsto
          have HZ : Hid (∀ j, i + vs.length ≤ j → os.getD j 0 = 0) := hzer
          have HB : Hid (Below wA.heap.size wA wr) := hbel
          have hcI : (c : Int) < 4294967296 := by omega
          clear hst hsto RA RB hu hnum hzer hbel ka kb BA B1 hown
          go_wp2
          go_roundw
          case rel =>
            refine ⟨i + 1, os.set (i + vs.length) c, by go_num, by omega, by rw [List.length_set]; exact hol, okW_set hok _ _ hc, HST.out, ?_, HSO.out, HB.out.setCell (p := ⟨w.heap.size + 1 + 1 + 1, i + vs.length, none⟩) (by show wA.heap.size ≤ w.heap.size + 1 + 1 + 1; omega) _⟩
            intro j hj
            rw [getD_set_ne _ _ _ _ (by omega)]; exact HZ.out j (by omega)
          case measure => simp [intOf]; omega
    · have e : i = us.length := by omega
      subst e
      rw [List.take_of_length_le (Nat.le_refl _)] at hnum
      have kA0 : wr.cell? ⟨w.heap.size, 0, none⟩ = some (.bool na) := by rw [hbel.cell (show w.heap.size < wA.heap.size by omega)]; exact cA0
      have kB0 : wr.cell? ⟨w.heap.size + 1, 0, none⟩ = some (.bool nb) := by rw [hbel.cell (show w.heap.size + 1 < wA.heap.size by omega)]; exact cB0
      have kR0 : wr.cell? ⟨w.heap.size + 1 + 1, 0, none⟩ = some (.bool false) := by rw [hbel.cell (show w.heap.size + 1 + 1 < wA.heap.size by omega)]; exact cR0
      have kR1 : wr.cell? ⟨w.heap.size + 1 + 1, 1, none⟩ = some (.slice none 0 0) := by rw [hbel.cell (show w.heap.size + 1 + 1 < wA.heap.size by omega)]; exact cR1
      have fR0 : wr.frozen? ⟨w.heap.size + 1 + 1, 0, none⟩ = false := by rw [hbel.frozen (show w.heap.size + 1 + 1 < wA.heap.size by omega)]; exact gR0
      have fR1 : wr.frozen? ⟨w.heap.size + 1 + 1, 1, none⟩ = false := by rw [hbel.frozen (show w.heap.size + 1 + 1 < wA.heap.size by omega)]; exact gR1
      obtain ⟨ro, rc, hv, hsl⟩ := own_slU hol.symm hown
      rw [hol] at hv
      cases hv
      have HR : Hid (num os = num us * num vs) := hnum
      have HB : Hid (Below w.heap.size w wr) := BA.trans (hbel.mono (by omega))
      have lsz := hbel.size
      clear hown hnum hbel RA RB ka kb hzer BA B1 cA0 cA1 cB0 cB1 cR0 cR1 gR0 gR1
      go_wp2_with (first | (go_at_call 106; refine (trim_big (some ⟨w.heap.size + 1 + 1 + 1, 0, none⟩) (us.length + vs.length) (us.length + vs.length) (num us * num vs) os _ hol.symm (by omega) hsl hok HR.out).mono ?_; rintro e w9 ⟨rs, q, rfl, hB2, hle9, rfl⟩))
      all_goals have w0 : ∀ b : Bool, ((wr.drewN q).setCell ⟨w.heap.size + 1 + 1, 0, none⟩ (.bool b)).cell? ⟨w.heap.size + 1 + 1, 0, none⟩ = some (.bool b) := fun b => World.cell?_setCell_same (wr.drewN q) _ _ kR0
      all_goals have w1' : ∀ (b : Bool) (v : Value), (((wr.drewN q).setCell ⟨w.heap.size + 1 + 1, 0, none⟩ (.bool b)).setCell ⟨w.heap.size + 1 + 1, 1, none⟩ v).cell? ⟨w.heap.size + 1 + 1, 1, none⟩ = some v := fun b v => World.cell?_setCell_same _ _ _ (u := .slice none 0 0) ((other_cell _ (by simp) _).trans kR1)
      all_goals (try simp only [Exit.inBlock, Exit.then])
      all_goals refine bodyPost_ret (by simp [results, Tryd.results80, go_sem, w0, w1']; try rfl) rfl ?_
      · rename_i hpos
        have hp : 0 < num us * num vs := by
          rcases Nat.eq_zero_or_pos (num us * num vs) with h | h
          · have := (num_pos hB2.tr).1 (by rw [hB2.num]; exact h); omega
          · exact h
        refine ⟨_, rs, ?_, (hB2.drewN q).other (p := ⟨w.heap.size + 1 + 1, 0, none⟩) (by show w.heap.size + 1 + 1 + 1 ≠ w.heap.size + 1 + 1; omega) _ |>.other (p := ⟨w.heap.size + 1 + 1, 1, none⟩) (by show w.heap.size + 1 + 1 + 1 ≠ w.heap.size + 1 + 1; omega) _, hle9, ((below_drewN' HB.out q).setCell (p := ⟨w.heap.size + 1 + 1, 0, none⟩) (by show w.heap.size ≤ w.heap.size + 1 + 1; omega) _).setCell (p := ⟨w.heap.size + 1 + 1, 1, none⟩) (by show w.heap.size ≤ w.heap.size + 1 + 1; omega) _, fun b off l c e => by cases e; omega⟩
        rw [decide_eq_true hp]; cases na <;> cases nb <;> rfl
      · rename_i hpos
        have hp : ¬ 0 < num us * num vs := by
          have := (num_pos hB2.tr).2 (by omega)
          rw [hB2.num] at this; omega
        refine ⟨_, rs, ?_, (hB2.drewN q).other (p := ⟨w.heap.size + 1 + 1, 0, none⟩) (by show w.heap.size + 1 + 1 + 1 ≠ w.heap.size + 1 + 1; omega) _ |>.other (p := ⟨w.heap.size + 1 + 1, 1, none⟩) (by show w.heap.size + 1 + 1 + 1 ≠ w.heap.size + 1 + 1; omega) _, hle9, ((below_drewN' HB.out q).setCell (p := ⟨w.heap.size + 1 + 1, 0, none⟩) (by show w.heap.size ≤ w.heap.size + 1 + 1; omega) _).setCell (p := ⟨w.heap.size + 1 + 1, 1, none⟩) (by show w.heap.size ≤ w.heap.size + 1 + 1; omega) _, fun b off l c e => by cases e; omega⟩
        rw [decide_eq_false hp]; rfl
end Go.Proofs.YtdcodajjcaipdaaDoor

namespace Go.Proofs.YtdcodajjcaipdaaDoor
open RowKit

def addM (na nb : Bool) (a b : Nat) : Nat := if na = nb then a + b else if a < b then b - a else a - b
def addS (na nb : Bool) (a b : Nat) : Bool := if na = nb then na else if a = b then false else if a < b then nb else na
/-- three structs of whole numbers laid: two arguments, the answer -/
structure Laid3 (w : World) (na nb : Bool) (va vb : Value) (wA : World) : Prop where
  bel : Below w.heap.size w wA
  sz : wA.heap.size = w.heap.size + 1 + 1 + 1
  a0 : wA.cell? ⟨w.heap.size, 0, none⟩ = some (.bool na)
  a1 : wA.cell? ⟨w.heap.size, 1, none⟩ = some va
  b0 : wA.cell? ⟨w.heap.size + 1, 0, none⟩ = some (.bool nb)
  b1 : wA.cell? ⟨w.heap.size + 1, 1, none⟩ = some vb
  r0 : wA.cell? ⟨w.heap.size + 1 + 1, 0, none⟩ = some (.bool false)
  r1 : wA.cell? ⟨w.heap.size + 1 + 1, 1, none⟩ = some (.slice none 0 0)
  f0 : wA.frozen? ⟨w.heap.size + 1 + 1, 0, none⟩ = false
  f1 : wA.frozen? ⟨w.heap.size + 1 + 1, 1, none⟩ = false
theorem laid3 (w : World) (na nb : Bool) (va vb : Value) : Laid3 w na nb va vb (((w.alloc (.cells #[.bool na, va] 95)).alloc (.cells #[.bool nb, vb] 95)).alloc (.cells #[.bool false, .slice none 0 0] 95)) := by
  refine ⟨?_, by simp, ?_, ?_, ?_, ?_, ?_, ?_, ?_, ?_⟩
  · exact ((((Below.refl w.heap.size w).alloc (Nat.le_refl _) _).alloc (by simp) _).alloc (by simp; omega) _)
  · rw [World.cell?_alloc_lt _ _ _ (by simp; omega), World.cell?_alloc_lt _ _ _ (by simp)]; exact World.cell?_alloc_new w _ _ 0
  · rw [World.cell?_alloc_lt _ _ _ (by simp; omega), World.cell?_alloc_lt _ _ _ (by simp)]; exact World.cell?_alloc_new w _ _ 1
  · rw [World.cell?_alloc_lt _ _ _ (by simp)]; exact World.cell?_alloc_at _ _ _ _ (by simp)
  · rw [World.cell?_alloc_lt _ _ _ (by simp)]; exact World.cell?_alloc_at _ _ _ _ (by simp)
  · exact World.cell?_alloc_at _ _ _ _ (by simp)
  · exact World.cell?_alloc_at _ _ _ _ (by simp)
  · exact froz_new _ _ _ _ (by simp)
  · exact froz_new _ _ _ _ (by simp)
theorem Laid3.later {w wA w' : World} {na nb : Bool} {va vb : Value} (h : Laid3 w na nb va vb wA) (hb : Below wA.heap.size wA w') :
    Below w.heap.size w w' ∧ w.heap.size + 1 + 1 + 1 ≤ w'.heap.size ∧ w'.cell? ⟨w.heap.size, 0, none⟩ = some (.bool na) ∧ w'.cell? ⟨w.heap.size, 1, none⟩ = some va ∧ w'.cell? ⟨w.heap.size + 1, 0, none⟩ = some (.bool nb) ∧ w'.cell? ⟨w.heap.size + 1, 1, none⟩ = some vb ∧
      w'.cell? ⟨w.heap.size + 1 + 1, 0, none⟩ = some (.bool false) ∧ w'.cell? ⟨w.heap.size + 1 + 1, 1, none⟩ = some (.slice none 0 0) ∧ w'.frozen? ⟨w.heap.size + 1 + 1, 0, none⟩ = false ∧ w'.frozen? ⟨w.heap.size + 1 + 1, 1, none⟩ = false := by
  have hs := h.sz
  refine ⟨h.bel.trans (hb.mono (by omega)), by have := hb.size; omega, ?_, ?_, ?_, ?_, ?_, ?_, ?_, ?_⟩
  · rw [hb.cell (show w.heap.size < wA.heap.size by omega)]; exact h.a0
  · rw [hb.cell (show w.heap.size < wA.heap.size by omega)]; exact h.a1
  · rw [hb.cell (show w.heap.size + 1 < wA.heap.size by omega)]; exact h.b0
  · rw [hb.cell (show w.heap.size + 1 < wA.heap.size by omega)]; exact h.b1
  · rw [hb.cell (show w.heap.size + 1 + 1 < wA.heap.size by omega)]; exact h.r0
  · rw [hb.cell (show w.heap.size + 1 + 1 < wA.heap.size by omega)]; exact h.r1
  · rw [hb.frozen (show w.heap.size + 1 + 1 < wA.heap.size by omega)]; exact h.f0
  · rw [hb.frozen (show w.heap.size + 1 + 1 < wA.heap.size by omega)]; exact h.f1
theorem of_drew {n : Nat} {w w' : World} (h : Below n w.drew w') : Below n w w' := ⟨h.os, h.tape, h.output, h.size, h.block⟩
set_option maxRecDepth 10000 in
set_option maxHeartbeats 2000000 in
theorem wadd_same (na : Bool) (ao bo : Option Addr) (ca cb : Nat) (us vs : List Nat) (w : World) (hsa : us.length ≤ 90000) (hsb : vs.length ≤ 90000) (hc : SlU w ao ca us) (hd : SlU w bo cb vs) (ka : okW us) (kb : okW vs) :
    Calls Tryd.prog 79 #[.agg #[.bool na, .slice ao us.length ca], .agg #[.bool na, .slice bo vs.length cb]] w fun e w' => ∃ v rs, e = .returned (.agg #[.bool (addS na na (num us) (num vs)), v]) ∧ Big w' v (addM na na (num us) (num vs)) rs ∧ rs.length ≤ max us.length vs.length + 1 ∧ Below w.heap.size w w' ∧ Fr w.heap.size v := by
  obtain ⟨wA, hwA⟩ : ∃ wA, wA = (((w.alloc (.cells #[.bool na, .slice ao us.length ca] 95)).alloc (.cells #[.bool na, .slice bo vs.length cb] 95)).alloc (.cells #[.bool false, .slice none 0 0] 95)) := ⟨_, rfl⟩
  have hL : Laid3 w na na (.slice ao us.length ca) (.slice bo vs.length cb) wA := by rw [hwA]; exact laid3 w na na _ _
  have hs := hL.sz
  have RA := hc.rd.below hL.bel
  have RB := hd.rd.below hL.bel
  obtain ⟨_, _, a0, a1, b0, b1, r0, r1, f0, f1⟩ := hL.later (Below.refl _ _)
  · go_enter Tryd.func79, Tryd.ntmps79
    go_wp2_with fail
    rw [← hwA]
    clear hwA
    go_region_with (go_at_call 104; refine (wsum_any ao bo ca cb us vs wA.drew (by omega) (by omega) (show RdU wA.drew ao us from RA) (show RdU wA.drew bo vs from RB) ka kb).mono ?_; rintro e w1 ⟨v, rs, rfl, hB, hle, hb, hf⟩; have hB2 := hB; obtain ⟨⟨ra, rc, hv, _⟩, _, _, _⟩ := hB; subst hv; have hb := of_drew hb; obtain ⟨B1, _, a0', a1', b0', b1', r0', r1', f0', f1'⟩ := hL.later hb)
    all_goals
      have hf' : Fr (w.heap.size + 1 + 1 + 1) (.slice ra rs.length rc) := by rw [← hs]; exact hf
      have w0 := World.cell?_setCell_same w1 _ (.bool na) r0'
      have w2 : ∀ v : Value, ((w1.setCell ⟨w.heap.size + 1 + 1, 0, none⟩ (.bool na)).setCell ⟨w.heap.size + 1 + 1, 1, none⟩ v).cell? ⟨w.heap.size + 1 + 1, 1, none⟩ = some v := fun v => World.cell?_setCell_same _ _ _ (u := .slice none 0 0) ((other_cell _ (by simp) _).trans r1')
      clear RA RB ka kb hc hd hL a0 a1 b0 b1 r0 r1 f0 f1 hf
      go_wp2
      (try simp only [Exit.inBlock, Exit.then])
      refine bodyPost_ret (by simp [results, Tryd.results79, go_sem, w0, w2]; try rfl) rfl ?_
      refine ⟨_, rs, ?_, ?_, hle, (B1.setCell (p := ⟨w.heap.size + 1 + 1, 0, none⟩) (by show w.heap.size ≤ w.heap.size + 1 + 1; omega) _).setCell (p := ⟨w.heap.size + 1 + 1, 1, none⟩) (by show w.heap.size ≤ w.heap.size + 1 + 1; omega) _, fun b off l c e => by have := hf' b off l c e; omega⟩
      · unfold addS; rw [if_pos rfl]
      · unfold addM; rw [if_pos rfl]
        exact (hB2.other' hf' (p := ⟨w.heap.size + 1 + 1, 0, none⟩) (by show w.heap.size + 1 + 1 < w.heap.size + 1 + 1 + 1; omega) _).other' hf' (p := ⟨w.heap.size + 1 + 1, 1, none⟩) (by show w.heap.size + 1 + 1 < w.heap.size + 1 + 1 + 1; omega) _
end Go.Proofs.YtdcodajjcaipdaaDoor

namespace Go.Proofs.YtdcodajjcaipdaaDoor
open RowKit

theorem of_drewN {m n : Nat} {w w' : World} (h : Below m (w.drewN n) w') : Below m w w' := ⟨h.os, h.tape, h.output, h.size, h.block⟩
theorem SlU.some {w : World} {ao : Option Addr} {cap : Nat} {ws : List Nat} (h : SlU w ao cap ws) (h0 : 0 < ws.length) : ∃ g off, ao = Option.some ⟨g, off, none⟩ := by
  rcases h.shape with ⟨_, h1⟩ | h1
  · have := h.cap; omega
  · exact h1
theorem len_pos {ws : List Nat} (h : 0 < num ws) : 0 < ws.length := by
  rcases Nat.eq_zero_or_pos ws.length with h0 | h0
  · rw [List.length_eq_zero_iff.1 h0] at h; simp [num] at h
  · exact h0
theorem len_le {us vs : List Nat} (_ : okW us) (kb : okW vs) (ta : trimW us) (h : num us ≤ num vs) : us.length ≤ vs.length := by
  rcases Nat.lt_or_ge vs.length us.length with h1 | h1
  · have := cm_len kb ta h1; omega
  · exact h1
theorem wless_sl (ca cb : Nat) (ao bo : Option Addr) (us vs : List Nat) (w : World) (hsa : us.length ≤ 100000) (hsb : vs.length ≤ us.length) (hle : num vs ≤ num us) (h0 : 0 < us.length) (hc : SlU w ao ca us) (hd : RdU w bo vs) (ka : okW us) (kb : okW vs) :
    Calls Tryd.prog 105 #[.slice ao us.length ca, .slice bo vs.length cb] w fun e w' => ∃ v rs, e = .returned v ∧ Big w' v (num us - num vs) rs ∧ rs.length ≤ us.length ∧ Below w.heap.size w w' ∧ Fr w.heap.size v := by
  obtain ⟨g, off, rfl⟩ := hc.some h0
  exact wless_any g off ca cb bo us vs w hsa hsb hle h0 hc.rd hd ka kb

theorem big_nil (w : World) : Big w (.slice none 0 0) 0 [] := ⟨⟨none, 0, rfl, fun k hk => by simp at hk, .inl ⟨rfl, rfl⟩, Nat.le_refl _⟩, fun x hx => by simp at hx, fun h => by simp at h, rfl⟩

end Go.Proofs.YtdcodajjcaipdaaDoor

namespace Go.Proofs.YtdcodajjcaipdaaDoor
open RowKit

/-- a struct of a sign and words that stands for a whole number -/
def IntZ (w : World) (v : Value) (z : Int) (L : Nat) : Prop := ∃ ao cap ws, v = .agg #[.bool (decide (z < 0)), .slice ao ws.length cap] ∧ SlU w ao cap ws ∧ okW ws ∧ trimW ws ∧ num ws = z.natAbs ∧ ws.length ≤ L
theorem IntZ.below {w w' : World} {v : Value} {z : Int} {L : Nat} (h : IntZ w v z L) (hb : Below w.heap.size w w') : IntZ w' v z L := by
  obtain ⟨ao, cap, ws, h1, h2, h3⟩ := h
  exact ⟨ao, cap, ws, h1, h2.below hb, h3⟩
theorem IntZ.drewN {w : World} {v : Value} {z : Int} {L : Nat} (h : IntZ w v z L) (n : Nat) : IntZ (w.drewN n) v z L := by
  obtain ⟨ao, cap, ws, h1, h2, h3⟩ := h
  exact ⟨ao, cap, ws, h1, h2.drewN n, h3⟩
theorem IntZ.mono {w : World} {v : Value} {z : Int} {L L' : Nat} (h : IntZ w v z L) (hl : L ≤ L') : IntZ w v z L' := by
  obtain ⟨ao, cap, ws, h1, h2, h3, h4, h5, h6⟩ := h
  exact ⟨ao, cap, ws, h1, h2, h3, h4, h5, by omega⟩
def cmZ (a b : Int) : Int := if a < b then -1 else if a = b then 0 else 1

end Go.Proofs.YtdcodajjcaipdaaDoor

namespace Go.Proofs.YtdcodajjcaipdaaDoor
open RowKit
set_option linter.unusedVariables false

set_option maxRecDepth 10000 in
set_option maxHeartbeats 4000000 in
theorem wadd_lt (na nb : Bool) (hn : ¬ na = nb) (ao bo : Option Addr) (ca cb : Nat) (us vs : List Nat) (w : World) (hsa : us.length ≤ 90000) (hsb : vs.length ≤ 90000) (hc : SlU w ao ca us) (hd : SlU w bo cb vs) (ka : okW us) (kb : okW vs) (ta : trimW us) (tb : trimW vs) (hlt : num us < num vs) :
    Calls Tryd.prog 79 #[.agg #[.bool na, .slice ao us.length ca], .agg #[.bool nb, .slice bo vs.length cb]] w fun e w' => ∃ v rs, e = .returned (.agg #[.bool (addS na nb (num us) (num vs)), v]) ∧ Big w' v (addM na nb (num us) (num vs)) rs ∧ rs.length ≤ max us.length vs.length + 1 ∧ Below w.heap.size w w' ∧ Fr w.heap.size v := by
  obtain ⟨wA, hwA⟩ : ∃ wA, wA = (((w.alloc (.cells #[.bool na, .slice ao us.length ca] 95)).alloc (.cells #[.bool nb, .slice bo vs.length cb] 95)).alloc (.cells #[.bool false, .slice none 0 0] 95)) := ⟨_, rfl⟩
  have hL : Laid3 w na nb (.slice ao us.length ca) (.slice bo vs.length cb) wA := by rw [hwA]; exact laid3 w na nb _ _
  have hs := hL.sz
  have RA := hc.rd.below hL.bel
  have RB := hd.rd.below hL.bel
  obtain ⟨_, _, a0, a1, b0, b1, r0, r1, f0, f1⟩ := hL.later (Below.refl _ _)
  have hnb : (na == nb) = false := beq_false_of_ne hn
  have hcm : cmI (num us) (num vs) = -1 := by unfold cmI; rw [if_pos hlt]
  have hS : addS na nb (num us) (num vs) = nb := by unfold addS; rw [if_neg hn, if_neg (by omega), if_pos hlt]
  have hM : addM na nb (num us) (num vs) = num vs - num us := by unfold addM; rw [if_neg hn, if_pos hlt]
  have hpos := len_pos (ws := vs) (by omega)
  have hll := len_le ka kb ta (Nat.le_of_lt hlt)
  have hq := wcmp_any ao bo ca cb us vs wA (by omega) RA RB ka kb ta tb
  rw [hcm] at hq
  go_enter Tryd.func79, Tryd.ntmps79
  go_wp2_with fail
  rw [← hwA]
  clear hwA
  refine hq.mono ?_
  rintro e w' ⟨n, rfl, rfl⟩
  clear hq hcm
  go_wp2_with fail
  go_region_with (go_at_call 105; refine (wless_sl cb ca bo ao vs us (wA.drewN n).drew (by omega) hll (by omega) hpos (show SlU (wA.drewN n).drew bo cb vs from ⟨RB, hd.shape, hd.cap⟩) (show RdU (wA.drewN n).drew ao us from RA) kb ka).mono ?_; rintro e w1 ⟨v, rs, rfl, hB, hle, hb, hf⟩; have hB2 := hB; obtain ⟨⟨ra, rc, hv, _⟩, _, _, _⟩ := hB; subst hv; have hb := of_drew hb; obtain ⟨B1, _, a0', a1', b0', b1', r0', r1', f0', f1'⟩ := hL.later (of_drewN hb))
  all_goals
    have hf' : Fr (w.heap.size + 1 + 1 + 1) (.slice ra rs.length rc) := by rw [← hs]; exact hf
    have w0 := World.cell?_setCell_same w1 _ (.bool nb) r0'
    have w2 : ∀ v : Value, ((w1.setCell ⟨w.heap.size + 1 + 1, 0, none⟩ (.bool nb)).setCell ⟨w.heap.size + 1 + 1, 1, none⟩ v).cell? ⟨w.heap.size + 1 + 1, 1, none⟩ = some v := fun v => World.cell?_setCell_same _ _ _ (u := .slice none 0 0) ((other_cell _ (by simp) _).trans r1')
    clear RA RB ka kb ta tb hc hd hL a0 a1 b0 b1 r0 r1 f0 f1 hf hnb
    go_wp2
    (try simp only [Exit.inBlock, Exit.then])
    refine bodyPost_ret (by simp [results, Tryd.results79, go_sem, w0, w2]; try rfl) rfl ?_
    refine ⟨_, rs, ?_, ?_, by omega, (B1.setCell (p := ⟨w.heap.size + 1 + 1, 0, none⟩) (by show w.heap.size ≤ w.heap.size + 1 + 1; omega) _).setCell (p := ⟨w.heap.size + 1 + 1, 1, none⟩) (by show w.heap.size ≤ w.heap.size + 1 + 1; omega) _, fun b off l c e => by have := hf' b off l c e; omega⟩
    · rw [hS]
    · rw [hM]
      exact (hB2.other' hf' (p := ⟨w.heap.size + 1 + 1, 0, none⟩) (by show w.heap.size + 1 + 1 < w.heap.size + 1 + 1 + 1; omega) _).other' hf' (p := ⟨w.heap.size + 1 + 1, 1, none⟩) (by show w.heap.size + 1 + 1 < w.heap.size + 1 + 1 + 1; omega) _
end Go.Proofs.YtdcodajjcaipdaaDoor

namespace Go.Proofs.YtdcodajjcaipdaaDoor
open RowKit
set_option linter.unusedVariables false

set_option maxRecDepth 10000 in
set_option maxHeartbeats 4000000 in
theorem wadd_eq (na nb : Bool) (hn : ¬ na = nb) (ao bo : Option Addr) (ca cb : Nat) (us vs : List Nat) (w : World) (hsa : us.length ≤ 90000) (hsb : vs.length ≤ 90000) (hc : SlU w ao ca us) (hd : SlU w bo cb vs) (ka : okW us) (kb : okW vs) (ta : trimW us) (tb : trimW vs) (heq : num us = num vs) :
    Calls Tryd.prog 79 #[.agg #[.bool na, .slice ao us.length ca], .agg #[.bool nb, .slice bo vs.length cb]] w fun e w' => ∃ v rs, e = .returned (.agg #[.bool (addS na nb (num us) (num vs)), v]) ∧ Big w' v (addM na nb (num us) (num vs)) rs ∧ rs.length ≤ max us.length vs.length + 1 ∧ Below w.heap.size w w' ∧ Fr w.heap.size v := by
  obtain ⟨wA, hwA⟩ : ∃ wA, wA = (((w.alloc (.cells #[.bool na, .slice ao us.length ca] 95)).alloc (.cells #[.bool nb, .slice bo vs.length cb] 95)).alloc (.cells #[.bool false, .slice none 0 0] 95)) := ⟨_, rfl⟩
  have hL : Laid3 w na nb (.slice ao us.length ca) (.slice bo vs.length cb) wA := by rw [hwA]; exact laid3 w na nb _ _
  have hs := hL.sz
  have RA := hc.rd.below hL.bel
  have RB := hd.rd.below hL.bel
  obtain ⟨_, _, a0, a1, b0, b1, r0, r1, f0, f1⟩ := hL.later (Below.refl _ _)
  have hnb : (na == nb) = false := beq_false_of_ne hn
  have hcm : cmI (num us) (num vs) = 0 := by unfold cmI; rw [if_neg (by omega), if_pos heq]
  have hS : addS na nb (num us) (num vs) = false := by unfold addS; rw [if_neg hn, if_pos heq]
  have hM : addM na nb (num us) (num vs) = 0 := by unfold addM; rw [if_neg hn, if_neg (by omega)]; omega
  have hq := wcmp_any ao bo ca cb us vs wA (by omega) RA RB ka kb ta tb
  rw [hcm] at hq
  go_enter Tryd.func79, Tryd.ntmps79
  go_wp2_with fail
  rw [← hwA]
  clear hwA
  refine hq.mono ?_
  rintro e w' ⟨n, rfl, rfl⟩
  clear hq hcm
  obtain ⟨B1, _, _, _, _, _, r0', r1', f0', f1'⟩ := hL.later (below_drewN' (Below.refl _ _) n)
  clear RA RB ka kb ta tb hc hd hL a0 a1 b0 b1 r0 r1 f0 f1
  go_wp2
  (try simp only [Exit.inBlock, Exit.then])
  have w0 := World.cell?_setCell_same (wA.drewN n) _ (.bool false) r0'
  have w2 : ∀ v : Value, (((wA.drewN n).setCell ⟨w.heap.size + 1 + 1, 0, none⟩ (.bool false)).setCell ⟨w.heap.size + 1 + 1, 1, none⟩ v).cell? ⟨w.heap.size + 1 + 1, 1, none⟩ = some v := fun v => World.cell?_setCell_same _ _ _ (u := .slice none 0 0) ((other_cell _ (by simp) _).trans r1')
  refine bodyPost_ret (by simp [results, Tryd.results79, go_sem, w0, w2]; try rfl) rfl ?_
  refine ⟨.slice none 0 0, [], ?_, ?_, by simp, (B1.setCell (p := ⟨w.heap.size + 1 + 1, 0, none⟩) (by show w.heap.size ≤ w.heap.size + 1 + 1; omega) _).setCell (p := ⟨w.heap.size + 1 + 1, 1, none⟩) (by show w.heap.size ≤ w.heap.size + 1 + 1; omega) _, fun b off l c e => by cases e⟩
  · rw [hS]
  · rw [hM]; exact big_nil _
end Go.Proofs.YtdcodajjcaipdaaDoor

namespace Go.Proofs.YtdcodajjcaipdaaDoor
open RowKit
set_option linter.unusedVariables false

set_option maxRecDepth 10000 in
set_option maxHeartbeats 4000000 in
theorem wadd_gt (na nb : Bool) (hn : ¬ na = nb) (ao bo : Option Addr) (ca cb : Nat) (us vs : List Nat) (w : World) (hsa : us.length ≤ 90000) (hsb : vs.length ≤ 90000) (hc : SlU w ao ca us) (hd : SlU w bo cb vs) (ka : okW us) (kb : okW vs) (ta : trimW us) (tb : trimW vs) (hgt : num vs < num us) :
    Calls Tryd.prog 79 #[.agg #[.bool na, .slice ao us.length ca], .agg #[.bool nb, .slice bo vs.length cb]] w fun e w' => ∃ v rs, e = .returned (.agg #[.bool (addS na nb (num us) (num vs)), v]) ∧ Big w' v (addM na nb (num us) (num vs)) rs ∧ rs.length ≤ max us.length vs.length + 1 ∧ Below w.heap.size w w' ∧ Fr w.heap.size v := by
  obtain ⟨wA, hwA⟩ : ∃ wA, wA = (((w.alloc (.cells #[.bool na, .slice ao us.length ca] 95)).alloc (.cells #[.bool nb, .slice bo vs.length cb] 95)).alloc (.cells #[.bool false, .slice none 0 0] 95)) := ⟨_, rfl⟩
  have hL : Laid3 w na nb (.slice ao us.length ca) (.slice bo vs.length cb) wA := by rw [hwA]; exact laid3 w na nb _ _
  have hs := hL.sz
  have RA := hc.rd.below hL.bel
  have RB := hd.rd.below hL.bel
  obtain ⟨_, _, a0, a1, b0, b1, r0, r1, f0, f1⟩ := hL.later (Below.refl _ _)
  have hnb : (na == nb) = false := beq_false_of_ne hn
  have hcm : cmI (num us) (num vs) = 1 := by unfold cmI; rw [if_neg (by omega), if_neg (by omega)]
  have hS : addS na nb (num us) (num vs) = na := by unfold addS; rw [if_neg hn, if_neg (by omega), if_neg (by omega)]
  have hM : addM na nb (num us) (num vs) = num us - num vs := by unfold addM; rw [if_neg hn, if_neg (by omega)]
  have hpos := len_pos (ws := us) (by omega)
  have hll := len_le kb ka tb (Nat.le_of_lt hgt)
  have hq := wcmp_any ao bo ca cb us vs wA (by omega) RA RB ka kb ta tb
  rw [hcm] at hq
  go_enter Tryd.func79, Tryd.ntmps79
  go_wp2_with fail
  rw [← hwA]
  clear hwA
  refine hq.mono ?_
  rintro e w' ⟨n, rfl, rfl⟩
  clear hq hcm
  go_wp2_with fail
  go_region_with (go_at_call 105; refine (wless_sl ca cb ao bo us vs (wA.drewN n).drew (by omega) hll (by omega) hpos (show SlU (wA.drewN n).drew ao ca us from ⟨RA, hc.shape, hc.cap⟩) (show RdU (wA.drewN n).drew bo vs from RB) ka kb).mono ?_; rintro e w1 ⟨v, rs, rfl, hB, hle, hb, hf⟩; have hB2 := hB; obtain ⟨⟨ra, rc, hv, _⟩, _, _, _⟩ := hB; subst hv; have hb := of_drew hb; obtain ⟨B1, _, a0', a1', b0', b1', r0', r1', f0', f1'⟩ := hL.later (of_drewN hb))
  all_goals
    have hf' : Fr (w.heap.size + 1 + 1 + 1) (.slice ra rs.length rc) := by rw [← hs]; exact hf
    have w0 := World.cell?_setCell_same w1 _ (.bool na) r0'
    have w2 : ∀ v : Value, ((w1.setCell ⟨w.heap.size + 1 + 1, 0, none⟩ (.bool na)).setCell ⟨w.heap.size + 1 + 1, 1, none⟩ v).cell? ⟨w.heap.size + 1 + 1, 1, none⟩ = some v := fun v => World.cell?_setCell_same _ _ _ (u := .slice none 0 0) ((other_cell _ (by simp) _).trans r1')
    clear RA RB ka kb ta tb hc hd hL a0 a1 b0 b1 r0 r1 f0 f1 hf hnb
    go_wp2
    (try simp only [Exit.inBlock, Exit.then])
    refine bodyPost_ret (by simp [results, Tryd.results79, go_sem, w0, w2]; try rfl) rfl ?_
    refine ⟨_, rs, ?_, ?_, by omega, (B1.setCell (p := ⟨w.heap.size + 1 + 1, 0, none⟩) (by show w.heap.size ≤ w.heap.size + 1 + 1; omega) _).setCell (p := ⟨w.heap.size + 1 + 1, 1, none⟩) (by show w.heap.size ≤ w.heap.size + 1 + 1; omega) _, fun b off l c e => by have := hf' b off l c e; omega⟩
    · rw [hS]
    · rw [hM]
      exact (hB2.other' hf' (p := ⟨w.heap.size + 1 + 1, 0, none⟩) (by show w.heap.size + 1 + 1 < w.heap.size + 1 + 1 + 1; omega) _).other' hf' (p := ⟨w.heap.size + 1 + 1, 1, none⟩) (by show w.heap.size + 1 + 1 < w.heap.size + 1 + 1 + 1; omega) _
end Go.Proofs.YtdcodajjcaipdaaDoor

namespace Go.Proofs.YtdcodajjcaipdaaDoor
open RowKit

/-- the block in which a number's words lie, if it has any -/
def Hb (v : Value) (b : Nat) : Prop := ∃ s off l c, v = .agg #[s, .slice (some ⟨b, off, none⟩) l c] ∧ 0 < l
def FrZ (n : Nat) (v : Value) : Prop := ∀ b, Hb v b → n ≤ b
theorem FrZ.mono {n m : Nat} {v : Value} (h : FrZ n v) (hm : m ≤ n) : FrZ m v := fun b hb => Nat.le_trans hm (h b hb)
theorem frz_of {n : Nat} {s : Value} {sl : Value} (h : Fr n sl) : FrZ n (.agg #[s, sl]) := by
  rintro b ⟨s', off, l, c, e, _⟩
  simp at e
  exact h b off l c e.2
theorem intZ_of {w : World} {v : Value} {m : Nat} {rs : List Nat} {z : Int} {s : Bool} {L : Nat} (hB : Big w v m rs) (hm : m = z.natAbs) (hs : s = decide (z < 0)) (hl : rs.length ≤ L) : IntZ w (.agg #[.bool s, v]) z L := by
  obtain ⟨⟨ao, cap, rfl, h2⟩, h3, h4, h5⟩ := hB
  exact ⟨ao, cap, rs, by rw [hs], h2, h3, h4, by rw [h5, hm], hl⟩
theorem IntZ.set {w : World} {v : Value} {z : Int} {L : Nat} (h : IntZ w v z L) {p : Addr} (hp : ∀ b, Hb v b → b ≠ p.block) (x : Value) : IntZ (w.setCell p x) v z L := by
  obtain ⟨ao, cap, ws, rfl, h2, h3⟩ := h
  refine ⟨ao, cap, ws, rfl, ⟨?_, h2.shape, h2.cap⟩, h3⟩
  intro k hk
  obtain ⟨b, off, h1, h4, h5⟩ := h2.rd k hk
  subst h1
  exact h2.rd.other (fun b' off' e => by cases e; exact hp _ ⟨_, off, _, _, rfl, by omega⟩) x k hk
/-- the number's words lie in memory that there is -/
theorem IntZ.lies {w : World} {v : Value} {z : Int} {L b : Nat} (h : IntZ w v z L) (hb : Hb v b) : b < w.heap.size := by
  obtain ⟨ao, cap, ws, rfl, h2, h3⟩ := h
  obtain ⟨s', off, l, c, e, hl⟩ := hb
  simp at e
  obtain ⟨_, rfl, rfl, rfl⟩ := e
  obtain ⟨b', off', h1, h4, h5⟩ := h2.rd 0 hl
  cases h1
  exact h4

theorem waddZ_any {va vb : Value} {x y : Int} {La Lb : Nat} (w : World) (ha : IntZ w va x La) (hb : IntZ w vb y Lb) (hLa : La ≤ 90000) (hLb : Lb ≤ 90000) :
    Calls Tryd.prog 79 #[va, vb] w fun e w' => ∃ v, e = .returned v ∧ IntZ w' v (x + y) (max La Lb + 1) ∧ FrZ w.heap.size v ∧ Below w.heap.size w w' := by
  obtain ⟨ao, ca, us, rfl, hc, ka, ta, nu, hu⟩ := ha
  obtain ⟨bo, cb, vs, rfl, hd, kb, tb, nv, hv⟩ := hb
  by_cases hn : decide (x < 0) = decide (y < 0)
  · rw [← hn]
    refine (wadd_same _ ao bo ca cb us vs w (by omega) (by omega) hc hd ka kb).mono ?_
    rintro e w' ⟨v, rs, rfl, hB, hl, hbel, hf⟩
    refine ⟨_, rfl, intZ_of hB ?_ ?_ (by omega), frz_of hf, hbel⟩
    · unfold addM; rw [if_pos rfl, nu, nv]; simp at hn; omega
    · unfold addS; rw [if_pos rfl]; simp at hn ⊢; omega
  · have H := hn
    simp at H
    rcases Nat.lt_trichotomy (num us) (num vs) with h | h | h
    · refine (wadd_lt _ _ hn ao bo ca cb us vs w (by omega) (by omega) hc hd ka kb ta tb h).mono ?_
      rintro e w' ⟨v, rs, rfl, hB, hl, hbel, hf⟩
      refine ⟨_, rfl, intZ_of hB ?_ ?_ (by omega), frz_of hf, hbel⟩
      · unfold addM; rw [if_neg hn, if_pos h, nu, nv]; rw [nu, nv] at h; omega
      · unfold addS; rw [if_neg hn, if_neg (by omega), if_pos h]; rw [nu, nv] at h; simp; omega
    · refine (wadd_eq _ _ hn ao bo ca cb us vs w (by omega) (by omega) hc hd ka kb ta tb h).mono ?_
      rintro e w' ⟨v, rs, rfl, hB, hl, hbel, hf⟩
      refine ⟨_, rfl, intZ_of hB ?_ ?_ (by omega), frz_of hf, hbel⟩
      · unfold addM; rw [if_neg hn, if_neg (by omega), nu, nv]; rw [nu, nv] at h; omega
      · unfold addS; rw [if_neg hn, if_pos h]; rw [nu, nv] at h; symm; rw [decide_eq_false_iff_not]; omega
    · refine (wadd_gt _ _ hn ao bo ca cb us vs w (by omega) (by omega) hc hd ka kb ta tb h).mono ?_
      rintro e w' ⟨v, rs, rfl, hB, hl, hbel, hf⟩
      refine ⟨_, rfl, intZ_of hB ?_ ?_ (by omega), frz_of hf, hbel⟩
      · unfold addM; rw [if_neg hn, if_neg (by omega), nu, nv]; rw [nu, nv] at h; omega
      · unfold addS; rw [if_neg hn, if_neg (by omega), if_neg (by omega)]; rw [nu, nv] at h; simp; omega

theorem mul_sign (x y : Int) : (decide (0 < x.natAbs * y.natAbs) && (decide (x < 0) != decide (y < 0))) = decide (x * y < 0) := by
  rcases Int.lt_trichotomy x 0 with hx | hx | hx
  · have nx : decide (x < 0) = true := decide_eq_true hx
    rcases Int.lt_trichotomy y 0 with hy | hy | hy
    · rw [nx, decide_eq_true hy, decide_eq_false (show ¬ x * y < 0 by have := Int.mul_pos_of_neg_of_neg hx hy; omega)]; simp
    · subst hy; simp
    · rw [nx, decide_eq_false (show ¬ y < 0 by omega), decide_eq_true (Int.mul_neg_of_neg_of_pos hx hy), decide_eq_true (Nat.mul_pos (by omega) (by omega))]; rfl
  · subst hx; simp
  · have nx : decide (x < 0) = false := decide_eq_false (by omega)
    rcases Int.lt_trichotomy y 0 with hy | hy | hy
    · rw [nx, decide_eq_true hy, decide_eq_true (Int.mul_neg_of_pos_of_neg hx hy), decide_eq_true (Nat.mul_pos (by omega) (by omega))]; rfl
    · subst hy; simp
    · rw [nx, decide_eq_false (show ¬ y < 0 by omega), decide_eq_false (show ¬ x * y < 0 by have := Int.mul_pos hx hy; omega)]; simp
theorem wmulZ_any {va vb : Value} {x y : Int} {La Lb : Nat} (w : World) (ha : IntZ w va x La) (hb : IntZ w vb y Lb) (hLa : La ≤ 90000) (hLb : Lb ≤ 90000) :
    Calls Tryd.prog 80 #[va, vb] w fun e w' => ∃ v, e = .returned v ∧ IntZ w' v (x * y) (La + Lb) ∧ FrZ w.heap.size v ∧ Below w.heap.size w w' := by
  obtain ⟨ao, ca, us, rfl, hc, ka, ta, nu, hu⟩ := ha
  obtain ⟨bo, cb, vs, rfl, hd, kb, tb, nv, hv⟩ := hb
  refine (wmul_any _ _ ao bo ca cb us vs w (by omega) (by omega) hc.rd hd.rd ka kb).mono ?_
  rintro e w' ⟨v, rs, rfl, hB, hl, hbel, hf⟩
  refine ⟨_, rfl, intZ_of hB ?_ ?_ (by omega), frz_of hf, hbel⟩
  · rw [nu, nv, Int.natAbs_mul]
  · rw [nu, nv]
    exact mul_sign x y

end Go.Proofs.YtdcodajjcaipdaaDoor

namespace Go.Proofs.YtdcodajjcaipdaaDoor
open RowKit

/-- how many binary digits -/
def nbits : Nat → Nat
  | 0 => 0
  | n + 1 => 1 + nbits ((n + 1) / 2)
decreasing_by omega
theorem nbits_zero : nbits 0 = 0 := by unfold nbits; rfl
theorem nbits_pos {n : Nat} (h : 0 < n) : nbits n = 1 + nbits (n / 2) := by
  cases n with
  | zero => omega
  | succ n => rw [nbits]

theorem nbits_lt (m : Nat) : m < 2 ^ nbits m := by
  induction m using Nat.strongRecOn with
  | _ m ih =>
    rcases Nat.eq_zero_or_pos m with h | h
    · subst h; rw [nbits_zero]; decide
    · rw [nbits_pos h, Nat.add_comm, Nat.pow_succ]
      have := ih (m / 2) (by omega)
      omega
theorem nbits_ge {m : Nat} (h : 0 < m) : 2 ^ nbits m ≤ 2 * m := by
  induction m using Nat.strongRecOn with
  | _ m ih =>
    rw [nbits_pos h, Nat.add_comm, Nat.pow_succ]
    rcases Nat.eq_zero_or_pos (m / 2) with h2 | h2
    · rw [h2, nbits_zero]; omega
    · have := ih (m / 2) (by omega) h2
      omega
theorem pow_le {a b : Nat} (h : (2 : Nat) ^ a < 2 ^ b) : a < b := by
  rcases Nat.lt_or_ge a b with h1 | h1
  · exact h1
  · have := Nat.pow_le_pow_right (n := 2) (by decide) h1; omega
/-- how many digits, by the powers about it -/
theorem nbits_eq {m k : Nat} (h0 : 2 ^ k ≤ 2 * m) (h1 : m < 2 ^ k) : nbits m = k := by
  have hm : 0 < m := by
    rcases Nat.eq_zero_or_pos m with h | h
    · subst h; have := Nat.two_pow_pos k; omega
    · exact h
  have a := nbits_lt m
  have b := nbits_ge hm
  have c : nbits m < k + 1 := pow_le (by rw [Nat.pow_succ]; omega)
  have d : k < nbits m + 1 := pow_le (by rw [Nat.pow_succ]; omega)
  omega
theorem nbits_le {m k : Nat} (h : m < 2 ^ k) : nbits m ≤ k := by
  rcases Nat.eq_zero_or_pos m with h0 | h0
  · subst h0; rw [nbits_zero]; exact Nat.zero_le _
  · have b := nbits_ge h0
    have c : nbits m < k + 1 := pow_le (by rw [Nat.pow_succ]; omega)
    omega
theorem pow32 (n : Nat) : (4294967296 : Nat) ^ n = 2 ^ (32 * n) := by rw [Nat.pow_mul]
theorem nbits_words {us : List Nat} {n u : Nat} (ka : okW us) (hn : us.length = n + 1) (hu : u = us.getD n 0) (h0 : u ≠ 0) : nbits (num us) = 32 * n + nbits u := by
  have h1 := num_split us n (by omega)
  have h2 := num_lt (okW_take ka n)
  have hl : (us.take n).length = n := by rw [List.length_take]; omega
  have hd : us.drop (n + 1) = [] := List.drop_eq_nil_of_le (by omega)
  rw [hl, pow32] at h2
  rw [hd, ← hu, pow32] at h1
  have hz : num ([] : List Nat) = 0 := rfl
  rw [hz, Nat.mul_zero, Nat.add_zero] at h1
  have a := nbits_lt u
  have b := nbits_ge (m := u) (by omega)
  generalize hP : (2 : Nat) ^ (32 * n) = P at *
  apply nbits_eq
  · rw [Nat.pow_add, hP, h1]
    calc P * 2 ^ nbits u ≤ P * (2 * u) := Nat.mul_le_mul_left _ b
      _ ≤ 2 * (num (us.take n) + P * u) := by rw [Nat.mul_left_comm]; omega
  · rw [Nat.pow_add, hP, h1]
    calc num (us.take n) + P * u < P + P * u := by omega
      _ = P * (u + 1) := by rw [Nat.mul_add, Nat.mul_one, Nat.add_comm]
      _ ≤ P * 2 ^ nbits u := Nat.mul_le_mul_left _ a

set_option maxRecDepth 10000 in
set_option maxHeartbeats 1000000 in
theorem wbits_any {va : Value} {x : Int} {La : Nat} (w : World) (ha : IntZ w va x La) (hLa : La ≤ 90000) :
    Calls Tryd.prog 84 #[va] w fun e w' => e = .returned (.int .i64 (nbits x.natAbs)) ∧ Below w.heap.size w w' := by
  obtain ⟨ao, ca, us, rfl, hc, ka, ta, nu, hu⟩ := ha
  have BA : ∀ c, Below w.heap.size w (w.alloc c) := fun c => (Below.refl w.heap.size w).alloc (Nat.le_refl _) _
  have HN : Hid (num us = x.natAbs) := nu
  obtain ⟨sg, hsg⟩ : ∃ sg, sg = decide (x < 0) := ⟨_, rfl⟩
  rw [← hsg]
  clear hsg nu
  by_cases h0 : us.length = 0
  · have hz : x.natAbs = 0 := by rw [← HN.out, List.length_eq_zero_iff.1 h0]; rfl
    rw [hz, nbits_zero, h0]
    clear hz HN hu hLa
    go_enter Tryd.func84, Tryd.ntmps84
    go_wp2
    go_ret
    exact ⟨rfl, BA _⟩
  · obtain ⟨n, hn⟩ : ∃ n, us.length = n + 1 := ⟨us.length - 1, by omega⟩
    obtain ⟨g, off, rfl, hb, hcell⟩ := hc.rd n (by omega)
    have ku := okW_getD ka n
    obtain ⟨u, hu'⟩ : ∃ u, u = us.getD n 0 := ⟨_, rfl⟩
    rw [← hu'] at hcell ku
    have HU : Hid (u = us.getD n 0) := hu'
    have hn9 : n ≤ 90000 := by omega
    rw [hn]
    have hcA : ∀ c, (w.alloc c).cell? ⟨g, off + n, none⟩ = some (.int .u32 (u : Int)) := fun c => by rw [(BA c).cell (show g < w.heap.size from hb)]; exact hcell
    have hu0 : u ≠ 0 := by have := ta (by omega); rw [hn] at this; rw [hu']; exact this
    have HR : Hid (nbits x.natAbs = 32 * n + nbits u) := by show _ = _; rw [← HN.out]; exact nbits_words ka hn hu' hu0
    have hb32 : nbits u ≤ 32 := nbits_le (by omega)
    clear hu hLa h0 hu' hcell hc ka ta hu0
    go_enter Tryd.func84, Tryd.ntmps84
    go_wp2_with fail
    obtain ⟨w1, hw1⟩ : ∃ w1, w1 = w.alloc (.cells #[.bool sg, .slice (some ⟨g, off, none⟩) (n + 1) ca] 95) := ⟨_, rfl⟩
    have hB1 : Below w.heap.size w w1 := by rw [hw1]; exact BA _
    rw [← hw1]
    clear hw1 hcA BA
    go_loopw [3, 4] (fun nv xv wr => ∃ N X : Nat, nv = .int .i64 (N : Int) ∧ xv = .int .u32 (X : Int) ∧ X < 4294967296 ∧ N + nbits X = 32 * n + nbits u ∧ wr = w1) (fun _ xv _ => (intOf xv).toNat)
    case atStart => exact ⟨32 * n, u, by simp, rfl, ku, rfl, rfl⟩
    case round =>
      obtain ⟨N, X, rfl, rfl, hX, hN, rfl⟩ := hrel
      by_cases hX0 : 0 < X
      · have hp := nbits_pos hX0
        have HN' : Hid (N + nbits X = 32 * n + nbits u) := hN
        have hNb : N ≤ 3000000 := by omega
        clear hN
        go_wp2
        case roundEnd =>
          exact ⟨⟨N + 1, X / 2, by simp, by simp, by omega, by have := HN'.out; omega, trivial⟩, by simp [intOf]; omega⟩
      · obtain rfl : X = 0 := by omega
        rw [nbits_zero] at hN
        go_wp2
        go_ret
        refine ⟨ret1i ?_, hB1⟩
        rw [HR.out]; omega

set_option maxRecDepth 10000 in
set_option maxHeartbeats 1000000 in
theorem wof_any (n : Nat) (hn : n < 18446744073709551616) (w : World) :
    Calls Tryd.prog 81 #[.int .u64 (n : Int)] w fun e w' => ∃ v, e = .returned v ∧ IntZ w' v (n : Int) 2 ∧ FrZ w.heap.size v ∧ Below w.heap.size w w' := by
  obtain ⟨wA, hwA⟩ : ∃ wA, wA = (w.alloc (.cells #[.bool false, .slice none 0 0] 95)).alloc (.cells #[.int .u32 ((n : Int) % 4294967296), .int .u32 ((n : Int) / 4294967296)] 107) := ⟨_, rfl⟩
  have hS : SlU wA (some ⟨w.heap.size + 1, 0, none⟩) 2 [n % 4294967296, n / 4294967296] := by
    refine ⟨?_, .inr ⟨_, _, rfl⟩, Nat.le_refl _⟩
    intro k hk
    refine ⟨w.heap.size + 1, 0, rfl, by rw [hwA]; simp, ?_⟩
    have hk2 : k = 0 ∨ k = 1 := by simp at hk; omega
    rcases hk2 with rfl | rfl
    · rw [hwA, World.cell?_alloc_at _ _ _ _ (by simp)]; simp
    · rw [hwA, World.cell?_alloc_at _ _ _ _ (by simp)]; simp
  have hB : Below w.heap.size w wA := by rw [hwA]; exact ((Below.refl w.heap.size w).alloc (Nat.le_refl _) _).alloc (by simp) _
  have c0 : wA.cell? ⟨w.heap.size, 0, none⟩ = some (.bool false) := by rw [hwA, World.cell?_alloc_lt _ _ _ (by simp)]; exact World.cell?_alloc_new w _ _ 0
  have c1 : wA.cell? ⟨w.heap.size, 1, none⟩ = some (.slice none 0 0) := by rw [hwA, World.cell?_alloc_lt _ _ _ (by simp)]; exact World.cell?_alloc_new w _ _ 1
  have f0 : wA.frozen? ⟨w.heap.size, 0, none⟩ = false := by rw [hwA]; simp
  have f1 : wA.frozen? ⟨w.heap.size, 1, none⟩ = false := by rw [hwA]; simp
  go_enter Tryd.func81, Tryd.ntmps81
  go_wp2_with fail
  rw [← hwA]
  refine (trim_big (some ⟨w.heap.size + 1, 0, none⟩) 2 2 n [n % 4294967296, n / 4294967296] wA rfl (by omega) hS (fun x hx => by simp at hx; omega) (by simp [num]; omega)).mono ?_
  rintro e w' ⟨rs, q, rfl, hBig, hl, rfl⟩
  have w0 := World.cell?_setCell_same (wA.drewN q) _ (.bool false) c0
  have w2 : ∀ v : Value, (((wA.drewN q).setCell ⟨w.heap.size, 0, none⟩ (.bool false)).setCell ⟨w.heap.size, 1, none⟩ v).cell? ⟨w.heap.size, 1, none⟩ = some v := fun v => World.cell?_setCell_same _ _ _ (u := .slice none 0 0) ((other_cell _ (by simp) _).trans c1)
  clear hwA hS
  go_wp2
  refine bodyPost_ret (by simp [results, Tryd.results81, go_sem, w0, w2]; try rfl) rfl ?_
  refine ⟨_, rfl, ?_, frz_of (fun b off l c e => by cases e; omega), (below_drewN' hB q).setCell (p := ⟨w.heap.size, 0, none⟩) (Nat.le_refl _) _ |>.setCell (p := ⟨w.heap.size, 1, none⟩) (Nat.le_refl _) _⟩
  refine intZ_of (((hBig.drewN q).other (p := ⟨w.heap.size, 0, none⟩) (by show w.heap.size + 1 ≠ w.heap.size; omega) _).other (p := ⟨w.heap.size, 1, none⟩) (by show w.heap.size + 1 ≠ w.heap.size; omega) _) (by simp) ?_ hl
  symm; rw [decide_eq_false_iff_not]; omega

end Go.Proofs.YtdcodajjcaipdaaDoor

namespace Go.Proofs.YtdcodajjcaipdaaDoor
open RowKit

theorem fold_tab : ({ data := (([0, 1, 2, 2, 3, 3, 3, 3, 4, 4, 4, 4, 4, 4, 4, 4, 5, 5, 5, 5, 5, 5, 5, 5, 5, 5, 5, 5, 5, 5, 5, 5, 6, 6, 6, 6, 6, 6, 6, 6, 6, 6, 6, 6, 6, 6, 6, 6, 6, 6, 6, 6, 6, 6, 6, 6, 6, 6, 6, 6, 6, 6, 6, 6].append [7, 7, 7, 7, 7, 7, 7, 7, 7, 7, 7, 7, 7, 7, 7, 7, 7, 7, 7, 7, 7, 7, 7, 7, 7, 7, 7, 7, 7, 7, 7, 7, 7, 7, 7, 7, 7, 7, 7, 7, 7, 7, 7, 7, 7, 7, 7, 7, 7, 7, 7, 7, 7, 7, 7, 7, 7, 7, 7, 7, 7, 7, 7, 7]).append ([8, 8, 8, 8, 8, 8, 8, 8, 8, 8, 8, 8, 8, 8, 8, 8, 8, 8, 8, 8, 8, 8, 8, 8, 8, 8, 8, 8, 8, 8, 8, 8, 8, 8, 8, 8, 8, 8, 8, 8, 8, 8, 8, 8, 8, 8, 8, 8, 8, 8, 8, 8, 8, 8, 8, 8, 8, 8, 8, 8, 8, 8, 8, 8].append [8, 8, 8, 8, 8, 8, 8, 8, 8, 8, 8, 8, 8, 8, 8, 8, 8, 8, 8, 8, 8, 8, 8, 8, 8, 8, 8, 8, 8, 8, 8, 8, 8, 8, 8, 8, 8, 8, 8, 8, 8, 8, 8, 8, 8, 8, 8, 8, 8, 8, 8, 8, 8, 8, 8, 8, 8, 8, 8, 8, 8, 8, 8, 8])).toArray } : ByteArray) = Lib.len8tab := by kernel_rfl
theorem bitLen_nbits : ∀ x : Nat, x < 18446744073709551616 → Lib.bitLen x = nbits x := by
  intro x
  induction x using Nat.strongRecOn with
  | ind x ih =>
    intro hx
    rcases Nat.eq_zero_or_pos x with h | h
    · subst h; rw [nbits_zero]; rfl
    · rw [Lib.bitLen_half x (by omega) hx, nbits_pos h, ih (x / 2) (by omega) (by omega)]
theorem tab_size : (Lib.len8tab.size : Int) = 256 := by rw [Lib.len8tab_size]; rfl
theorem tab_get (y : Int) (h : y.toNat < Lib.len8tab.size) (h0 : 0 ≤ y) (h1 : y ≤ 255) : ((Lib.len8tab[y.toNat]'h).toNat : Int) = (Lib.bitLen y.toNat : Int) ∧ Lib.bitLen y.toNat ≤ 8 := by
  refine ⟨?_, Lib.bitLen_le8' y h0 h1⟩
  rw [← Lib.len8_of y h0 h1]
  unfold Lib.len8
  rw [getElem?_pos Lib.len8tab y.toNat h]
  rfl
theorem len_fin (x : Int) (k : Nat) (K y : Int) (h : y.toNat < Lib.len8tab.size) (hx0 : 0 ≤ x) (hx : x ≤ 18446744073709551615) (hk : k ≤ 56) (hK : K = (k : Int)) (hy : y.toNat = x.toNat / 2 ^ k) (h0 : 0 ≤ y) (h1 : y ≤ 255) (hp : 2 ^ k ≤ x.toNat) :
    wrap64 (K + wrap64 ((Lib.len8tab[y.toNat]'h).toNat : Int)) = (Lib.bitLen x.toNat : Int) := by
  obtain ⟨e, l⟩ := tab_get y h h0 h1
  have e3 := Lib.bitLen_shift k x.toNat hp (by omega)
  rw [← hy] at e3
  have e5 : ∀ n : Int, 0 ≤ n → n ≤ 100 → wrap64 n = n := fun n h0 h1 => by unfold wrap64; omega
  rw [e, e5 (Lib.bitLen y.toNat : Int) (by omega) (by omega), hK, e5 ((k : Int) + (Lib.bitLen y.toNat : Int)) (by omega) (by omega), e3]
  omega
theorem len_fin0 (x : Int) (h : x.toNat < Lib.len8tab.size) (h0 : 0 ≤ x) (h1 : x ≤ 255) :
    wrap64 ((Lib.len8tab[x.toNat]'h).toNat : Int) = (Lib.bitLen x.toNat : Int) ∧ wrap64 (wrap64 ((Lib.len8tab[x.toNat]'h).toNat : Int)) = (Lib.bitLen x.toNat : Int) := by
  obtain ⟨e, l⟩ := tab_get x h h0 h1
  have e5 : ∀ n : Int, 0 ≤ n → n ≤ 100 → wrap64 n = n := fun n h0 h1 => by unfold wrap64; omega
  rw [e, e5 (Lib.bitLen x.toNat : Int) (by omega) (by omega), e5 (Lib.bitLen x.toNat : Int) (by omega) (by omega)]
  exact ⟨rfl, rfl⟩
set_option maxRecDepth 20000 in
set_option maxHeartbeats 1000000 in
theorem len64_I (x : Int) (w : World) (h0 : 0 ≤ x) (h1 : x ≤ 18446744073709551615) :
    Calls Tryd.prog 118 #[.int .u64 x] w fun e w' => e = .returned (.int .i64 (Lib.bitLen x.toNat)) ∧ w' = w := by
  have hs := tab_size
  go_enter Tryd.func118, Tryd.ntmps118
  simp only [fold_tab]
  go_wp2
  all_goals (try (exfalso; omega))
  all_goals (go_ret; refine ⟨congrArg Ending.returned (congrArg (Value.int IntKind.i64) ?_), rfl⟩)
  all_goals first
    | exact len_fin x 56 _ _ _ h0 h1 (by decide) rfl (by omega) (by omega) (by omega) (by omega)
    | exact len_fin x 48 _ _ _ h0 h1 (by decide) rfl (by omega) (by omega) (by omega) (by omega)
    | exact len_fin x 40 _ _ _ h0 h1 (by decide) rfl (by omega) (by omega) (by omega) (by omega)
    | exact len_fin x 32 _ _ _ h0 h1 (by decide) rfl (by omega) (by omega) (by omega) (by omega)
    | exact len_fin x 24 _ _ _ h0 h1 (by decide) rfl (by omega) (by omega) (by omega) (by omega)
    | exact len_fin x 16 _ _ _ h0 h1 (by decide) rfl (by omega) (by omega) (by omega) (by omega)
    | exact len_fin x 8 _ _ _ h0 h1 (by decide) rfl (by omega) (by omega) (by omega) (by omega)
    | exact (len_fin0 x _ (by omega) (by omega)).1
    | exact (len_fin0 x _ (by omega) (by omega)).2
theorem len64_any (x : Nat) (hx : x < 18446744073709551616) (w : World) :
    Calls Tryd.prog 118 #[.int .u64 x] w fun e w' => e = .returned (.int .i64 (nbits x)) ∧ w' = w := by
  refine (len64_I (x : Int) w (by omega) (by omega)).mono ?_
  rintro e w' ⟨rfl, rfl⟩
  rw [Int.toNat_natCast, bitLen_nbits x hx]
  exact ⟨rfl, rfl⟩

end Go.Proofs.YtdcodajjcaipdaaDoor

namespace Go.Proofs.YtdcodajjcaipdaaDoor
open RowKit

theorem pow64 (n : Nat) : (18446744073709551616 : Nat) ^ n = 2 ^ (64 * n) := by rw [Nat.pow_mul]
theorem nbits_q {us : List Nat} {n u : Nat} (ka : okQ us) (hn : us.length = n + 1) (hu : u = us.getD n 0) (h0 : u ≠ 0) : nbits (qn us) = 64 * n + nbits u := by
  have h1 := qn_split us n (by omega)
  rw [List.drop_of_length_le (by omega), ← hu, show qn [] = 0 from rfl, Nat.mul_zero, Nat.add_zero] at h1
  have h2 := qn_lt (okQ_take ka n)
  rw [List.length_take, Nat.min_eq_left (by omega)] at h2
  rw [h1]
  rw [pow64] at h2 ⊢
  have h3 := nbits_lt u
  have h4 := nbits_ge (m := u) (by omega)
  generalize qn (us.take n) = t at *
  apply nbits_eq
  · rw [Nat.pow_add]
    have : 2 ^ (64 * n) * 2 ^ nbits u ≤ 2 ^ (64 * n) * (2 * u) := Nat.mul_le_mul_left _ h4
    rw [Nat.mul_left_comm] at this
    omega
  · rw [Nat.pow_add]
    have : 2 ^ (64 * n) * (u + 1) ≤ 2 ^ (64 * n) * 2 ^ nbits u := Nat.mul_le_mul_left _ h3
    rw [Nat.mul_succ] at this
    omega
set_option maxHeartbeats 1000000 in
theorem qlen_any {v : Value} {base z L : Nat} (w : World) (hv : Wh w base v z L) (hz : 0 < z) (hL : L ≤ 200000) :
    Calls Tryd.prog 99 #[v] w fun e w' => ∃ n, e = .returned (.int .i64 (nbits z)) ∧ w' = w.drewN n := by
  obtain ⟨us, hoa, ka, ta, nu, hla⟩ := hv
  subst nu
  obtain ⟨ao, ca, rfl, hc, hca, hsh⟩ := own_rd hoa
  have hne : us.length ≠ 0 := fun h => by have := (qn_pos ta).2 h; omega
  obtain ⟨n, hn⟩ : ∃ n, us.length = n + 1 := ⟨us.length - 1, by omega⟩
  obtain ⟨u, hu⟩ : ∃ u, u = us.getD n 0 := ⟨_, rfl⟩
  have hu0 : u ≠ 0 := by have := ta (by omega); rw [hn, Nat.add_sub_cancel, ← hu] at this; exact this
  have hnb := nbits_q ka hn hu hu0
  have huk : u < 18446744073709551616 := by rw [hu]; exact okQ_getD ka n
  obtain ⟨g, rfl, hg, hcell⟩ := hc n (by omega)
  rw [← hu] at hcell
  have hnu : nbits u ≤ 64 := nbits_le (by omega)
  obtain ⟨nb, hnbe⟩ : ∃ nb, nb = nbits u := ⟨_, rfl⟩
  rw [← hnbe] at hnb hnu
  have HNB : Hid (nbits (qn us) = 64 * n + nb) := hnb
  have hlI : (us.length : Int) = (n : Int) + 1 := by omega
  have hn2 : n ≤ 200000 := by omega
  rw [hn]
  clear hnb hoa ta ka hc hsh hu hlI hn hne hz
  have HU : Hid (nb = nbits u) := hnbe
  clear hnbe
  have hwr : wrap64 (n : Int) = (n : Int) := by unfold wrap64; omega
  go_enter Tryd.func99, Tryd.ntmps99
  go_wp2_with (go_at_call 118; (with_reducible refine (len64_any u huk _).mono ?_); rintro e w' ⟨rfl, rfl⟩)
  go_ret
  refine ⟨0, congrArg Ending.returned (congrArg (Value.int .i64) ?_), rfl⟩
  rw [HNB.out, ← HU.out]
  have e5 : ∀ x : Int, 0 ≤ x → x ≤ 100000000 → wrap64 x = x := fun x h0 h1 => by unfold wrap64; omega
  rw [e5 ((n : Int) * 64 + (nb : Int)) (by omega) (by omega)]
  omega

end Go.Proofs.YtdcodajjcaipdaaDoor
