/-
  Several texts in one: Qap Qb Qc.
-/
import Derived.Test.YtmpkcioeodlbcaaGreatDoorK06
import Derived.Deep.RegionWith
import Derived.Deep.RegionHeldLaw
namespace Go.Proofs.YtmpkcioeodlbcaaGreatDoor
open RowKit
section
variable {P : Program} (w : World)
theorem append_new (base : Nat) (t ty e : TypeId) (i : TypeInfo) (z : Value) (bytes : Nat) (ht : P.underlying t = some (.slice e)) (hi : P.info? e = some i) (hz : i.zero = some z)
    (hsize : i.size = 1) (hby : i.bytes = bytes) (hzs : z.cells.size = 1)
    (v : Value) (n : Nat) (xs : List Value) (hown : w.ownsRow base e 1 v n xs)
    (a : Addr) (m c : Nat) (news : List Value) (hl : news.length = m * 1) (hnews : ∀ j u, news[j]? = some u → w.cell? (a.add j) = some u) (h1 : ∀ u ∈ news, u.oneCell' = true)
    (h63 : n + m ≤ maxLen) (hbytes : (n + m) * bytes ≤ 140737488355328) (hbase : base ≤ w.heap.size) :
    ∃ v' w', (Builtin.append_ #[t, t] ty #[v, .slice (some a) m c]).run P w = .ok v' w' ∧ w'.ownsRow base e 1 v' (n + m) (xs ++ news) ∧ w.grownBy w' v.ownBlock ∧ (∀ k, Ob v' k → Ob v k ∨ w.heap.size ≤ k) := by
  obtain ⟨v', w', hr, h2, h3, h4⟩ := run_append_own (P := P) w base t ty e i z 1 bytes ht hi hz hsize hby hzs (by decide) v n xs hown a m c news hl hnews h1 h63 hbytes hbase
  refine ⟨v', w', hr, h2, h3, fun k hk => ?_⟩
  rcases hown.2 with ⟨rfl, rfl⟩ | ⟨g, cap, cur, rfl, hbg, hg, hnc, hcm, hcs, htake⟩
  · have e0 : xs = [] := List.eq_nil_of_length_eq_zero (by simpa using hown.1)
    subst e0
    obtain ⟨v2, w2, hr2, k2, _⟩ := run_append_own (P := P) w w.heap.size t ty e i z 1 bytes ht hi hz hsize hby hzs (by decide) (.slice none 0 0) 0 [] (World.ownsRow_nil _ _ _ _) a m c news hl hnews h1 h63 hbytes (Nat.le_refl _)
    have q := hr.symm.trans hr2
    cases q
    exact .inr (k2.lt k hk).1
  · by_cases hroom : n + m ≤ cap
    · obtain ⟨w2, hr2, _⟩ := run_append_fits (P := P) w base t ty e i 1 ht hi hsize g n cap xs hown a m c news hl hnews h1 hroom
      have q := hr.symm.trans hr2
      cases q
      exact .inl hk
    · have hr2 := run_append_grow (P := P) w t ty e i z ht hi hz ⟨g, 0, none⟩ n cap xs (by rw [hsize]; exact hown.1) (hown.cells (g := g) rfl) a m c news (by rw [hsize]; exact hl) hnews (by omega) (by simp only [maxLen] at h63; omega) (growslice_fits (by omega) (by rw [hby]; exact hbytes))
      have q := hr.symm.trans hr2
      cases q
      simp [Ob, Value.ownBlock] at hk
      exact .inr (by omega)
theorem wpList_append_new {ops : Array Oper} {rest : List Oper} {o : Oper} {a : Act} {Q : Exit → Act → World → Prop} (hgd : o.guard = none) (s x : Operand) (t : TypeId)
    (ho : o.op = .call { callee := .builtin .append, args := #[s, x], argTypes := #[t, t] })
    (base : Nat) (e : TypeId) (i : TypeInfo) (z : Value) (bytes : Nat) (ht : P.underlying t = some (.slice e)) (hi : P.info? e = some i) (hz : i.zero = some z)
    (hsize : i.size = 1) (hby : i.bytes = bytes) (hzs : z.cells.size = 1)
    (v : Value) (n : Nat) (xs : List Value) (hs : a.eval s = v) (hown : w.ownsRow base e 1 v n xs)
    (ad : Addr) (m c : Nat) (news : List Value) (hx : a.eval x = .slice (some ad) m c) (hl : news.length = m * 1) (hnews : ∀ j u, news[j]? = some u → w.cell? (ad.add j) = some u) (h1 : ∀ u ∈ news, u.oneCell' = true)
    (h63 : n + m ≤ maxLen) (hbytes : (n + m) * bytes ≤ 140737488355328) (hbase : base ≤ w.heap.size)
    (h : ∀ v' w', w'.ownsRow base e 1 v' (n + m) (xs ++ news) → w.grownBy w' v.ownBlock → (∀ k, Ob v' k → Ob v k ∨ w.heap.size ≤ k) → wpList P ops Q rest (a.put o.dst v') w') : wpList P ops Q (o :: rest) a w := by
  obtain ⟨v', w', hr, h2, h3, h4⟩ := append_new (P := P) w base t o.type e i z bytes ht hi hz hsize hby hzs v n xs hown ad m c news hl hnews h1 h63 hbytes hbase
  refine wpList_plain hgd fun K hK => ?_
  unfold Oper.wp execOp
  simp only [ho, resolve, invoke, builtin, Sem.run_bind, Sem.run_pure, Result.andThen_ok, List.map_toArray, List.map_cons, List.map_nil, hs, hx, hr]
  exact hK _ _ (h v' w' h2 h3 h4)
end
end Go.Proofs.YtmpkcioeodlbcaaGreatDoor
namespace Go.Proofs.YtmpkcioeodlbcaaGreatDoor
open RowKit
theorem mul64_v (x f hi lo : Nat) (hx : x < 18446744073709551616) (hf : f < 18446744073709551616) (h : x * f = hi * 18446744073709551616 + lo) (hlo : lo < 18446744073709551616) (w : World) :
    Calls Tryz.prog 230 #[.int .u64 x, .int .u64 f] w fun e w' => e = .returned (.tuple #[.int .u64 hi, .int .u64 lo]) ∧ w' = w := by
  refine (mul64_any x f hx hf w).mono ?_
  rintro e w' ⟨rfl, rfl⟩
  rw [show x * f / 18446744073709551616 = hi by omega, show x * f % 18446744073709551616 = lo by omega]
  exact ⟨rfl, rfl⟩
theorem add64_v (x y c s : Nat) (h : x + y = c * 18446744073709551616 + s) (hs : s < 18446744073709551616) (w : World) : (callFunc 289 #[.int .u64 x, .int .u64 y, .int .u64 0]).run Tryz.prog w =
    .ok (.value (.tuple #[.int .u64 s, .int .u64 c])) w := by
  rw [add64_any, show (x + y) / 18446744073709551616 = c by omega, show (x + y) % 18446744073709551616 = s by omega]
theorem trim_of_ge {os : List Nat} (h : 0 < os.length → 18446744073709551616 ^ (os.length - 1) ≤ qn os) (hk : okQ os) : trimQ os := by
  intro h0 hz
  have h1 := qn_split os (os.length - 1) (by omega)
  rw [hz, List.drop_of_length_le (by omega), show qn [] = 0 from rfl, Nat.mul_zero, Nat.add_zero] at h1
  have h2 := qn_lt (okQ_take hk (os.length - 1))
  rw [List.length_take, Nat.min_eq_left (by omega)] at h2
  have := h h0
  omega
theorem qt_step {os ws : List Nat} {i m m' f x p y c : Nat} (hl : os.length = ws.length) (hi : i < ws.length) (hx : x = ws.getD i 0) (hp : x * f = p) (hc : p + m' = c * 18446744073709551616 + y) (h : qn (os.take i) + 18446744073709551616 ^ i * m' = qn (ws.take i) * f + m) :
    qn ((os.set i y).take (i + 1)) + 18446744073709551616 ^ (i + 1) * c = qn (ws.take (i + 1)) * f + m := by
  rw [qn_take_succ _ i (by simpa using by omega), qn_take_succ ws i hi, ← hx, List.take_set_of_le (Nat.le_refl _)]
  have e : (os.set i y).getD i 0 = y := by simp [List.getD_eq_getElem?_getD, hl, hi]
  rw [e, Nat.add_mul, Nat.mul_assoc, hp, Nat.pow_succ]
  generalize 18446744073709551616 ^ i = B at *
  have e2 : B * y + B * 18446744073709551616 * c = B * p + B * m' := by
    rw [← Nat.mul_add, hc, Nat.mul_add, Nat.mul_comm c, Nat.mul_assoc, Nat.add_comm]
  omega
theorem okQ_set {os : List Nat} (h : okQ os) (i y : Nat) (hy : y < 18446744073709551616) : okQ (os.set i y) := by
  intro x hx
  rcases List.mem_or_eq_of_mem_set hx with h1 | h1
  · exact h x h1
  · omega
theorem drop_set_succ (os : List Nat) (i y : Nat) : (os.set i y).drop (i + 1) = os.drop (i + 1) := by
  rw [List.drop_set, if_pos (by omega)]
theorem drop_get {os ws : List Nat} {i : Nat} (hl : os.length = ws.length) (hi : i < ws.length) (h : os.drop i = ws.drop i) : os.getD i 0 = ws.getD i 0 ∧ os.drop (i + 1) = ws.drop (i + 1) := by
  rw [List.drop_eq_getElem_cons (by omega : i < os.length), List.drop_eq_getElem_cons hi] at h
  simp only [List.cons.injEq] at h
  refine ⟨?_, h.2⟩
  simp [List.getD_eq_getElem?_getD, hl, hi, h.1]
/-- the last part of times: the carry is laid behind, or not -/
theorem qt_end {os : List Nat} {z f m m' : Nat} (hk : okQ os) (hm : m' < 18446744073709551616) (hf : 1 ≤ f) (h : qn os + 18446744073709551616 ^ os.length * m' = z * f + m) (hz : 0 < os.length → 18446744073709551616 ^ (os.length - 1) ≤ z) :
    (m' = 0 → trimQ os ∧ qn os = z * f + m) ∧ (m' ≠ 0 → trimQ (os ++ [m']) ∧ okQ (os ++ [m']) ∧ qn (os ++ [m']) = z * f + m) := by
  refine ⟨fun h0 => ?_, fun h0 => ⟨?_, okQ_append hk (fun x hx => by simp at hx; omega), ?_⟩⟩
  · subst h0
    rw [Nat.mul_zero, Nat.add_zero] at h
    refine ⟨trim_of_ge (fun h0 => ?_) hk, h⟩
    have h1 := hz h0
    have h2 : z * 1 ≤ z * f := Nat.mul_le_mul_left _ hf
    omega
  · intro _
    simp [List.getD_eq_getElem?_getD]; exact h0
  · rw [qn_append, ← h]; simp [qn]
set_option maxRecDepth 10000 in
set_option maxHeartbeats 2000000 in
theorem qtimes_any (v : Value) (base z L f m : Nat) (w : World) (hv : Wh w base v z L) (hL : L ≤ 100000) (hf : f < 18446744073709551616) (hm : m < 18446744073709551616) (hf1 : 1 ≤ f) (hbase : base ≤ w.heap.size) :
    Calls Tryz.prog 261 #[v, .int .u64 f, .int .u64 m] w fun e w' => ∃ v', e = .returned v' ∧ Wh w' base v' (z * f + m) (L + 1) ∧ Only (Ob v) w w' ∧ (∀ k, Ob v' k → Ob v k ∨ w.heap.size ≤ k) := by
  obtain ⟨ws, hown, hok, htr, hz, hl⟩ := hv
  obtain ⟨i0, hi0, hz0, hz1, hz2⟩ := info_parts3 Tryz.info64
  have HZ : Hid (0 < ws.length → 18446744073709551616 ^ (ws.length - 1) ≤ z) := fun h => by rw [← hz]; exact qn_ge htr h
  subst hz
  obtain ⟨ao, cap, hve⟩ : ∃ ao cap, v = .slice ao ws.length cap := by
    rcases hown.2 with ⟨hv, hn0⟩ | ⟨g, cap, cur, hv, hb, hg, hnc, hcm, hcs, htake⟩
    · exact ⟨none, 0, by rw [hn0]; exact hv⟩
    · exact ⟨_, _, hv⟩
  subst hve
  have hgo : ∀ k, Ob (.slice ao ws.length cap) k → ∃ g, ao = some ⟨g, 0, none⟩ ∧ k = g ∧ g < w.heap.size ∧ base ≤ g := by
    intro k hk
    rcases hown.2 with ⟨hv, hn0⟩ | ⟨g, cap, cur, hv, hb, hg, hnc, hcm, hcs, htake⟩
    · simp only [Value.slice.injEq] at hv; rw [hv.1] at hk; simp [Ob, Value.ownBlock] at hk
    · cases hv; simp [Ob, Value.ownBlock] at hk; exact ⟨g, rfl, hk.symm, (Array.getElem?_eq_some_iff.1 hg).1, hb⟩
  go_enter Tryz.func261, Tryz.ntmps261
  go_wp2
  go_loopw [2, 14] (fun mv iv wr => ∃ (i m' : Nat) (os : List Nat), mv = .int .u64 m' ∧ iv = .int .i64 i ∧ i ≤ ws.length ∧ m' < 18446744073709551616 ∧ os.length = ws.length ∧ okQ os ∧ os.drop i = ws.drop i ∧ qn (os.take i) + 18446744073709551616 ^ i * m' = qn (ws.take i) * f + m ∧ wr.ownsRow base 47 1 (.slice ao ws.length cap) ws.length (qv os) ∧ Only (Ob (.slice ao ws.length cap)) w wr ∧ wr.heap.size = w.heap.size) (fun _ iv _ => ws.length - (intOf iv).toNat)
  case atStart => exact ⟨0, m, ws, rfl, rfl, Nat.zero_le _, hm, rfl, hok, rfl, by simp [qn], hown, Only.refl _ _, rfl⟩
  case round =>
    obtain ⟨i, m', os, rfl, rfl, hi, hm', hol, hok', hdr, hnum, hown', honly, hsz'⟩ := hrel
    have hsz : Hid (wr.heap.size = w.heap.size) := hsz'
    clear hsz'
    by_cases hlt : i < ws.length
    · obtain ⟨g, rfl, hgg⟩ : ∃ g, ao = some ⟨g, 0, none⟩ ∧ g < w.heap.size := by
        rcases hown.2 with ⟨hv, hn0⟩ | ⟨g, cap, cur, hv, hb, hg, hnc, hcm, hcs, htake⟩
        · omega
        · cases hv; exact ⟨g, rfl, (Array.getElem?_eq_some_iff.1 hg).1⟩
      have hcap : ws.length ≤ cap := by
        rcases hown.2 with ⟨hv, hn0⟩ | ⟨g, cap, cur, hv, hb, hg, hnc, hcm, hcs, htake⟩
        · omega
        · cases hv; exact hnc
      obtain ⟨x, hx⟩ : ∃ x, x = ws.getD i 0 := ⟨_, rfl⟩
      obtain ⟨hox, hdr'⟩ := drop_get hol hlt hdr
      have hxk : x < 18446744073709551616 := by rw [hx]; exact okQ_getD hok i
      have hcell := hown'.cellAt i (by omega)
      have hfz := hown'.frozenAt i
      rw [qv_get _ _ (by omega), hox, ← hx] at hcell
      obtain ⟨p, hp⟩ : ∃ p, x * f = p := ⟨_, rfl⟩
      have hpb : p ≤ 18446744073709551615 * 18446744073709551615 := by rw [← hp]; exact Nat.mul_le_mul (by omega) (by omega)
      obtain ⟨hi', lo, hlo, hhl⟩ : ∃ hi' lo : Nat, lo < 18446744073709551616 ∧ p = hi' * 18446744073709551616 + lo := ⟨p / 18446744073709551616, p % 18446744073709551616, Nat.mod_lt _ (by omega), by omega⟩
      obtain ⟨c, y, hy, hcy⟩ : ∃ c y : Nat, y < 18446744073709551616 ∧ lo + m' = c * 18446744073709551616 + y := ⟨(lo + m') / 18446744073709551616, (lo + m') % 18446744073709551616, Nat.mod_lt _ (by omega), by omega⟩
      have hst := qt_step (c := hi' + c) (y := y) hol hlt hx hp (by omega) hnum
      have hsum : hi' + c < 18446744073709551616 := by omega
      have hsumI : (hi' : Int) + (c : Int) < 18446744073709551616 := by omega
      have hso := hown'.stored i (.int .u64 (y : Int))
      rw [qv_set] at hso
      have HST : Hid (qn ((os.set i y).take (i + 1)) + 18446744073709551616 ^ (i + 1) * (hi' + c) = qn (ws.take (i + 1)) * f + m) := hst
      have HSO : Hid ((wr.setCell ⟨g, i, none⟩ (.int .u64 (y : Int))).ownsRow base 47 1 (.slice (some ⟨g, 0, none⟩) ws.length cap) ws.length (qv (os.set i y))) := hso.1
      have HON : Hid (Only (Ob (.slice (some ⟨g, 0, none⟩) ws.length cap)) w wr) := honly
      have HDR : Hid ((os.set i y).drop (i + 1) = ws.drop (i + 1)) := by show _ = _; rw [drop_set_succ]; exact hdr'
      have HOK : Hid (okQ (os.set i y)) := okQ_set hok' i y hy
      have HM : Hid (x * f = hi' * 18446744073709551616 + lo) := by show _ = _; rw [hp]; exact hhl
      have HC : Hid (lo + m' = c * 18446744073709551616 + y) := hcy
      clear hst hso honly hdr hdr' hok' hnum hhl hcy hpb hp hx hox hown' hown hok htr hgo
      go_wp2_with (first
        | (go_at_call 230; (with_reducible refine (mul64_v x f hi' lo hxk hf HM.out hlo _).mono ?_); rintro e w' ⟨rfl, rfl⟩)
        | simp only [add64_v lo m' c y HC.out hy])
      go_roundw
      case rel => exact ⟨i + 1, hi' + c, os.set i y, by first | rfl | (exact congrArg (Value.int .u64) (by omega)) | (simp; omega), by go_num, hlt, hsum, by simpa using hol, HOK.out, HDR.out, HST.out, HSO.out, HON.out.set _ _ (.inl rfl), by simpa using hsz.out⟩
      case measure => simp [intOf]; omega
    · have e : i = ws.length := by omega
      subst e
      rw [List.take_of_length_le (by omega), List.take_of_length_le (by omega), ← hol] at hnum
      obtain ⟨E1, E2⟩ := qt_end hok' hm' hf1 hnum (by rw [hol]; exact HZ.out)
      by_cases hm0 : m' = 0
      · subst hm0
        have HE := E1 rfl
        clear E1 E2 hnum hdr
        go_wp2
        go_ret
        exact ⟨_, rfl, ⟨os, by rw [hol]; exact hown', hok', HE.1, HE.2, by omega⟩, honly, fun k hk => .inl hk⟩
      · have hmI : ((m' : Int) == 0) = false := by simp; omega
        obtain ⟨f1, f2, f3⟩ := E2 hm0
        clear E1 E2 hnum hdr
        go_wp2_with (first
          | (at_builtin; refine wpList_append_new _ rfl _ _ 288 rfl base 47 i0 (.int .u64 0) 8 Tryz.underlying288 hi0 hz0 hz1 hz2 rfl _ _ _ rfl (hown'.alloc _) ⟨_, 0, none⟩ 1 1 [.int .u64 (m' : Int)] rfl rfl ?c1 ?c2 ?c3 ?c4 ?c5 ?_))
        case c1 =>
          intro j u hj
          match j, hj with
          | 0, hj =>
            simp at hj; subst hj
            simp [Addr.add]
        case c2 => intro u hu; simp at hu; subst hu; rfl
        case c3 => unfold maxLen; omega
        case c4 => omega
        case c5 => have := hsz.out; simp; omega
        · intro v' w1 hown1 hgrow hfr
          have R2 : Only (Ob (.slice ao ws.length cap)) w w1 := (honly.alloc _).grown hgrow (fun i hi => .inl hi)
          have R : w1.ownsRow base 47 1 v' (os ++ [m']).length (qv (os ++ [m'])) := by
            rw [← qv_snoc]; simpa [hol] using hown1
          clear hown1 hgrow hown' hown
          go_wp2
          go_ret
          refine ⟨_, rfl, ⟨os ++ [m'], R, f2, f1, f3, by simp; omega⟩, R2, fun k hk => ?_⟩
          rcases hfr k hk with h | h
          · exact .inl h
          · have := hsz.out; exact .inr (by omega)

end Go.Proofs.YtmpkcioeodlbcaaGreatDoor
namespace Go.Proofs.YtmpkcioeodlbcaaGreatDoor
open RowKit
/-- what a list of words in memory reads as -/
def RdQ (w : World) (ao : Option Addr) (ws : List Nat) : Prop :=
  ∀ k, k < ws.length → ∃ b, ao = some ⟨b, 0, none⟩ ∧ b < w.heap.size ∧ w.cell? ⟨b, k, none⟩ = some (.int .u64 ((ws.getD k 0 : Nat) : Int))
theorem RdQ.drewN {w : World} {ao : Option Addr} {ws : List Nat} (h : RdQ w ao ws) (n : Nat) : RdQ (w.drewN n) ao ws := h
theorem own_rd {w : World} {base : Nat} {v : Value} {ws : List Nat} (h : w.ownsRow base 47 1 v ws.length (qv ws)) : ∃ ao cap, v = .slice ao ws.length cap ∧ RdQ w ao ws ∧ ws.length ≤ cap ∧ (ws.length = 0 ∨ ∃ g, ao = some ⟨g, 0, none⟩) := by
  rcases h.2 with ⟨hv, h0⟩ | ⟨g, cap, cur, hv, hb, hg, hnc, _, _, htake⟩
  · refine ⟨none, 0, by rw [h0]; exact hv, fun k hk => by omega, by omega, .inl h0⟩
  · refine ⟨some ⟨g, 0, none⟩, cap, hv, fun k hk => ⟨g, rfl, (Array.getElem?_eq_some_iff.1 hg).1, ?_⟩, hnc, .inr ⟨g, rfl⟩⟩
    subst hv
    rw [h.cellAt k (by omega), qv_get _ _ hk]
theorem cmpI_any (x y : Nat) (w : World) : Calls Tryz.prog 291 #[.int .i64 x, .int .i64 y] w fun e w' => e = .returned (.int .i64 (cmI x y)) ∧ w' = w := by
  rcases Nat.lt_trichotomy x y with h | h | h
  · have h1 : (x : Int) < y := by omega
    go_enter Tryz.func291, Tryz.ntmps291
    go_wp2
    go_ret
    exact ⟨ret1i (by unfold cmI; rw [if_pos h]), rfl⟩
  · subst h
    go_enter Tryz.func291, Tryz.ntmps291
    go_wp2
    go_ret
    exact ⟨ret1i (by unfold cmI; rw [if_neg (by omega), if_pos rfl]), rfl⟩
  · have h2 : ¬ (x : Int) < y := by omega
    have h3 : (y : Int) < x := by omega
    go_enter Tryz.func291, Tryz.ntmps291
    go_wp2
    go_ret
    exact ⟨ret1i (by unfold cmI; rw [if_neg (by omega), if_neg (by omega)]), rfl⟩
theorem cmpU_any (x y : Nat) (w : World) : Calls Tryz.prog 292 #[.int .u64 x, .int .u64 y] w fun e w' => e = .returned (.int .i64 (cmI x y)) ∧ w' = w := by
  rcases Nat.lt_trichotomy x y with h | h | h
  · have h1 : (x : Int) < y := by omega
    go_enter Tryz.func292, Tryz.ntmps292
    go_wp2
    go_ret
    exact ⟨ret1i (by unfold cmI; rw [if_pos h]), rfl⟩
  · subst h
    go_enter Tryz.func292, Tryz.ntmps292
    go_wp2
    go_ret
    exact ⟨ret1i (by unfold cmI; rw [if_neg (by omega), if_pos rfl]), rfl⟩
  · have h2 : ¬ (x : Int) < y := by omega
    have h3 : (y : Int) < x := by omega
    go_enter Tryz.func292, Tryz.ntmps292
    go_wp2
    go_ret
    exact ⟨ret1i (by unfold cmI; rw [if_neg (by omega), if_neg (by omega)]), rfl⟩
set_option maxHeartbeats 1000000 in
theorem qcmp_any {va vb : Value} {ba bb x y La Lb : Nat} (w : World) (ha : Wh w ba va x La) (hb : Wh w bb vb y Lb) (hLa : La ≤ 200000) (_ : Lb ≤ 200000) :
    Calls Tryz.prog 265 #[va, vb] w fun e w' => ∃ n, e = .returned (.int .i64 (cmI x y)) ∧ w' = w.drewN n := by
  obtain ⟨us, hoa, ka, ta, nu, hla⟩ := ha
  obtain ⟨vs, hob, kb, tb, nv, hlb⟩ := hb
  obtain ⟨ao, ca, rfl, hc, hca, _⟩ := own_rd hoa
  obtain ⟨bo, cb, rfl, hd, hcb, _⟩ := own_rd hob
  subst nu
  subst nv
  clear hoa hob
  rcases Nat.lt_trichotomy us.length vs.length with hl | hl | hl
  · have h1 := cmq_len ka tb hl
    have hr : Hid (cmI (qn us) (qn vs) = cmI us.length vs.length) := by show _ = _; unfold cmI; rw [if_pos h1, if_pos hl]
    have ht : ((us.length : Int) == (vs.length : Int)) = false := by simp; omega
    clear hc hd ka kb ta tb h1
    go_enter Tryz.func265, Tryz.ntmps265
    go_wp2_with (go_at_call 291; (with_reducible refine (cmpI_any _ _ _).mono ?_); rintro e w' ⟨rfl, rfl⟩)
    go_ret
    exact ⟨0, ret1i hr.out.symm, rfl⟩
  · go_enter Tryz.func265, Tryz.ntmps265
    go_wp2_with (go_at_call 291; (with_reducible refine (cmpI_any _ _ _).mono ?_); rintro e w' ⟨rfl, rfl⟩)
    go_loopw [5] (fun iv wr => ∃ (i n : Nat), i ≤ us.length ∧ iv = .int .i64 ((i : Int) - 1) ∧ us.drop i = vs.drop i ∧ wr = w.drewN n) (fun iv _ => (intOf iv + 1).toNat)
    case atStart =>
      refine ⟨us.length, 0, Nat.le_refl _, ?_, by rw [List.drop_length, hl, List.drop_length], rfl⟩
      first | rfl | (simp; omega) | (go_num)
    case round =>
      obtain ⟨i, n, hi, rfl, hdr, hw⟩ := hrel
      have HD : Hid (us.drop i = vs.drop i) := hdr
      have HW : Hid (wr = w.drewN n) := hw
      have hc' : RdQ wr ao us := by rw [hw]; exact hc.drewN n
      have hd' : RdQ wr bo vs := by rw [hw]; exact hd.drewN n
      clear hdr hw hc hd
      by_cases h0 : 0 < i
      · obtain ⟨b1, rfl, hb1, hc1⟩ := hc' (i - 1) (by omega)
        obtain ⟨b2, rfl, hb2, hc2⟩ := hd' (i - 1) (by omega)
        obtain ⟨x, hx⟩ : ∃ x, x = us.getD (i - 1) 0 := ⟨_, rfl⟩
        obtain ⟨y, hy⟩ : ∃ y, y = vs.getD (i - 1) 0 := ⟨_, rfl⟩
        rw [← hx] at hc1
        rw [← hy] at hc2
        have HX : Hid (x = us.getD (i - 1) 0) := hx
        have HY : Hid (y = vs.getD (i - 1) 0) := hy
        have ei : (i : Int) - 1 = ((i - 1 : Nat) : Int) := by omega
        obtain ⟨j, hj⟩ : ∃ j, i = j + 1 := ⟨i - 1, by omega⟩
        subst hj
        simp only [Nat.add_sub_cancel] at hc1 hc2 HX HY ei
        clear hx hy hc' hd'
        rw [ei]
        clear ei
        rcases Nat.lt_trichotomy x y with hxy | hxy | hxy
        · have hr : Hid (cmI (qn us) (qn vs) = cmI x y) := by
            show cmI _ _ = _; unfold cmI; rw [if_pos (cmq_at ka hl (by omega) HD.out (by rw [← HX.out, ← HY.out]; exact hxy)), if_pos hxy]
          have hne : ((x : Int) == (y : Int)) = false := by simp; omega
          clear ka kb ta tb
          go_wp2
          go_quiet (fail)
          go_wp2
          go_region_with (go_at_call 292; (with_reducible refine (cmpU_any _ _ _).mono ?_); rintro e w' ⟨rfl, rfl⟩)
          all_goals (go_wp2; go_ret; exact ⟨n + nq + 1, ret1i hr.out.symm, by rw [HW.out, World.drewN_drewN]; rfl⟩)
        · subst hxy
          have hdn : us.drop j = vs.drop j := by
            rw [List.drop_eq_getElem_cons (by omega : j < us.length), List.drop_eq_getElem_cons (by omega : j < vs.length), HD.out]
            congr 1
            have h1 := HX.out
            have h2 := HY.out
            rw [List.getD_eq_getElem?_getD] at h1 h2
            simp [show j < us.length by omega] at h1
            simp [show j < vs.length by omega] at h2
            rw [← h1, ← h2]
          have HN : Hid (us.drop j = vs.drop j) := hdn
          clear hdn ka kb ta tb
          go_wp2
          go_quiet (fail)
          go_wp2
          go_roundw
          case rel => exact ⟨j, _, by omega, rfl, HN.out, by rw [HW.out, World.drewN_drewN]⟩
          case measure => simp [intOf]
        · have hr : Hid (cmI (qn us) (qn vs) = cmI x y) := by
            have := cmq_at kb hl.symm (by omega) HD.out.symm (by rw [← HX.out, ← HY.out]; exact hxy)
            show cmI _ _ = _; unfold cmI; rw [if_neg (by omega), if_neg (by omega), if_neg (by omega), if_neg (by omega)]
          have hne : ((x : Int) == (y : Int)) = false := by simp; omega
          clear ka kb ta tb
          go_wp2
          go_quiet (fail)
          go_wp2
          go_region_with (go_at_call 292; (with_reducible refine (cmpU_any _ _ _).mono ?_); rintro e w' ⟨rfl, rfl⟩)
          all_goals (go_wp2; go_ret; exact ⟨n + nq + 1, ret1i hr.out.symm, by rw [HW.out, World.drewN_drewN]; rfl⟩)
      · have e : i = 0 := by omega
        subst e
        have hr : Hid (cmI (qn us) (qn vs) = 0) := by
          have := HD.out
          simp at this
          show cmI _ _ = _; rw [this]; unfold cmI; rw [if_neg (by omega), if_pos rfl]
        clear ka kb ta tb hc' hd'
        go_wp2
        go_ret
        exact ⟨n, ret1i hr.out.symm, HW.out⟩
  · have h1 := cmq_len kb ta hl
    have hr : Hid (cmI (qn us) (qn vs) = cmI us.length vs.length) := by show _ = _; unfold cmI; rw [if_neg (by omega), if_neg (by omega), if_neg (by omega), if_neg (by omega)]
    have ht : ((us.length : Int) == (vs.length : Int)) = false := by simp; omega
    clear hc hd ka kb ta tb h1
    go_enter Tryz.func265, Tryz.ntmps265
    go_wp2_with (go_at_call 291; (with_reducible refine (cmpI_any _ _ _).mono ?_); rintro e w' ⟨rfl, rfl⟩)
    go_ret
    exact ⟨0, ret1i hr.out.symm, rfl⟩

end Go.Proofs.YtmpkcioeodlbcaaGreatDoor
