/-
  What gridworkref08's order, Parity and Swapped hand back: the same as pivot's.
-/
import Derived.Test.YtgpjlobclcbniaaYf
import Derived.Deep.AppendLies
namespace Go.Proofs.Ytgpjlobclcbniaa
open Fl RowKit

/-- pairs that stand the wrong way round, place by place -/
def cK (zs : List Int) (x : Int) (m : Nat) : Nat → Nat
  | 0 => 0
  | k + 1 => cK zs x m k + if m ≤ k ∧ iat zs k < x then 1 else 0
theorem cK_low (zs : List Int) (x : Int) {m k : Nat} (h : k ≤ m) : cK zs x m k = 0 := by
  induction k with
  | zero => rfl
  | succ k ih => unfold cK; rw [ih (by omega), if_neg (by omega)]
theorem cK_split (zs : List Int) (x : Int) {m n : Nat} (h : m < n) : cK zs x m n = (if iat zs m < x then 1 else 0) + cK zs x (m + 1) n := by
  induction n with
  | zero => omega
  | succ n ih =>
    unfold cK
    by_cases e : m = n
    · subst e
      rw [cK_low zs x (Nat.le_refl m), cK_low zs x (Nat.le_succ m), if_neg (show ¬ (m + 1 ≤ m ∧ iat zs m < x) by omega)]
      by_cases c : iat zs m < x
      · rw [if_pos ⟨Nat.le_refl _, c⟩, if_pos c]
      · rw [if_neg (fun h => c h.2), if_neg c]
    · rw [ih (by omega)]
      by_cases c : iat zs n < x
      · rw [if_pos (show m ≤ n ∧ iat zs n < x from ⟨by omega, c⟩), if_pos (show m + 1 ≤ n ∧ iat zs n < x from ⟨by omega, c⟩)]; omega
      · rw [if_neg (show ¬ (m ≤ n ∧ iat zs n < x) from fun h => c h.2), if_neg (show ¬ (m + 1 ≤ n ∧ iat zs n < x) from fun h => c h.2)]; omega
theorem drop_cons {zs : List Int} {m : Nat} (h : m < zs.length) : zs.drop m = iat zs m :: zs.drop (m + 1) := by
  rw [List.drop_eq_getElem_cons h]
  congr 1
  simp [iat, List.getD_eq_getElem?_getD, h]
theorem cl_drop (zs : List Int) (x : Int) (d : Nat) : ∀ m, zs.length = m + d → cl x (zs.drop m) = cK zs x m zs.length := by
  induction d with
  | zero =>
    intro m hm
    rw [List.drop_of_length_le (by omega), cK_low zs x (by omega)]; rfl
  | succ d ih =>
    intro m hm
    rw [drop_cons (by omega), cK_split zs x (by omega), ← ih (m + 1) (by omega)]; rfl
def iT (zs : List Int) : Nat → Nat
  | 0 => 0
  | i + 1 => iT zs i + cK zs (iat zs i) (i + 1) zs.length
theorem iT_all (zs : List Int) : iT zs zs.length = invL zs := by
  have key : ∀ i, i ≤ zs.length → invL (zs.drop i) + iT zs i = invL zs := by
    intro i
    induction i with
    | zero => intro _; rfl
    | succ i ih =>
      intro hi
      have h1 := ih (by omega)
      rw [drop_cons (by omega)] at h1
      have h2 : invL (iat zs i :: zs.drop (i + 1)) = cl (iat zs i) (zs.drop (i + 1)) + invL (zs.drop (i + 1)) := rfl
      rw [h2, cl_drop zs (iat zs i) (zs.length - (i + 1)) (i + 1) (by omega)] at h1
      show invL (zs.drop (i + 1)) + (iT zs i + cK zs (iat zs i) (i + 1) zs.length) = invL zs
      omega
  have := key zs.length (Nat.le_refl _)
  rw [List.drop_length] at this
  have e : invL ([] : List Int) = 0 := rfl
  omega
def pm (n : Nat) : Int := if n % 2 = 0 then 1 else -1
theorem pm_pm (n : Nat) : pm n = 1 ∨ pm n = -1 := by unfold pm; split <;> simp
theorem pm_succ (n : Nat) : pm (n + 1) = -pm n := by
  unfold pm
  by_cases h : n % 2 = 0
  · rw [if_pos h, if_neg (by omega)]
  · rw [if_neg h, if_pos (by omega)]; rfl
set_option maxHeartbeats 2000000 in
theorem rorder_any (ao : Option Addr) (cap n : Nat) (zs : List Int) (w : World) (hn : zs.length = n) (h64 : n ≤ 64) (hc : Qi w ao zs) :
    Calls Try.prog 58 #[.slice ao n cap] w fun e w' => e = .returned (.bool (oR zs n)) ∧ w' = w := by
  have OF : ∀ v, oR zs (v + 1) = false → v < n → oR zs n = false := fun v h hv => by
    cases hh : oR zs n
    · rfl
    · rw [oR_iff.2 (fun u hu => oR_iff.1 hh u (by omega))] at h; cases h
  have HOF := hid_o OF
  clear OF
  obtain ⟨E, hE⟩ : ∃ E, E = oR zs n := ⟨_, rfl⟩
  rw [← hE] at HOF ⊢
  have HE := hid_o hE
  clear hE
  go_enter Try.func58, Try.ntmps58
  go_wp2
  go_loopw [3] (fun i wr => ∃ v : Nat, v ≤ n ∧ i = .int .i64 v ∧ oR zs v = true ∧ wr = w) (fun i _ => n - (intOf i).toNat)
  case atStart => exact ⟨0, Nat.zero_le _, rfl, rfl, rfl⟩
  case round =>
    obtain ⟨v, hv, rfl, ho, hw⟩ := hrel
    subst wr
    by_cases hlt : v < n
    · have HO := hid_o ho
      clear ho
      go_wp2
      go_loopw [4, 5] (fun t i wr => ∃ k : Nat, k ≤ n ∧ i = .int .i64 k ∧ t = .int .i64 (cI zs (v : Int) k : Nat) ∧ wr = w) (fun _ i _ => n - (intOf i).toNat)
      case atStart => exact ⟨0, Nat.zero_le _, rfl, rfl, rfl⟩
      case round =>
        obtain ⟨k, hk, rfl, rfl, hw⟩ := hrel
        subst wr
        by_cases hkn : k < n
        · obtain ⟨b, off, rfl, hb, hcx⟩ := hc k (by omega)
          have CC : cI zs (v : Int) (k + 1) = cI zs (v : Int) k + if iat zs k = (v : Int) then 1 else 0 := rfl
          have hle : cI zs (v : Int) k ≤ k := by
            have : ∀ m, cI zs (v : Int) m ≤ m := by
              intro m
              induction m with
              | zero => exact Nat.le_refl _
              | succ m ih => unfold cI; split <;> omega
            exact this k
          obtain ⟨x, hxe⟩ : ∃ x, x = iat zs k := ⟨_, rfl⟩
          rw [← hxe] at hcx CC
          obtain ⟨c, hce⟩ : ∃ c, c = cI zs (v : Int) k := ⟨_, rfl⟩
          rw [← hce] at CC hle ⊢
          have HC := hid_o CC
          clear hxe hce CC
          by_cases e : x = (v : Int)
          · subst e
            go_wp2
            go_roundw
            case measure => simp [intOf]; omega
            case rel => exact ⟨k + 1, by omega, by go_num, by rw [HC.out, if_pos rfl]; go_num, by first | rfl | trivial⟩
          · go_wp2
            go_roundw
            case measure => simp [intOf]; omega
            case rel => exact ⟨k + 1, by omega, by go_num, by rw [HC.out, if_neg e]; rfl, by first | rfl | trivial⟩
        · have e : k = n := by omega
          subst e
          have OO : oR zs (v + 1) = (oR zs v && decide (cI zs (v : Int) zs.length = 1)) := rfl
          rw [HO.out, Bool.true_and, hn] at OO
          by_cases h1 : cI zs (v : Int) k = 1
          · rw [decide_eq_true h1] at OO
            have HOO := hid_o OO
            rw [h1]
            clear OO h1
            go_wp2
            go_roundw
            case measure => simp [intOf]; omega
            case rel => exact ⟨v + 1, by omega, by go_num, HOO.out, by first | rfl | trivial⟩
          · rw [decide_eq_false h1] at OO
            have e := HOF.out v OO hlt
            subst e
            obtain ⟨c, hce⟩ : ∃ c, c = cI zs (v : Int) k := ⟨_, rfl⟩
            rw [← hce] at h1 ⊢
            have h1' : ¬ (c : Int) = 1 := by omega
            clear OO hce
            go_wp2
            go_ret
            exact ⟨rfl, rfl⟩
    · have e : v = n := by omega
      subst e
      have e := HE.out
      rw [ho] at e
      subst e
      clear ho
      go_wp2
      go_ret
      exact ⟨rfl, rfl⟩

set_option maxRecDepth 20000 in
set_option maxHeartbeats 4000000 in
theorem rparity_any (ao : Option Addr) (cap n : Nat) (zs : List Int) (w : World) (hn : zs.length = n) (hsz : n * 8 ≤ 140737488355328) (hc : Qi w ao zs) :
    Calls Try.prog 24 #[.slice ao n cap] w fun e w' => ∃ m, e = .returned (.tuple #[.int .i64 (paI zs), .int .i64 (rfE zs)]) ∧ w' = w.drewN m := by
  by_cases h64 : 64 < n
  · have e3 : rfE zs = 3 := rf_3 (by omega)
    rw [show paI zs = 0 from if_neg (by rw [e3]; decide), e3]
    clear hc
    go_enter Try.func24, Try.ntmps24
    go_wp2
    go_ret2
    exact ⟨0, rfl, rfl⟩
  have h64' : n ≤ 64 := by omega
  have RO := hid_o (fun (W : World) (h : Qi W ao zs) => rorder_any ao cap n zs W hn h64' h)
  cases ho : oR zs n
  · have e2 : rfE zs = 2 := rf_2 (by omega) (by rw [← oR_ordK, hn]; exact ho)
    rw [show paI zs = 0 from if_neg (by rw [e2]; decide), e2]
    rw [ho] at RO
    go_enter Try.func24, Try.ntmps24
    go_wp2_with (first
      | (go_at_call 58; (with_reducible refine (RO.out _ hc).mono ?_); rintro e w1 ⟨rfl, hw1⟩; subst w1))
    go_ret2
    exact ⟨0, rfl, rfl⟩
  · have e0 : rfE zs = 0 := rf_0 (by omega) (by rw [← oR_ordK, hn]; exact ho)
    have hS : paI zs = pm (iT zs n) := by
      rw [show paI zs = sgL zs from if_pos e0, ← hn, iT_all]; rfl
    rw [hS, e0]
    rw [ho] at RO
    clear e0 hS ho
    go_enter Try.func24, Try.ntmps24
    go_wp2_with (first
      | (go_at_call 58; (with_reducible refine (RO.out _ hc).mono ?_); rintro e w1 ⟨rfl, hw1⟩; subst w1))
    go_loopw [4, 5] (fun s i wr => ∃ (k m : Nat) (sv : Int), k ≤ n ∧ i = .int .i64 k ∧ s = .int .i64 sv ∧ sv = pm (iT zs k) ∧ wr = w.drewN m) (fun _ i _ => n - (intOf i).toNat)
    case atStart => exact ⟨0, 0, 1, Nat.zero_le _, rfl, rfl, rfl, rfl⟩
    case round =>
      obtain ⟨i, m, sv, hi, rfl, rfl, hsv, hw⟩ := hrel
      by_cases hin : i < n
      · have HSV := hid_o hsv
        have HW := hid_o hw
        have IT : Hid (iT zs (i + 1) = iT zs i + cK zs (iat zs i) (i + 1) n) := by rw [← hn]; rfl
        clear hsv hw
        go_wp2
        go_loopw [4, 6] (fun s j wr => ∃ (k m : Nat) (sv : Int), i + 1 ≤ k ∧ k ≤ n ∧ j = .int .i64 k ∧ s = .int .i64 sv ∧ sv = pm (iT zs i + cK zs (iat zs i) (i + 1) k) ∧ wr = w.drewN m) (fun _ j _ => n - (intOf j).toNat)
        case atStart => exact ⟨i + 1, m, sv, Nat.le_refl _, by omega, by go_num, rfl, by rw [cK_low _ _ (Nat.le_refl _), Nat.add_zero]; exact HSV.out, HW.out⟩
        case round =>
          clear HSV HW
          obtain ⟨k, m, sv, hik, hk, rfl, rfl, hsv, hw⟩ := hrel
          by_cases hkn : k < n
          · obtain ⟨b, off, hA, hb, hcx⟩ := hc.drewN m i (by omega)
            obtain ⟨b', off', hA', hb', hcy⟩ := hc.drewN m k (by omega)
            rw [hA] at hA'
            cases hA'
            subst hA
            rw [← hw] at hb hcx hcy
            have CK : cK zs (iat zs i) (i + 1) (k + 1) = cK zs (iat zs i) (i + 1) k + if i + 1 ≤ k ∧ iat zs k < iat zs i then 1 else 0 := rfl
            obtain ⟨x, hxe⟩ : ∃ x, x = iat zs i := ⟨_, rfl⟩
            obtain ⟨y, hye⟩ : ∃ y, y = iat zs k := ⟨_, rfl⟩
            rw [← hxe] at hcx
            rw [← hye] at hcy
            rw [← hye, ← hxe] at CK
            have hpm := pm_pm (iT zs i + cK zs (iat zs i) (i + 1) k)
            rw [← hsv] at hpm
            have hneg : wrap64 (-sv) = -sv := by unfold wrap64; omega
            have HW := hid_o hw
            have HSV := hid_o hsv
            have HCK := hid_o CK
            have HX := hid_o hxe
            clear hsv hw CK hye hxe
            by_cases hyx : y < x
            · go_wp2
              go_region
              all_goals
                go_wp2
                go_roundw
                case measure => simp [intOf]; omega
                case rel => exact ⟨k + 1, _, -sv, by omega, by omega, by go_num, rfl, by rw [← HX.out, HCK.out, if_pos ⟨hik, hyx⟩, ← Nat.add_assoc, pm_succ, HX.out, ← HSV.out], by rw [HW.out]; first | rfl | exact World.drewN_drewN w m 1⟩
            · go_wp2
              go_region
              all_goals
                go_wp2
                go_roundw
                case measure => simp [intOf]; omega
                case rel => exact ⟨k + 1, _, sv, by omega, by omega, by go_num, rfl, by rw [← HX.out, HCK.out, if_neg (show ¬ (i + 1 ≤ k ∧ y < x) by omega), Nat.add_zero, HX.out, ← HSV.out], by rw [HW.out]; first | rfl | exact World.drewN_drewN w m 1⟩
          · have e : k = n := by omega
            subst e
            have HSV := hid_o hsv
            have HW := hid_o hw
            clear hsv hw
            go_wp2
            go_roundw
            case measure => simp [intOf]; omega
            case rel => exact ⟨i + 1, m, sv, by omega, by go_num, rfl, by rw [IT.out]; exact HSV.out, HW.out⟩
      · have e : i = n := by omega
        subst e
        have HSV := hid_o hsv
        have HW := hid_o hw
        clear hsv hw
        go_wp2
        go_ret2
        exact ⟨m, by rw [← HSV.out]; rfl, HW.out⟩

theorem swE_0 {zs : List Int} {i j : Int} (h : swE zs i j = 0) : rfE zs = 0 ∧ (0 ≤ i ∧ i < (zs.length : Int)) ∧ (0 ≤ j ∧ j < (zs.length : Int)) := by
  unfold swE at h
  by_cases h1 : rfE zs = 0
  · rw [if_neg (fun c => c h1)] at h
    by_cases h2 : ¬ (0 ≤ i ∧ i < (zs.length : Int)) ∨ ¬ (0 ≤ j ∧ j < (zs.length : Int))
    · rw [if_pos h2] at h; cases h
    · exact ⟨h1, by omega, by omega⟩
  · rw [if_pos h1] at h; exact absurd h h1
/-- the first k numbers of an order with two places exchanged -/
theorem sw_take {zs : List Int} {i j k : Nat} (hi : i < zs.length) (hj : j < zs.length) (hk : k < zs.length) : (sw zs i j).take (k + 1) = (sw zs i j).take k ++ [if k = i then iat zs j else if k = j then iat zs i else iat zs k] := by
  have hl : k < (sw zs i j).length := by rw [sw_len]; exact hk
  rw [List.take_add_one, iat_lt hl, iat_sw hi hj]
  by_cases a : k = i
  · by_cases b : k = j
    · rw [if_pos b, if_pos a, ← a, ← b]; rfl
    · rw [if_neg b, if_pos a, if_pos a]; rfl
  · by_cases b : k = j
    · rw [if_pos b, if_neg a, if_pos b]; rfl
    · rw [if_neg b, if_neg a, if_neg a, if_neg b]; rfl
theorem irI_push {w1 : World} {b k g cap : Nat} {zs : List Int} {r : Int} (hl : zs.length = k) (hown : w1.ownsRow b 3 1 (.slice (some ⟨g, 0, none⟩) (k + 1) cap) (k + 1) (zs.map ci ++ [.int .i64 r])) : Ir w1 b (.slice (some ⟨g, 0, none⟩) (k + 1) cap) (k + 1) (zs ++ [r]) := by
  refine ⟨by rw [List.length_append, hl]; rfl, ?_⟩
  rw [List.map_append]; exact hown
set_option maxRecDepth 20000 in
set_option maxHeartbeats 8000000 in
theorem rswapped_ok (ao : Option Addr) (cap n i j : Nat) (zs : List Int) (w : World) (hn : zs.length = n) (h0 : rfE zs = 0) (hi : i < n) (hj : j < n) (hc : Qi w ao zs) :
    Calls Try.prog 26 #[.slice ao n cap, .int .i64 i, .int .i64 j] w fun e w' => ∃ g c, e = .returned (.tuple #[.slice (some ⟨g, 0, none⟩) n c, .int .i64 0]) ∧ Ir w' w.heap.size (.slice (some ⟨g, 0, none⟩) n c) n (sw zs i j) ∧ Below w.heap.size w w' := by
  obtain ⟨h64, _⟩ := rfE_0.1 h0
  rw [hn] at h64
  obtain ⟨i0, hi0, hz0, hz1, hz2⟩ := info_parts Try.infoI
  have RP := hid_o (fun (W : World) (h : Qi W ao zs) => rparity_any ao cap n zs W hn (by omega) h)
  obtain ⟨p, hp⟩ : ∃ p, p = paI zs := ⟨_, rfl⟩
  rw [h0, ← hp] at RP
  clear h0 hp
  have dn1 : decide (n ≤ i) = false := decide_eq_false (by omega)
  have dn2 : decide (n ≤ j) = false := decide_eq_false (by omega)
  go_enter Try.func26, Try.ntmps26
  go_wp2_with (first
    | (go_at_call 24; (with_reducible refine (RP.out _ hc).mono ?_); rintro e w1 ⟨m1, rfl, rfl⟩))
  go_loopw [10, 11] (fun v q wr => ∃ (k : Nat) (v0 : Value), k ≤ n ∧ q = .int .i64 k ∧ v0 = v ∧ Ir wr w.heap.size v0 k ((sw zs i j).take k) ∧ Below w.heap.size w wr) (fun _ q _ => n - (intOf q).toNat)
  case atStart => exact ⟨0, _, Nat.zero_le _, rfl, rfl, ⟨rfl, World.ownsRow_nil _ _ _ _⟩, below_drewN (below_self w) m1⟩
  case round =>
    obtain ⟨k, v0, hk, rfl, rfl, hI, hbel⟩ := hrel
    have hS := hbel.size
    by_cases hlt : k < n
    · have hck := (hc.below hbel) k (by omega)
      have hci := (hc.below hbel) i (by omega)
      have hcj := (hc.below hbel) j (by omega)
      obtain ⟨b, off, hA, hb, ck⟩ := hck
      obtain ⟨b2, off2, hA2, _, ci'⟩ := hci
      obtain ⟨b3, off3, hA3, _, cj⟩ := hcj
      rw [hA] at hA2 hA3
      cases hA2
      cases hA3
      subst hA
      have TK := sw_take (zs := zs) (i := i) (j := j) (k := k) (by omega) (by omega) (by omega)
      obtain ⟨zk, hzk⟩ : ∃ zk, zk = iat zs k := ⟨_, rfl⟩
      obtain ⟨zi, hzi⟩ : ∃ zi, zi = iat zs i := ⟨_, rfl⟩
      obtain ⟨zj, hzj⟩ : ∃ zj, zj = iat zs j := ⟨_, rfl⟩
      rw [← hzk] at ck TK
      rw [← hzi] at ci' TK
      rw [← hzj] at cj TK
      have HTK := hid_o TK
      have HB := hid_o hbel
      have HI := hid_o hI
      have hlk : ((sw zs i j).take k).length = k := by rw [List.length_take, sw_len]; omega
      have HLK := hid_o hlk
      clear hbel hI TK hlk hzk hzi hzj hc
      by_cases ei : k = i
      · have ei' : (k : Int) = (i : Int) := by omega
        have HEI := hid_o ei
        clear ei
        go_wp2_with (first
          | (at_builtin; refine wpList_append_lies _ (by rfl) _ _ 45 (by rfl) w.heap.size 3 i0 (.int .i64 0) 1 8 Try.underlying45 hi0 hz0 hz1 hz2 (by rfl) (by decide) v0 k (((sw zs i j).take k).map ci) (by rfl) (HI.out.own.alloc _) ⟨_, 0, none⟩ 1 1 [.int .i64 zj] (by rfl) (by rfl) (fun j u hj => by match j, hj with | 0, hj => (simp at hj; subst hj; simp [Addr.add])) (fun u hu => by simp at hu; subst hu; rfl) (by decide) (by unfold maxLen; omega) (by omega) (by simp; omega) _ rfl ?_; intro g1 cap1 w7 hown1 hgrow1 hat1 hlt1; have I7 := hid_o (irI_push HLK.out hown1); have B7 := hid_o ((HB.out.alloc HB.out.size _).grown hgrow1 (Nat.le_trans HB.out.size (by simp)) (fun j hj => own_ge HI.out.own hj)); clear hown1 hgrow1 hat1))
        exact ⟨⟨k + 1, _, by omega, by go_num, rfl, by rw [HTK.out, if_pos HEI.out]; exact I7.out, B7.out⟩, by simp [intOf]; omega⟩
      · have ei' : ¬ (k : Int) = (i : Int) := by omega
        by_cases ej : k = j
        · have ej' : (k : Int) = (j : Int) := by omega
          have HEJ := hid_o ej
          clear ej
          go_wp2_with (first
            | (at_builtin; refine wpList_append_lies _ (by rfl) _ _ 45 (by rfl) w.heap.size 3 i0 (.int .i64 0) 1 8 Try.underlying45 hi0 hz0 hz1 hz2 (by rfl) (by decide) v0 k (((sw zs i j).take k).map ci) (by rfl) (HI.out.own.alloc _) ⟨_, 0, none⟩ 1 1 [.int .i64 zi] (by rfl) (by rfl) (fun j u hj => by match j, hj with | 0, hj => (simp at hj; subst hj; simp [Addr.add])) (fun u hu => by simp at hu; subst hu; rfl) (by decide) (by unfold maxLen; omega) (by omega) (by simp; omega) _ rfl ?_; intro g1 cap1 w7 hown1 hgrow1 hat1 hlt1; have I7 := hid_o (irI_push HLK.out hown1); have B7 := hid_o ((HB.out.alloc HB.out.size _).grown hgrow1 (Nat.le_trans HB.out.size (by simp)) (fun j hj => own_ge HI.out.own hj)); clear hown1 hgrow1 hat1))
          exact ⟨⟨k + 1, _, by omega, by go_num, rfl, by rw [HTK.out, if_neg ei, if_pos HEJ.out]; exact I7.out, B7.out⟩, by simp [intOf]; omega⟩
        · have ej' : ¬ (k : Int) = (j : Int) := by omega
          go_wp2_with (first
            | (at_builtin; refine wpList_append_lies _ (by rfl) _ _ 45 (by rfl) w.heap.size 3 i0 (.int .i64 0) 1 8 Try.underlying45 hi0 hz0 hz1 hz2 (by rfl) (by decide) v0 k (((sw zs i j).take k).map ci) (by rfl) (HI.out.own.alloc _) ⟨_, 0, none⟩ 1 1 [.int .i64 zk] (by rfl) (by rfl) (fun j u hj => by match j, hj with | 0, hj => (simp at hj; subst hj; simp [Addr.add])) (fun u hu => by simp at hu; subst hu; rfl) (by decide) (by unfold maxLen; omega) (by omega) (by simp; omega) _ rfl ?_; intro g1 cap1 w7 hown1 hgrow1 hat1 hlt1; have I7 := hid_o (irI_push HLK.out hown1); have B7 := hid_o ((HB.out.alloc HB.out.size _).grown hgrow1 (Nat.le_trans HB.out.size (by simp)) (fun j hj => own_ge HI.out.own hj)); clear hown1 hgrow1 hat1))
          exact ⟨⟨k + 1, _, by omega, by go_num, rfl, by rw [HTK.out, if_neg ei, if_neg ej]; exact I7.out, B7.out⟩, by simp [intOf]; omega⟩
    · have e : k = n := by omega
      subst e
      have ht : (sw zs i j).take k = sw zs i j := List.take_of_length_le (by rw [sw_len]; omega)
      rw [ht] at hI
      obtain ⟨g, c, rfl, hg⟩ := own_shape hI.own (by omega)
      have HQ := hid_o hI
      have HB := hid_o hbel
      clear hI hbel hc
      go_wp2
      go_ret2
      exact ⟨_, _, rfl, HQ.out, HB.out⟩
set_option maxHeartbeats 4000000 in
theorem rswapped_err (ao : Option Addr) (cap n : Nat) (i j : Int) (zs : List Int) (w : World) (hn : zs.length = n) (hsz : n * 8 ≤ 140737488355328) (h0 : ¬ swE zs i j = 0) (hc : Qi w ao zs) :
    Calls Try.prog 26 #[.slice ao n cap, .int .i64 i, .int .i64 j] w fun e w' => e = .returned (.tuple #[.slice none 0 0, .int .i64 (swE zs i j)]) ∧ Below w.heap.size w w' := by
  have RP := hid_o (fun (W : World) (h : Qi W ao zs) => rparity_any ao cap n zs W hn hsz h)
  obtain ⟨p, hp⟩ : ∃ p, p = paI zs := ⟨_, rfl⟩
  rw [← hp] at RP
  clear hp
  by_cases h1 : rfE zs = 0
  case neg =>
    rw [show swE zs i j = rfE zs from if_pos h1]
    obtain ⟨E, hE⟩ : ∃ E, E = rfE zs := ⟨_, rfl⟩
    rw [← hE] at h1 RP ⊢
    clear hE h0
    go_enter Try.func26, Try.ntmps26
    go_wp2_with (first
      | (go_at_call 24; (with_reducible refine (RP.out _ hc).mono ?_); rintro e w1 ⟨m1, rfl, rfl⟩))
    go_ret2
    exact ⟨rfl, below_drewN (below_self _) _⟩
  have h2 : ¬ (0 ≤ i ∧ i < (zs.length : Int)) ∨ ¬ (0 ≤ j ∧ j < (zs.length : Int)) := by
    by_cases c : ¬ (0 ≤ i ∧ i < (zs.length : Int)) ∨ ¬ (0 ≤ j ∧ j < (zs.length : Int))
    · exact c
    · exact absurd (by unfold swE; rw [if_neg (fun h => h h1), if_neg c]) h0
  have e2 : swE zs i j = 2 := by unfold swE; rw [if_neg (fun h => h h1), if_pos h2]
  rw [e2]
  rw [h1] at RP
  rw [hn] at h2
  clear h0 h1 e2
  have h3 : i < 0 ∨ (0 ≤ i ∧ (n : Int) ≤ i) ∨ (0 ≤ i ∧ i < (n : Int) ∧ j < 0) ∨ (0 ≤ i ∧ i < (n : Int) ∧ 0 ≤ j ∧ (n : Int) ≤ j) := by omega
  clear h2
  rcases h3 with h | ⟨h, k⟩ | ⟨h, k, l⟩ | ⟨h, k, l, m⟩
  all_goals
    go_enter Try.func26, Try.ntmps26
    go_wp2_with (first
      | (go_at_call 24; (with_reducible refine (RP.out _ hc).mono ?_); rintro e w1 ⟨m1, rfl, rfl⟩))
    go_ret2
    exact ⟨rfl, below_drewN (below_self _) _⟩

end Go.Proofs.Ytgpjlobclcbniaa
