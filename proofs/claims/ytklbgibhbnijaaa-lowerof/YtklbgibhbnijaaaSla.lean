/-
  Unknowns one behind the other, as functions of places; what solve's reduced, allFinite and undivided hand back.
-/
import Derived.Test.YtklbgibhbnijaaaLwb
import Derived.Test.YtklbgibhbnijaaaLwg
namespace Go.Proofs.Ytklbgibhbnijaaa
open Fl RowKit

/-- a number less each entry times its unknown -/
def redS (s : Cn) (E K : Nat → Cn) : Nat → Cn
  | 0 => s
  | k + 1 => subZ (redS s E K k) (mulZ (E k) (K k))
theorem redS_congr {s : Cn} {E E' K K' : Nat → Cn} {n : Nat} (h1 : ∀ k, k < n → E k = E' k) (h2 : ∀ k, k < n → K k = K' k) : redS s E K n = redS s E' K' n := by
  induction n with
  | zero => rfl
  | succ n ih => unfold redS; rw [ih (fun k hk => h1 k (by omega)) (fun k hk => h2 k (by omega)), h1 n (by omega), h2 n (by omega)]
def upC (f : Nat → Cn) (k : Nat) (v : Cn) (j : Nat) : Cn := if j = k then v else f j
theorem upC_self (f : Nat → Cn) (k : Nat) (v : Cn) : upC f k v k = v := if_pos rfl
theorem upC_ne (f : Nat → Cn) {k j : Nat} (v : Cn) (h : j ≠ k) : upC f k v j = f j := if_neg h
/-- one unknown of a matrix with nothing right of its diagonal, in the place of the right side -/
def stF (m : Nat → Nat → Cn) (L : Cn → Cn → Cn) (i : Nat) (f : Nat → Cn) : Nat → Cn := upC f i (L (redS (f i) (m i) f i) (m i i))
def fwS (m : Nat → Nat → Cn) (L : Cn → Cn → Cn) (f : Nat → Cn) : Nat → (Nat → Cn)
  | 0 => f
  | i + 1 => stF m L i (fwS m L f i)
/-- the same with nothing left of it -/
def stB (n : Nat) (m : Nat → Nat → Cn) (L : Cn → Cn → Cn) (i : Nat) (f : Nat → Cn) : Nat → Cn := upC f i (L (redS (f i) (fun k => m i (i + 1 + k)) (fun k => f (i + 1 + k)) (n - 1 - i)) (m i i))
def bwS (n : Nat) (m : Nat → Nat → Cn) (L : Cn → Cn → Cn) (f : Nat → Cn) : Nat → (Nat → Cn)
  | 0 => f
  | t + 1 => stB n m L (n - 1 - t) (bwS n m L f t)
/-- a list that is read and lies below block b -/
def Rcb (b : Nat) (w : World) (ao : Option Addr) (xs : List Cw) : Prop :=
  ∀ k, k < xs.length → ∃ B off, ao = some ⟨B, off, none⟩ ∧ B < b ∧ w.cell? ⟨B, off + k, none⟩ = some (cx (zat xs k))
theorem Rcb.rc {b : Nat} {w : World} {ao : Option Addr} {xs : List Cw} (h : Rcb b w ao xs) (hb : b ≤ w.heap.size) : Rc w ao xs := fun k hk => by
  obtain ⟨B, off, h1, h2, h3⟩ := h k hk
  exact ⟨B, off, h1, by omega, h3⟩
theorem Rc.rcb {w : World} {ao : Option Addr} {xs : List Cw} (h : Rc w ao xs) : Rcb w.heap.size w ao xs := h
theorem Rcb.later {b : Nat} {w w' : World} {ao : Option Addr} {xs : List Cw} (h : Rcb b w ao xs) (hb : Below b w w') : Rcb b w' ao xs := fun k hk => by
  obtain ⟨B, off, h1, h2, h3⟩ := h k hk
  exact ⟨B, off, h1, h2, (hb.cell (p := ⟨B, off + k, none⟩) h2).trans h3⟩
theorem Rcb.mono {b b' : Nat} {w : World} {ao : Option Addr} {xs : List Cw} (h : Rcb b w ao xs) (hb : b ≤ b') : Rcb b' w ao xs := fun k hk => by
  obtain ⟨B, off, h1, h2, h3⟩ := h k hk
  exact ⟨B, off, h1, by omega, h3⟩
/-- what a function of two numbers says -/
def SaysF (F : FuncId) (f : Cn → Cn → Cn) : Prop :=
  ∀ (p q : Cw) (P : Cn) (W : World), repz P p → okz q → Calls Try.prog F #[.complex .f64 p.1 p.2, .complex .f64 q.1 q.2] W fun e W' => ∃ (r : Cw) (m : Nat), e = .returned (.complex .f64 r.1 r.2) ∧ repz (f P (anz q)) r ∧ W' = W.drewN m
theorem says_div : SaysF 93 divZ := fun _ _ _ W hp hq =>
  (div_any W hp.1 hp.2 (repz_anz hq).1 (repz_anz hq).2).mono (by rintro e w' ⟨re, im, n, rfl, h1, h2, rfl⟩; exact ⟨(re, im), n, rfl, ⟨h1, h2⟩, rfl⟩)
def fstZ (s _d : Cn) : Cn := s
theorem says_und : SaysF 95 fstZ := by
  intro p q P W hp hq
  have HP := hid_o hp
  clear hp
  go_enter Try.func95, Try.ntmps95
  go_wp2
  go_ret
  exact ⟨p, 0, rfl, HP.out, by first | rfl | simp⟩
theorem ent_div : Ent 93 := by unfold Ent; intro args w; go_simp
theorem ent_und : Ent 95 := by unfold Ent; intro args w; go_simp
theorem mul_zz {W : World} {x y : Cw} {X Y : Cn} (hx : repz X x) (hy : repz Y y) : Calls Try.prog 97 #[.complex .f64 x.1 x.2, .complex .f64 y.1 y.2] W fun e w' => ∃ (r : Cw) (n : Nat), e = .returned (.complex .f64 r.1 r.2) ∧ repz (mulZ X Y) r ∧ w' = W.drewN n :=
  (mul_any W hx.1 hx.2 hy.1 hy.2).mono (by rintro e w' ⟨re, im, n, rfl, h1, h2, rfl⟩; exact ⟨(re, im), n, rfl, ⟨h1, h2⟩, rfl⟩)
theorem sub_zz {W : World} {x y : Cw} {X Y : Cn} (hx : repz X x) (hy : repz Y y) : Calls Try.prog 118 #[.complex .f64 x.1 x.2, .complex .f64 y.1 y.2] W fun e w' => ∃ (r : Cw) (n : Nat), e = .returned (.complex .f64 r.1 r.2) ∧ repz (subZ X Y) r ∧ w' = W.drewN n :=
  (sub_any W hx.1 hx.2 hy.1 hy.2).mono (by rintro e w' ⟨re, im, n, rfl, h1, h2, rfl⟩; exact ⟨(re, im), n, rfl, ⟨h1, h2⟩, rfl⟩)
set_option maxHeartbeats 1000000 in
theorem reduced_any (s : Cw) (S : Cn) (ao bo : Option Addr) (ca cb n nk : Nat) (E K : Nat → Cn) (es ks : List Cw) (w : World) (hs : repz S s) (hl : es.length = n) (hk : ks.length = nk) (hnk : n ≤ nk) (h4 : nk ≤ 4096) (he : Rc w ao es) (hkn : Rc w bo ks) (hE : repl E n es) (hK : repl K n ks) :
    Calls Try.prog 121 #[.complex .f64 s.1 s.2, .slice ao n ca, .slice bo nk cb] w fun e w' => ∃ (r : Cw) (m : Nat), e = .returned (.complex .f64 r.1 r.2) ∧ repz (redS S E K n) r ∧ w' = w.drewN m := by
  have HS := hid_o hs
  have HE := hid_o hE
  have HK := hid_o hK
  have HEs := hid_o he
  have HKs := hid_o hkn
  clear hs hE hK he hkn
  go_enter Try.func121, Try.ntmps121
  go_wp2
  go_loopw [0, 11] (fun sv iv wr => ∃ (k m : Nat) (r : Cw), k ≤ n ∧ iv = .int .i64 k ∧ sv = .complex .f64 r.1 r.2 ∧ repz (redS S E K k) r ∧ wr = w.drewN m) (fun _ iv _ => n - (intOf iv).toNat)
  case atStart => exact ⟨0, 0, s, Nat.zero_le _, rfl, rfl, HS.out, rfl⟩
  case round =>
    obtain ⟨k, m, r, hkn, rfl, rfl, hr, rfl⟩ := hrel
    have HR := hid_o hr
    clear hr
    by_cases hlt : k < n
    · obtain ⟨b1, o1, rfl, hb1, hc1⟩ := (HEs.out.drewN m) k (by omega)
      obtain ⟨b2, o2, rfl, hb2, hc2⟩ := (HKs.out.drewN m) k (by omega)
      have HX := hid_o (HE.out k hlt)
      have HY := hid_o (HK.out k hlt)
      obtain ⟨x, hxe⟩ : ∃ x, x = zat es k := ⟨_, rfl⟩
      obtain ⟨y, hye⟩ : ∃ y, y = zat ks k := ⟨_, rfl⟩
      rw [← hxe] at hc1 HX
      rw [← hye] at hc2 HY
      clear hxe hye HE HK HEs HKs
      unfold cx at hc1 hc2
      go_wp2_with (first
        | (go_at_call 97; (with_reducible refine (mul_zz HX.out HY.out).mono ?_); rintro e w' ⟨t, m2, rfl, ht, rfl⟩; have HT := hid_o ht; clear ht)
        | (go_at_call 118; (with_reducible refine (sub_zz HR.out HT.out).mono ?_); rintro e w' ⟨u, m3, rfl, hu, rfl⟩; have HU := hid_o hu; clear hu))
      go_roundw
      case measure => simp [intOf]; omega
      case rel => exact ⟨k + 1, m + m2 + m3, u, by omega, by go_num, rfl, HU.out, by first | rfl | simp only [World.drewN_drewN]⟩
    · have e : k = n := by omega
      subst e
      clear HE HK HEs HKs
      go_wp2
      go_ret
      exact ⟨r, m, rfl, HR.out, rfl⟩
set_option maxHeartbeats 1000000 in
theorem allfin_any (ao : Option Addr) (cap n : Nat) (xs : List Cw) (w : World) (hn : xs.length = n) (hsz : n ≤ 1000000000000000) (hc : Rc w ao xs) (hx : okl xs) :
    Calls Try.prog 62 #[.slice ao n cap] w fun e w' => e = .returned (.bool (finL xs n)) ∧ w' = w := by
  have NT : Hid (∀ k, k < n → finL xs k = true → finZ (zat xs k) = false → finL xs n = false) := fun k hk a c => by
    cases e : finL xs n
    · rfl
    · rw [finL_iff.1 e k hk] at c; cases c
  obtain ⟨r, hr⟩ : ∃ r, r = finL xs n := ⟨_, rfl⟩
  rw [← hr] at NT ⊢
  have HR := hid_o hr
  clear hr
  go_enter Try.func62, Try.ntmps62
  go_wp2
  go_loopw [7] (fun i wr => ∃ (k : Nat), k ≤ n ∧ i = .int .i64 k ∧ finL xs k = true ∧ wr = w) (fun i _ => n - (intOf i).toNat)
  case atStart => exact ⟨0, Nat.zero_le _, rfl, rfl, rfl⟩
  case round =>
    obtain ⟨k, hk, rfl, hf, hw⟩ := hrel
    by_cases hlt : k < n
    · obtain ⟨b, off, rfl, hb, hcx⟩ := hc k (by omega)
      rw [← hw] at hb hcx
      have HW : Hid (wr = w) := hw
      have F2 : finL xs (k + 1) = (finL xs k && finZ (zat xs k)) := rfl
      rw [hf, Bool.true_and] at F2
      have ho := hx k
      have F1 := hid_o (NT.out k hlt hf)
      obtain ⟨x, hxe⟩ : ∃ x, x = zat xs k := ⟨_, rfl⟩
      rw [← hxe] at hcx F1 F2 ho
      unfold cx at hcx
      have G2 : Hid (finL xs (k + 1) = finZ x) := F2
      clear hxe hc hf hw F2 hx
      cases f1 : finZ x
      · have e1 : r = false := F1.out f1
        subst e1
        go_wp2_with (go_at_call 82; (with_reducible refine (fin_walk ho).mono ?_); rintro e w' ⟨rfl, rfl⟩; rw [f1])
        go_ret
        exact ⟨rfl, HW.out⟩
      · go_wp2_with (go_at_call 82; (with_reducible refine (fin_walk ho).mono ?_); rintro e w' ⟨rfl, rfl⟩; rw [f1])
        exact ⟨⟨k + 1, by omega, by go_num, by rw [G2.out]; exact f1, HW.out⟩, by simp [intOf]; omega⟩
    · have e : k = n := by omega
      subst e
      have HW : Hid (wr = w) := hw
      have e1 : r = true := HR.out.trans hf
      subst e1
      clear hx hc hf hw
      go_wp2
      go_ret
      exact ⟨rfl, HW.out⟩

end Go.Proofs.Ytklbgibhbnijaaa
