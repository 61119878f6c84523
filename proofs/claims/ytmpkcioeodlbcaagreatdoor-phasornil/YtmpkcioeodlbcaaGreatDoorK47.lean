/-
  Several texts in one: Lmb Lmd Slg Pha Phb.
-/
import Derived.Test.YtmpkcioeodlbcaaGreatDoorK46
import Derived.Test.YtmpkcioeodlbcaaGreatDoorK14
import Derived.Test.YtmpkcioeodlbcaaGreatDoorK45
import Derived.Test.YtmpkcioeodlbcaaGreatDoorK32
import Derived.Test.YtmpkcioeodlbcaaGreatDoorK40
import Derived.Test.YtmpkcioeodlbcaaGreatDoorK31
import Derived.Deep.AppendLies
import Derived.Deep.RegionHeldLaw
import Derived.Test.YtmpkcioeodlbcaaGreatDoorK24
import Derived.Test.YtmpkcioeodlbcaaGreatDoorK30
import Derived.Test.YtmpkcioeodlbcaaGreatDoorK26
import Derived.Test.YtmpkcioeodlbcaaGreatDoorK39
import Derived.Test.YtmpkcioeodlbcaaGreatDoorK38
import Derived.Test.YtmpkcioeodlbcaaGreatDoorK36
import Derived.Test.YtmpkcioeodlbcaaGreatDoorK35
import Derived.BigQuiet
import Derived.Deep.QuietTactic
import Derived.Deep.RegionWith
namespace Go.Proofs.YtmpkcioeodlbcaaGreatDoor
open Fl RowKit
/-- the order has each row once -/
def inO (n : Nat) (o : Nat → Nat) : Prop := (∀ i, i < n → o i < n) ∧ ∀ i j, i < n → j < n → o i = o j → i = j
theorem swO_in {n k q : Nat} {o : Nat → Nat} (h : inO n o) (hk : k < n) (hq : q < n) : inO n (swO o k q) := by
  refine ⟨fun i hi => ?_, fun i j hi hj e => ?_⟩
  · unfold swO
    split
    · exact h.1 q hq
    · split
      · exact h.1 k hk
      · exact h.1 i hi
  · unfold swO at e
    by_cases a1 : i = k
    · rw [if_pos a1] at e
      by_cases b1 : j = k
      · omega
      · rw [if_neg b1] at e
        by_cases b2 : j = q
        · rw [if_pos b2] at e; have := h.2 q k hq hk e; omega
        · rw [if_neg b2] at e; have := h.2 q j hq hj e; omega
    · rw [if_neg a1] at e
      by_cases a2 : i = q
      · rw [if_pos a2] at e
        by_cases b1 : j = k
        · rw [if_pos b1] at e; have := h.2 k q hk hq e; omega
        · rw [if_neg b1] at e
          by_cases b2 : j = q
          · omega
          · rw [if_neg b2] at e; have := h.2 k j hk hj e; omega
      · rw [if_neg a2] at e
        by_cases b1 : j = k
        · rw [if_pos b1] at e; have := h.2 i q hi hq e; omega
        · rw [if_neg b1] at e
          by_cases b2 : j = q
          · rw [if_pos b2] at e; have := h.2 i k hi hk e; omega
          · rw [if_neg b2] at e; exact h.2 i j hi hj e
theorem stp_o {n k : Nat} {S : Es} (h0 : (stp n k S).1 = 0) : ¬ (pvt n S.M k).2 = 0 ∧ goodB n (swM S.M k (k + (pvt n S.M k).1)) k = true ∧ stp n k S = (0, ⟨redM (swM S.M k (k + (pvt n S.M k).1)) k, swO S.o k (k + (pvt n S.M k).1), if (pvt n S.M k).1 = 0 then S.s else -S.s⟩) := by
  by_cases h7 : (pvt n S.M k).2 = 0
  · rw [stp_7 h7] at h0; exact absurd (show (7 : Int) = 0 from h0) (by decide)
  · cases hg : goodB n (swM S.M k (k + (pvt n S.M k).1)) k
    · rw [stp_6 h7 hg] at h0; exact absurd (show (6 : Int) = 0 from h0) (by decide)
    · exact ⟨h7, rfl, stp_0 h7 hg⟩
theorem elm_in {n : Nat} {M : Nat → Nat → Cw} : ∀ k, k ≤ n → (elm n M k).1.1 = 0 → inO n (elm n M k).2.o := by
  intro k
  induction k with
  | zero => intro _ _; exact ⟨fun i hi => hi, fun i j _ _ e => e⟩
  | succ k ih =>
    intro hk h
    have h0 := elm_prev h
    rw [elm_succ h0] at h ⊢
    obtain ⟨h7, _, e⟩ := stp_o h
    rw [e]
    exact swO_in (ih (by omega) h0) (by omega) (pvt_lt h7)
end Go.Proofs.YtmpkcioeodlbcaaGreatDoor
namespace Go.Proofs.YtmpkcioeodlbcaaGreatDoor
open Fl RowKit
theorem div_lt' {k n : Nat} (h : k < n * n) : k / n < n ∧ k % n < n := by
  have hn : 0 < n := by
    rcases Nat.eq_zero_or_pos n with h0 | h0
    · subst h0; omega
    · exact h0
  exact ⟨Nat.div_lt_of_lt_mul h, Nat.mod_lt _ hn⟩
end Go.Proofs.YtmpkcioeodlbcaaGreatDoor
namespace Go.Proofs.YtmpkcioeodlbcaaGreatDoor
open Fl RowKit
theorem flL_ok {n : Nat} {M : Nat → Nat → Cw} (h : okM n M) : ∀ k, k < n * n → okz (flw n (lE M) k) := by
  intro k hk
  obtain ⟨h1, h2⟩ := div_lt' hk
  unfold flw lE lF
  split
  · exact h _ _ h1 h2
  · split <;> exact ⟨by decide, by decide⟩
theorem flU_ok {n : Nat} {M : Nat → Nat → Cw} (h : okM n M) : ∀ k, k < n * n → okz (flw n (uE M) k) := by
  intro k hk
  obtain ⟨h1, h2⟩ := div_lt' hk
  unfold flw uE uF
  split
  · exact ⟨by decide, by decide⟩
  · exact h _ _ h1 h2
/-- the numbers of L and of U -/
def mzL (M : Nat → Nat → Cw) (i j : Nat) : Cn := anz (lE M i j)
def mzU (M : Nat → Nat → Cw) (i j : Nat) : Cn := anz (uE M i j)
theorem mz_l {n : Nat} {M : Nat → Nat → Cw} {i j : Nat} (hj : j < n) : mz n (flw n (lE M)) i j = mzL M i j := by unfold mz mzL; rw [flw_at hj]
theorem mz_u {n : Nat} {M : Nat → Nat → Cw} {i j : Nat} (hj : j < n) : mz n (flw n (uE M)) i j = mzU M i j := by unfold mz mzU; rw [flw_at hj]
theorem fwS_congr {n : Nat} {m m' : Nat → Nat → Cn} (L : Cn → Cn → Cn) (f : Nat → Cn) (h : ∀ i j, i < n → j < n → m i j = m' i j) : ∀ k, k ≤ n → fwS m L f k = fwS m' L f k := by
  intro k
  induction k with
  | zero => intro _; rfl
  | succ k ih =>
    intro hk
    show stF m L k (fwS m L f k) = stF m' L k (fwS m' L f k)
    rw [ih (by omega)]
    unfold stF
    rw [redS_congr (E' := m' k) (fun j hj => h k j (by omega) (by omega)) (fun _ _ => rfl), h k k (by omega) (by omega)]
theorem bwS_congr {n : Nat} {m m' : Nat → Nat → Cn} (L : Cn → Cn → Cn) (f : Nat → Cn) (h : ∀ i j, i < n → j < n → m i j = m' i j) : ∀ t, t ≤ n → bwS n m L f t = bwS n m' L f t := by
  intro t
  induction t with
  | zero => intro _; rfl
  | succ t ih =>
    intro ht
    show stB n m L (n - 1 - t) (bwS n m L f t) = stB n m' L (n - 1 - t) (bwS n m' L f t)
    rw [ih (by omega)]
    unfold stB
    rw [redS_congr (E' := fun k => m' (n - 1 - t) (n - 1 - t + 1 + k)) (fun j hj => h _ _ (by omega) (by omega)) (fun _ _ => rfl), h _ _ (by omega) (by omega)]
/-- what Solve tells -/
def solX (n : Nat) (M : Nat → Nat → Cw) (o : Nat → Nat) (xs : List Cw) : Nat → Cn := slS n (mzL M) (mzU M) (fun i => anz (zat xs (o i)))
def solK (n : Nat) (M : Nat → Nat → Cw) (o : Nat → Nat) (xs : List Cw) : Bool := okS n (mzL M) (mzU M) (fun i => anz (zat xs (o i)))
theorem sol_eq (n : Nat) (M : Nat → Nat → Cw) (c : Nat → Cn) : slS n (mz n (flw n (lE M))) (mz n (flw n (uE M))) c = slS n (mzL M) (mzU M) c ∧ okS n (mz n (flw n (lE M))) (mz n (flw n (uE M))) c = okS n (mzL M) (mzU M) c := by
  have e1 : frw n (mz n (flw n (lE M))) c = frw n (mzL M) c := fwS_congr _ _ (fun i j _ hj => mz_l hj) n (Nat.le_refl _)
  have e2 : slS n (mz n (flw n (lE M))) (mz n (flw n (uE M))) c = slS n (mzL M) (mzU M) c := by
    unfold slS bck
    rw [e1]
    exact bwS_congr _ _ (fun i j _ hj => mz_u hj) n (Nat.le_refl _)
  refine ⟨e2, ?_⟩
  unfold okS
  rw [e1, e2]
theorem Got.base {w0 w w' : World} {n : Nat} {ok : Bool} {x : Nat → Cn} {v : Value} {E : Int} (h : Got w w' n ok x v E) (hb : w0.heap.size ≤ w.heap.size) : Got w0 w' n ok x v E := by
  rcases h with ⟨h1, h2, g, y, h3, h4, h5⟩ | h
  · exact .inl ⟨h1, h2, g, y, h3, h4, h5.len, own_base h5.own hb⟩
  · exact .inr h
section solve
variable {w : World} {v : Value} {n : Nat} {M : Nat → Nat → Cw} {o : Nat → Nat} {s : Int} (h : Lhd w v n M o s) {ao : Option Addr} {l cap : Nat} {xs : List Cw} (hl : xs.length = l) (hsz : l ≤ 1000000000000000) (hn : n ≤ 64) (hc : Rc w ao xs) (hx : okl xs)
include h hl hsz hn hc hx
set_option maxHeartbeats 1000000 in
theorem solve_ok (hE : rfS n s l xs = 0) (hM : okM n M) (ho : ∀ i, i < n → o i < n) : Calls Tryz.prog 103 #[v, .slice ao l cap] w fun e w' => ∃ u E, e = .returned (.tuple #[u, .int .i64 E]) ∧ Got w w' n (solK n M o xs) (solX n M o xs) u E ∧ Below w.heap.size w w' := by
  have HR := hid_o (refused_any' h ao l cap xs hl hsz hn hc hx)
  have hln : l = n := by
    unfold rfS at hE
    by_cases h0 : s = 0
    · rw [if_pos h0] at hE; exact absurd hE (by decide)
    · rw [if_neg h0] at hE
      by_cases h1 : l = n
      · exact h1
      · rw [if_pos h1] at hE; exact absurd hE (by decide)
  subst hln
  rw [hE] at HR
  have HH := hid_o h
  have HC : Hid (Rc w ao (ro l (zat xs))) := by rw [← ro_of hl]; exact hc
  have HX : Hid (∀ k, k < l → okz (zat xs k)) := fun k _ => hx k
  have HM := hid_o hM
  have HO := hid_o ho
  have HS := hid_o (sol_eq l M (fun i => anz (zat xs (o i))))
  clear h hl hc hx hE hM ho
  go_enter Tryz.func103, Tryz.ntmps103
  go_wp2_with (first
    | (go_at_call 140; (with_reducible refine HR.out.mono ?_); rintro e w1 ⟨rfl, hb⟩; have HB := hid_o hb; clear hb)
    | (go_at_call 142; (with_reducible refine (lh_order (HH.out.below HB.out) hn).mono ?_); rintro e w2 ⟨g2, rfl, h2, hb⟩; have HB2 := hid_o (HB.out.trans (hb.mono HB.out.size)); have HQ := hid_o h2.qi; clear hb h2)
    | (go_at_call 143; (with_reducible refine (lh_l (HH.out.below HB2.out) hn).mono ?_); rintro e w3 ⟨g3, rfl, h3, hb⟩; have HQ3 := hid_o (HQ.out.below hb); have HB3 := hid_o (HB2.out.trans (hb.mono HB2.out.size)); have HL := hid_o h3.rc; clear hb h3 HQ)
    | (go_at_call 144; (with_reducible refine (lh_u (HH.out.below HB3.out) hn).mono ?_); rintro e w4 ⟨g4, rfl, h4, hb⟩; have HQ4 := hid_o (HQ3.out.below hb); have HL4 := hid_o (HL.out.below hb); have HB4 := hid_o (HB3.out.trans (hb.mono HB3.out.size)); have HU := hid_o h4.rc; clear hb h4 HQ3 HL)
    | (go_at_call 141; (with_reducible refine (unknowns_any hn HO.out HQ4.out HL4.out (flL_ok HM.out) HU.out (flU_ok HM.out) (HC.out.below HB4.out) HX.out).mono ?_); rintro e w5 ⟨u, E, rfl, hG, hb⟩; have HG := hid_o hG; have HB5 := hid_o (HB4.out.trans (hb.mono HB4.out.size)); clear hb hG))
  go_ret2
  refine ⟨u, E, rfl, ?_, HB5.out⟩
  have hg := HG.out.base HB4.out.size
  rw [HS.out.1, HS.out.2] at hg
  exact hg
end solve
end Go.Proofs.YtmpkcioeodlbcaaGreatDoor
namespace Go.Proofs.YtmpkcioeodlbcaaGreatDoor
open Fl Go.Maps Go.RowKit Joins Deep
set_option linter.unusedVariables false
set_option maxRecDepth 100000
/-- the divider's text -/
def dvS : ByteArray := ⟨#[86, 49, 32, 105, 110, 32, 48, 32, 56, 10, 82, 49, 32, 105, 110, 32, 111, 117, 116, 32, 50, 10, 82, 50, 32, 111, 117, 116, 32, 48, 32, 50, 10]⟩
def dtk (l : List UInt8) (a b : Nat) : Tok := (⟨l.toArray⟩, a, b)
def dvT : List (List Tok) := [[dtk [86, 49] 0 0, dtk [105, 110] 0 3, dtk [48] 0 6, dtk [56] 0 8], [dtk [82, 49] 1 0, dtk [105, 110] 1 3, dtk [111, 117, 116] 1 6, dtk [50] 1 10], [dtk [82, 50] 2 0, dtk [111, 117, 116] 2 3, dtk [48] 2 7, dtk [50] 2 9]]
def dvE : List Elm := [⟨5, ⟨#[86, 49]⟩, ⟨#[105, 110]⟩, ⟨#[48]⟩, ⟨#[]⟩, ⟨#[]⟩, 4620693217682128896, 0⟩, ⟨1, ⟨#[82, 49]⟩, ⟨#[105, 110]⟩, ⟨#[111, 117, 116]⟩, ⟨#[]⟩, ⟨#[]⟩, 4611686018427387904, 0⟩, ⟨1, ⟨#[82, 50]⟩, ⟨#[111, 117, 116]⟩, ⟨#[48]⟩, ⟨#[]⟩, ⟨#[]⟩, 4611686018427387904, 0⟩]
theorem dv_er : erL 0 (liT dvS) = (0, 0) := by kernel_rfl
theorem dv_tk : psL dvS = dvT := by kernel_rfl
theorem dv_a : psA dvS = dvE := by unfold psA; rw [dv_tk]; kernel_rfl
theorem dv_p : prsE 0 (psL dvS) = (0, 0) := by rw [dv_tk]; kernel_rfl
/-- the divider's net -/
def dvN : Ns := ⟨dvE, [[86, 49], [82, 49], [82, 50]], [[105, 110], [111, 117, 116]], [[86, 49]]⟩
theorem dv_of : ofA dvE = ((0, 0), dvN) := by kernel_rfl
theorem dv_e : psE dvS = (0, 0) := by
  unfold psE
  rw [dv_er, dv_p]
  show (if (0 : Nat) ≠ 0 then _ else if (0 : Int) ≠ 0 then _ else psF dvS (ofA (psA dvS)).1) = _
  rw [if_neg (by simp), if_neg (by simp), dv_a, dv_of]; rfl
theorem dv_ok : ∀ x ∈ dvE, x.ok := by
  intro x hx
  simp only [dvE, List.mem_cons, List.not_mem_nil, or_false] at hx
  rcases hx with rfl | rfl | rfl <;> exact ⟨by decide, by decide, by decide, by decide, by decide, by decide, by decide⟩
theorem dv_pb : ∀ x ∈ dvE, x.phb := by
  intro x hx
  simp only [dvE, List.mem_cons, List.not_mem_nil, or_false] at hx
  rcases hx with rfl | rfl | rfl <;> exact ⟨by decide, by decide⟩
theorem dv_md : Md dvN := by
  have h := Md.of (l := dvE) (by rw [dv_of]) dv_ok dv_pb
  rw [dv_of] at h
  exact h
def dvF : Fr_God := (growF 100 wJ ([48] :: dvN.nd) dvN.es (Fr_God.new ([48] :: dvN.nd))).getD ⟨[], [], [], []⟩
theorem gr_dv : growF 100 wJ ([48] :: dvN.nd) dvN.es (Fr_God.new ([48] :: dvN.nd)) = some dvF := by kernel_rfl
theorem pa_dv : paF 100 dvF.tw (dvN.nd.length + 1) 0 0 (List.replicate (dvN.nd.length + 1) (-1)) = some [0, 0, 0] := by kernel_rfl
theorem dv_gn {w : World} {b0 p : Nat} {b : Nb} (h : Nt w b0 p dvN b) : Gn w p 100 dvN wJ dvF :=
  ⟨⟨b0, b, h⟩, by decide, by decide, by decide, by decide, fun x hx => by
    simp only [dvN, dvE, List.mem_cons, List.not_mem_nil, or_false] at hx
    rcases hx with rfl | rfl | rfl <;> exact ⟨by decide, by decide, by decide, by decide, by decide, by decide⟩, by decide, gr_dv, by decide⟩
theorem dv_grounded {w : World} {b0 p : Nat} {b : Nb} (h : Nt w b0 p dvN b) : Calls Tryz.prog 100 #[.pointer (some ⟨p, 0, none⟩)] w fun e w' => e = .returned (.agg #[.int .i64 0, .int .i64 0]) ∧ Below w.heap.size w w' :=
  grounded_any (dv_gn h) pa_dv
def dvO : Nat := 4607182418800017408
def dvM : List Cw := [(4602678819172646912, 0), (13826050856027422720, 0), (4607182418800017408, 0), (13826050856027422720, 0), (4607182418800017408, 0), (0, 0), (4607182418800017408, 0), (0, 0), (0, 0)]
def dvB : List Cw := [(0, 0), (0, 0), (4620693217682128896, 0)]
theorem dv_st : (stA dvN dvO).1 = (0, 0) := by kernel_rfl
theorem dv_mx : ∀ k, k < 9 → mxR 3 (stA dvN dvO).2 k = (some (zat dvM k).1, some (zat dvM k).2) := by
  intro k hk
  rcases (by omega : k = 0 ∨ k = 1 ∨ k = 2 ∨ k = 3 ∨ k = 4 ∨ k = 5 ∨ k = 6 ∨ k = 7 ∨ k = 8) with rfl | rfl | rfl | rfl | rfl | rfl | rfl | rfl | rfl <;> kernel_rfl
theorem dv_rf : rgF dvN = (0, 0) := by kernel_rfl
theorem dv_rk : rgK dvN = 3 := by kernel_rfl
theorem dv_rg : ∀ k, k < 3 → rgR dvN k = (some (zat dvB k).1, some (zat dvB k).2) := by
  intro k hk
  rcases (by omega : k = 0 ∨ k = 1 ∨ k = 2) with rfl | rfl | rfl <;> kernel_rfl
def dvL (i j : Nat) : Cw := zat dvM (i * 3 + j)
def dvX : List Cw := [(4620693217682128896, 0), (4616189618054758400, 0), (13835058055282163712, 0)]
theorem dv_le : (elm 3 dvL 3).1.1 = 0 := by kernel_rfl
theorem dv_ls : (elm 3 dvL 3).2.s = -1 := by kernel_rfl
theorem dv_lf : nff dvM (3 * 3) = 3 * 3 := by kernel_rfl
theorem dv_rs : rfS 3 (-1) 3 dvB = 0 := by kernel_rfl
theorem dv_K : solK 3 (elm 3 dvL 3).2.M (elm 3 dvL 3).2.o dvB = true := by kernel_rfl
theorem dv_X : ∀ j, j < 3 → solX 3 (elm 3 dvL 3).2.M (elm 3 dvL 3).2.o dvB j = (some (zat dvX j).1, some (zat dvX j).2) := by
  intro k hk
  rcases (by omega : k = 0 ∨ k = 1 ∨ k = 2) with rfl | rfl | rfl <;> kernel_rfl
theorem ph_list {xs ys : List Cw} {n : Nat} (hl : xs.length = n) (hy : ys.length = n) {R : Nat → Cn} (hr : repl R n xs) (h : ∀ k, k < n → R k = (some (zat ys k).1, some (zat ys k).2)) : xs = ys := by
  apply List.ext_getElem (by rw [hl, hy])
  intro k h1 h2
  have e := hr k (by omega)
  rw [h k (by omega)] at e
  have e2 := repz_in e
  have z1 := zat_lt (xs := xs) (k := k) (by omega)
  have z2 := zat_lt (xs := ys) (k := k) (by omega)
  rw [List.getElem?_eq_getElem h1] at z1
  rw [List.getElem?_eq_getElem h2] at z2
  rw [Option.some.inj z1, Option.some.inj z2]
  exact e2
theorem ph_okl {n : Nat} {xs : List Cw} (hl : xs.length = n) (h : ∀ k, k < n → okz (zat xs k)) : okl xs := fun k => by
  by_cases hk : k < n
  · exact h k hk
  · rw [zat_ge (by omega)]; exact ⟨by decide, by decide⟩
theorem dv_okM : okl dvM := ph_okl (n := 9) rfl (by
  intro k hk
  rcases (by omega : k = 0 ∨ k = 1 ∨ k = 2 ∨ k = 3 ∨ k = 4 ∨ k = 5 ∨ k = 6 ∨ k = 7 ∨ k = 8) with rfl | rfl | rfl | rfl | rfl | rfl | rfl | rfl | rfl <;> exact ⟨by decide, by decide⟩)
theorem dv_okB : okl dvB := ph_okl (n := 3) rfl (by
  intro k hk
  rcases (by omega : k = 0 ∨ k = 1 ∨ k = 2) with rfl | rfl | rfl <;> exact ⟨by decide, by decide⟩)
/-- the divider's matrix -/
theorem dv_matrix {w : World} {nb p : Nat} {b : Nb} (h : Nt w nb p dvN b) : Calls Tryz.prog 101 #[.pointer (some ⟨p, 0, none⟩), .float .f64 dvO] w fun e w' => ∃ g c, e = .returned (.tuple #[.agg #[.int .i64 3, .int .i64 3, .slice (some ⟨g, 0, none⟩) 9 c], .agg #[.int .i64 0, .int .i64 0]]) ∧ Rc w' (some ⟨g, 0, none⟩) dvM ∧ 9 ≤ c ∧ w.heap.size ≤ g ∧ Below w.heap.size w w' := by
  refine (smatrix_any h dv_md (by decide)).mono ?_
  rintro e w' ⟨hb, ⟨_, v, rfl, hN⟩ | ⟨h1, _⟩⟩
  · obtain ⟨xs, h1, h2⟩ := hN
    obtain ⟨g, c, rfl, hg, hc, _⟩ := own_shape h1.own (show 0 < 9 by decide)
    have hx : xs = dvM := ph_list h1.len rfl h2 dv_mx
    have h3 := h1.rc
    rw [hx] at h3
    exact ⟨g, c, rfl, h3, hc, hg, hb⟩
  · rw [dv_st] at h1; exact absurd rfl h1
theorem dv_right {w : World} {nb p : Nat} {b : Nb} (h : Nt w nb p dvN b) : Calls Tryz.prog 94 #[.pointer (some ⟨p, 0, none⟩)] w fun e w' => ∃ g c, e = .returned (.tuple #[.slice (some ⟨g, 0, none⟩) 3 c, .agg #[.int .i64 0, .int .i64 0]]) ∧ Rc w' (some ⟨g, 0, none⟩) dvB ∧ w.heap.size ≤ g ∧ Below w.heap.size w w' := by
  refine (sright_res h dv_md).mono ?_
  rintro e w' ⟨A, c, rfl, hr, hb⟩
  rw [dv_rk] at hr ⊢
  rw [dv_rf]
  obtain ⟨xs, h1, h2⟩ := hr
  obtain ⟨g, c', hv, hg, hc, _⟩ := own_shape h1.own (show 0 < 3 by decide)
  injection hv with e1 e2 e3
  subst e1 e3
  have hx : xs = dvB := ph_list h1.len rfl h2 dv_rg
  have h3 := h1.rc
  rw [hx] at h3
  exact ⟨g, _, rfl, h3, hg, hb⟩
theorem ph_qi {w : World} {b g n c : Nat} {zs : List Int} (h : Ir w b (.slice (some ⟨g, 0, none⟩) n c) n zs) : Qi w (some ⟨g, 0, none⟩) zs := by
  obtain ⟨rfl, h2⟩ := h
  intro k hk
  refine ⟨g, 0, rfl, (h2.lt g rfl).2, ?_⟩
  rw [Nat.zero_add, h2.cellAt k (by omega), List.getElem?_map, iat_lt hk]; rfl
theorem ph_lh {w : World} {b p n gr go : Nat} {bl : Nat → Nat} {M : Nat → Nat → Cw} {o : Nat → Nat} {s : Int} (h : Lo w b p n gr go bl M o s) : Lhd w (.pointer (some ⟨p, 0, none⟩)) n M o s :=
  ⟨_, _, _, _, h.hs, ⟨fun i hi => ⟨gr, bl i, rfl, (h.rows.lt gr rfl).2, h.cell hi, ((h.row i hi).own.lt _ rfl).2, fun _ hj => h.cellM hi hj⟩⟩, ph_qi h.ord⟩
theorem rc_but {w w' : World} {g : Nat} {xs : List Cw} (h : Rc w (some ⟨g, 0, none⟩) xs) (hs : w.heap.size ≤ w'.heap.size) (hg : w'.heap[g]? = w.heap[g]?) : Rc w' (some ⟨g, 0, none⟩) xs := fun k hk => by
  obtain ⟨b, off, h1, h2, h3⟩ := h k hk
  cases h1
  exact ⟨g, 0, rfl, Nat.lt_of_lt_of_le h2 hs, by rw [World.cell?_of_block (w := w) hg]; exact h3⟩
theorem dv_lower (W : World) (A : Option Addr) (c : Nat) (hc : 9 ≤ c) (hr : Rc W A dvM) :
    Calls Tryz.prog 102 #[.agg #[.int .i64 3, .int .i64 3, .slice A 9 c]] W fun e w' => ∃ p, e = .returned (.tuple #[.pointer (some ⟨p, 0, none⟩), .agg #[.int .i64 0, .int .i64 0]]) ∧ Lhd w' (.pointer (some ⟨p, 0, none⟩)) 3 (elm 3 dvL 3).2.M (elm 3 dvL 3).2.o (-1) ∧ Below W.heap.size W w' := by
  refine (of_square 3 A c dvM dvL W (by decide) rfl hc hr dv_okM dv_lf (fun _ _ _ _ => rfl)).mono ?_
  rintro e w' ⟨_, h2, h3⟩
  obtain ⟨p, gr, go, bl, he', hL⟩ := h2 dv_le
  refine ⟨p, he', ?_, h3⟩
  rw [← dv_ls]
  exact ph_lh hL
theorem ph_eok {n : Nat} {xs : List Cw} {M : Nat → Nat → Cw} (hx : okl xs) (hf : nff xs (n * n) = n * n) (hM : ∀ i j, i < n → j < n → M i j = zat xs (i * n + j)) (he : (elm n M n).1.1 = 0) : Eok n (elm n M n).2 :=
  elm_eok (fun i j hi hj => by rw [hM i j hi hj]; exact hx _) (fun i j hi hj => by rw [hM i j hi hj]; exact finL_iff.1 (nff_fin hf) _ (place_lt hi hj)) n (Nat.le_refl _) he
theorem dv_eok : Eok 3 (elm 3 dvL 3).2 := ph_eok dv_okM dv_lf (fun _ _ _ _ => rfl) dv_le
theorem dv_solve {w : World} {p : Nat} (h : Lhd w (.pointer (some ⟨p, 0, none⟩)) 3 (elm 3 dvL 3).2.M (elm 3 dvL 3).2.o (-1)) {A : Option Addr} {c : Nat} (hc : Rc w A dvB) :
    Calls Tryz.prog 103 #[.pointer (some ⟨p, 0, none⟩), .slice A 3 c] w fun e w' => ∃ g, e = .returned (.tuple #[.slice (some ⟨g, 0, none⟩) 3 3, .int .i64 0]) ∧ Rc w' (some ⟨g, 0, none⟩) dvX ∧ w.heap.size ≤ g ∧ Below w.heap.size w w' := by
  refine (solve_ok h (l := 3) (cap := c) rfl (by decide) (by decide) hc dv_okB dv_rs dv_eok.ok (elm_in 3 (Nat.le_refl _) dv_le).1).mono ?_
  rintro e w' ⟨u, E, rfl, hG, hb⟩
  rcases hG with ⟨_, rfl, g, yy, rfl, h1, h2⟩ | ⟨h0, _, _⟩
  · have hx : ro 3 yy = dvX := ph_list (n := 3) (ro_len 3 yy) rfl (R := solX 3 (elm 3 dvL 3).2.M (elm 3 dvL 3).2.o dvB) (fun j hj => by rw [ro_at _ hj]; exact h1 j hj) dv_X
    rw [hx] at h2
    exact ⟨g, rfl, h2.rc, (h2.own.lt g rfl).1, hb⟩
  · rw [dv_K] at h0; cases h0
end Go.Proofs.YtmpkcioeodlbcaaGreatDoor
namespace Go.Proofs.YtmpkcioeodlbcaaGreatDoor
open Fl Go.Maps Go.RowKit Joins Deep
set_option linter.unusedVariables false
set_option maxRecDepth 20000
theorem ph_made_yes {w : World} {nb p : Nat} {N : Ns} {b : Nb} (h : Nt w nb p N b) (hn : [] ∉ N.nm) : Calls Tryz.prog 56 #[.pointer (some ⟨p, 0, none⟩)] w fun e w' => e = .returned (.bool true) ∧ w' = w := by
  have HW := hidS (without_no h hn)
  go_enter Tryz.func56, Tryz.ntmps56
  go_wp2_with (go_at_call 92; (with_reducible refine HW.out.mono ?_); rintro e w1 ⟨rfl, hw⟩; subst w1)
  go_ret
  exact ⟨rfl, rfl⟩
theorem ph_made_none {w : World} {v : Value} (h : NoNet v w) : Calls Tryz.prog 56 #[v] w fun e w' => e = .returned (.bool false) ∧ w' = w := by
  have HW := hidS (nwithout_none h ⟨#[]⟩)
  go_enter Tryz.func56, Tryz.ntmps56
  go_wp2_with (go_at_call 92; (with_reducible refine HW.out.mono ?_); rintro e w1 ⟨rfl, hw⟩; subst w1)
  go_ret
  exact ⟨rfl, rfl⟩
theorem ph_refused_none {w : World} {v : Value} (h : NoNet v w) (o : Nat) : Calls Tryz.prog 69 #[v, .float .f64 o] w fun e w' => e = .returned (.int .i64 1) ∧ w' = w := by
  have HW := hidS (ph_made_none h)
  go_enter Tryz.func69, Tryz.ntmps69
  go_wp2_with (go_at_call 56; (with_reducible refine HW.out.mono ?_); rintro e w1 ⟨rfl, hw⟩; subst w1)
  go_ret
  exact ⟨rfl, rfl⟩
theorem ph_refused_one {w : World} {nb p : Nat} {N : Ns} {b : Nb} (h : Nt w nb p N b) (hn : [] ∉ N.nm) : Calls Tryz.prog 69 #[.pointer (some ⟨p, 0, none⟩), .float .f64 dvO] w fun e w' => e = .returned (.int .i64 0) ∧ w' = w := by
  have HW := hidS (ph_made_yes h hn)
  have HF := hidS (fin_any (a := dvO) (b := 0) (w := w) (by decide) (by decide))
  rw [show (finB dvO && finB 0) = true from by decide] at HF
  have q1 : FloatKind.f64.format.order dvO 0 = some .gt := by kernel_rfl
  go_enter Tryz.func69, Tryz.ntmps69
  go_wp2_with (first
    | (go_at_call 56; (with_reducible refine HW.out.mono ?_); rintro e w1 ⟨rfl, hw⟩; subst w1)
    | (go_at_call 59; (with_reducible refine HF.out.mono ?_); rintro e w1 ⟨rfl, hw⟩; subst w1))
  go_ret
  exact ⟨rfl, rfl⟩
theorem nowhere_any (i : Int) (w : World) : Calls Tryz.prog 70 #[.int .i64 i] w fun e w' => e = .returned (.agg #[.int .i64 i, .int .i64 (-1)]) ∧ w' = w.alloc (.cells #[.int .i64 i, .int .i64 (-1)] 69) := by
  go_enter Tryz.func70, Tryz.ntmps70
  go_wp2_with fail
  refine bodyPost_ret (by simp [results, Tryz.results70, go_sem]; try rfl) rfl ?_
  exact ⟨rfl, rfl⟩
end Go.Proofs.YtmpkcioeodlbcaaGreatDoor
