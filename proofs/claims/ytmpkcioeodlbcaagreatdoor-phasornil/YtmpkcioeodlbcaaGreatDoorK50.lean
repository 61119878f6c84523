/-
  Several texts in one: Pha Phb Phc Phd Phd2 Phe Phf Phg Phh Phi.
-/
import Derived.Test.YtmpkcioeodlbcaaGreatDoorK28
import Derived.Test.YtmpkcioeodlbcaaGreatDoorK31
import Derived.Test.YtmpkcioeodlbcaaGreatDoorK29
import Derived.Test.YtmpkcioeodlbcaaGreatDoorK44
import Derived.Test.YtmpkcioeodlbcaaGreatDoorK42
import Derived.Test.YtmpkcioeodlbcaaGreatDoorK49
import Derived.Test.YtmpkcioeodlbcaaGreatDoorK41
import Derived.Test.YtmpkcioeodlbcaaGreatDoorK23
import Derived.BigQuiet
import Derived.Deep.QuietTactic
import Derived.Deep.RegionWith
import Derived.Deep.RegionHeldLaw
namespace Go.Proofs.YtmpkcioeodlbcaaGreatDoor
open Fl Go.Maps Go.RowKit Joins Deep
set_option linter.unusedVariables false
set_option maxRecDepth 100000
/-- the divider's text -/
def dvS : ByteArray := ⟨#[86, 49, 32, 105, 110, 32, 48, 32, 56, 10, 82, 49, 32, 105, 110, 32, 111, 117, 116, 32, 50, 10, 82, 50, 32, 111, 117, 116, 32, 48, 32, 50, 10]⟩
def dtk (l : List UInt8) (a b : Nat) : Tok := (⟨l.toArray⟩, a, b)
def dvT : List (List Tok) := [[dtk [86, 49] 0 0, dtk [105, 110] 0 3, dtk [48] 0 6, dtk [56] 0 8], [dtk [82, 49] 1 0, dtk [105, 110] 1 3, dtk [111, 117, 116] 1 6, dtk [50] 1 10], [dtk [82, 50] 2 0, dtk [111, 117, 116] 2 3, dtk [48] 2 7, dtk [50] 2 9]]
def dvE : List Elm := [⟨5, ⟨#[86, 49]⟩, ⟨#[105, 110]⟩, ⟨#[48]⟩, ⟨#[]⟩, ⟨#[]⟩, 4620693217682128896, 0⟩, ⟨1, ⟨#[82, 49]⟩, ⟨#[105, 110]⟩, ⟨#[111, 117, 116]⟩, ⟨#[]⟩, ⟨#[]⟩, 4611686018427387904, 0⟩, ⟨1, ⟨#[82, 50]⟩, ⟨#[111, 117, 116]⟩, ⟨#[48]⟩, ⟨#[]⟩, ⟨#[]⟩, 4611686018427387904, 0⟩]
theorem dv_er : erL 0 (liT dvS) = (0, 0) := by kernel_rfl
theorem dv_tk : psL dvS = dvT := by kernel_rfl
theorem dv_a : psA dvS = dvE := by unfold psA; rw [dv_tk]; kernel_rfl
theorem dv_p : prsE 0 (psL dvS) = (0, 0) := by rw [dv_tk]; kernel_rfl
/-- the divider's net -/
def dvN : Ns := ⟨dvE, [[86, 49], [82, 49], [82, 50]], [[105, 110], [111, 117, 116]], [[86, 49]]⟩
theorem dv_of : ofA dvE = ((0, 0), dvN) := by kernel_rfl
theorem dv_e : psE dvS = (0, 0) := by
  unfold psE
  rw [dv_er, dv_p]
  show (if (0 : Nat) ≠ 0 then _ else if (0 : Int) ≠ 0 then _ else psF dvS (ofA (psA dvS)).1) = _
  rw [if_neg (by simp), if_neg (by simp), dv_a, dv_of]; rfl
theorem dv_ok : ∀ x ∈ dvE, x.ok := by
  intro x hx
  simp only [dvE, List.mem_cons, List.not_mem_nil, or_false] at hx
  rcases hx with rfl | rfl | rfl <;> exact ⟨by decide, by decide, by decide, by decide, by decide, by decide, by decide⟩
theorem dv_pb : ∀ x ∈ dvE, x.phb := by
  intro x hx
  simp only [dvE, List.mem_cons, List.not_mem_nil, or_false] at hx
  rcases hx with rfl | rfl | rfl <;> exact ⟨by decide, by decide⟩
theorem dv_md : Md dvN := by
  have h := Md.of (l := dvE) (by rw [dv_of]) dv_ok dv_pb
  rw [dv_of] at h
  exact h
def dvF : Fr_God := (growF 100 wJ ([48] :: dvN.nd) dvN.es (Fr_God.new ([48] :: dvN.nd))).getD ⟨[], [], [], []⟩
theorem gr_dv : growF 100 wJ ([48] :: dvN.nd) dvN.es (Fr_God.new ([48] :: dvN.nd)) = some dvF := by kernel_rfl
theorem pa_dv : paF 100 dvF.tw (dvN.nd.length + 1) 0 0 (List.replicate (dvN.nd.length + 1) (-1)) = some [0, 0, 0] := by kernel_rfl
theorem dv_gn {w : World} {b0 p : Nat} {b : Nb} (h : Nt w b0 p dvN b) : Gn w p 100 dvN wJ dvF :=
  ⟨⟨b0, b, h⟩, by decide, by decide, by decide, by decide, fun x hx => by
    simp only [dvN, dvE, List.mem_cons, List.not_mem_nil, or_false] at hx
    rcases hx with rfl | rfl | rfl <;> exact ⟨by decide, by decide, by decide, by decide, by decide, by decide⟩, by decide, gr_dv, by decide⟩
theorem dv_grounded {w : World} {b0 p : Nat} {b : Nb} (h : Nt w b0 p dvN b) : Calls Tryz.prog 100 #[.pointer (some ⟨p, 0, none⟩)] w fun e w' => e = .returned (.agg #[.int .i64 0, .int .i64 0]) ∧ Below w.heap.size w w' :=
  grounded_any (dv_gn h) pa_dv
def dvO : Nat := 4607182418800017408
def dvM : List Cw := [(4602678819172646912, 0), (13826050856027422720, 0), (4607182418800017408, 0), (13826050856027422720, 0), (4607182418800017408, 0), (0, 0), (4607182418800017408, 0), (0, 0), (0, 0)]
def dvB : List Cw := [(0, 0), (0, 0), (4620693217682128896, 0)]
theorem dv_st : (stA dvN dvO).1 = (0, 0) := by kernel_rfl
theorem dv_mx : ∀ k, k < 9 → mxR 3 (stA dvN dvO).2 k = (some (zat dvM k).1, some (zat dvM k).2) := by
  intro k hk
  rcases (by omega : k = 0 ∨ k = 1 ∨ k = 2 ∨ k = 3 ∨ k = 4 ∨ k = 5 ∨ k = 6 ∨ k = 7 ∨ k = 8) with rfl | rfl | rfl | rfl | rfl | rfl | rfl | rfl | rfl <;> kernel_rfl
theorem dv_rf : rgF dvN = (0, 0) := by kernel_rfl
theorem dv_rk : rgK dvN = 3 := by kernel_rfl
theorem dv_rg : ∀ k, k < 3 → rgR dvN k = (some (zat dvB k).1, some (zat dvB k).2) := by
  intro k hk
  rcases (by omega : k = 0 ∨ k = 1 ∨ k = 2) with rfl | rfl | rfl <;> kernel_rfl
def dvL (i j : Nat) : Cw := zat dvM (i * 3 + j)
def dvX : List Cw := [(4620693217682128896, 0), (4616189618054758400, 0), (13835058055282163712, 0)]
theorem dv_le : (elm 3 dvL 3).1.1 = 0 := by kernel_rfl
theorem dv_ls : (elm 3 dvL 3).2.s = -1 := by kernel_rfl
theorem dv_lf : nff dvM (3 * 3) = 3 * 3 := by kernel_rfl
theorem dv_rs : rfS 3 (-1) 3 dvB = 0 := by kernel_rfl
theorem dv_K : solK 3 (elm 3 dvL 3).2.M (elm 3 dvL 3).2.o dvB = true := by kernel_rfl
theorem dv_X : ∀ j, j < 3 → solX 3 (elm 3 dvL 3).2.M (elm 3 dvL 3).2.o dvB j = (some (zat dvX j).1, some (zat dvX j).2) := by
  intro k hk
  rcases (by omega : k = 0 ∨ k = 1 ∨ k = 2) with rfl | rfl | rfl <;> kernel_rfl
theorem ph_list {xs ys : List Cw} {n : Nat} (hl : xs.length = n) (hy : ys.length = n) {R : Nat → Cn} (hr : repl R n xs) (h : ∀ k, k < n → R k = (some (zat ys k).1, some (zat ys k).2)) : xs = ys := by
  apply List.ext_getElem (by rw [hl, hy])
  intro k h1 h2
  have e := hr k (by omega)
  rw [h k (by omega)] at e
  have e2 := repz_in e
  have z1 := zat_lt (xs := xs) (k := k) (by omega)
  have z2 := zat_lt (xs := ys) (k := k) (by omega)
  rw [List.getElem?_eq_getElem h1] at z1
  rw [List.getElem?_eq_getElem h2] at z2
  rw [Option.some.inj z1, Option.some.inj z2]
  exact e2
theorem ph_okl {n : Nat} {xs : List Cw} (hl : xs.length = n) (h : ∀ k, k < n → okz (zat xs k)) : okl xs := fun k => by
  by_cases hk : k < n
  · exact h k hk
  · rw [zat_ge (by omega)]; exact ⟨by decide, by decide⟩
theorem dv_okM : okl dvM := ph_okl (n := 9) rfl (by
  intro k hk
  rcases (by omega : k = 0 ∨ k = 1 ∨ k = 2 ∨ k = 3 ∨ k = 4 ∨ k = 5 ∨ k = 6 ∨ k = 7 ∨ k = 8) with rfl | rfl | rfl | rfl | rfl | rfl | rfl | rfl | rfl <;> exact ⟨by decide, by decide⟩)
theorem dv_okB : okl dvB := ph_okl (n := 3) rfl (by
  intro k hk
  rcases (by omega : k = 0 ∨ k = 1 ∨ k = 2) with rfl | rfl | rfl <;> exact ⟨by decide, by decide⟩)
/-- the divider's matrix -/
theorem dv_matrix {w : World} {nb p : Nat} {b : Nb} (h : Nt w nb p dvN b) : Calls Tryz.prog 101 #[.pointer (some ⟨p, 0, none⟩), .float .f64 dvO] w fun e w' => ∃ g c, e = .returned (.tuple #[.agg #[.int .i64 3, .int .i64 3, .slice (some ⟨g, 0, none⟩) 9 c], .agg #[.int .i64 0, .int .i64 0]]) ∧ Rc w' (some ⟨g, 0, none⟩) dvM ∧ 9 ≤ c ∧ w.heap.size ≤ g ∧ Below w.heap.size w w' := by
  refine (smatrix_any h dv_md (by decide)).mono ?_
  rintro e w' ⟨hb, ⟨_, v, rfl, hN⟩ | ⟨h1, _⟩⟩
  · obtain ⟨xs, h1, h2⟩ := hN
    obtain ⟨g, c, rfl, hg, hc, _⟩ := own_shape h1.own (show 0 < 9 by decide)
    have hx : xs = dvM := ph_list h1.len rfl h2 dv_mx
    have h3 := h1.rc
    rw [hx] at h3
    exact ⟨g, c, rfl, h3, hc, hg, hb⟩
  · rw [dv_st] at h1; exact absurd rfl h1
theorem dv_right {w : World} {nb p : Nat} {b : Nb} (h : Nt w nb p dvN b) : Calls Tryz.prog 94 #[.pointer (some ⟨p, 0, none⟩)] w fun e w' => ∃ g c, e = .returned (.tuple #[.slice (some ⟨g, 0, none⟩) 3 c, .agg #[.int .i64 0, .int .i64 0]]) ∧ Rc w' (some ⟨g, 0, none⟩) dvB ∧ w.heap.size ≤ g ∧ Below w.heap.size w w' := by
  refine (sright_res h dv_md).mono ?_
  rintro e w' ⟨A, c, rfl, hr, hb⟩
  rw [dv_rk] at hr ⊢
  rw [dv_rf]
  obtain ⟨xs, h1, h2⟩ := hr
  obtain ⟨g, c', hv, hg, hc, _⟩ := own_shape h1.own (show 0 < 3 by decide)
  injection hv with e1 e2 e3
  subst e1 e3
  have hx : xs = dvB := ph_list h1.len rfl h2 dv_rg
  have h3 := h1.rc
  rw [hx] at h3
  exact ⟨g, _, rfl, h3, hg, hb⟩
theorem ph_qi {w : World} {b g n c : Nat} {zs : List Int} (h : Ir w b (.slice (some ⟨g, 0, none⟩) n c) n zs) : Qi w (some ⟨g, 0, none⟩) zs := by
  obtain ⟨rfl, h2⟩ := h
  intro k hk
  refine ⟨g, 0, rfl, (h2.lt g rfl).2, ?_⟩
  rw [Nat.zero_add, h2.cellAt k (by omega), List.getElem?_map, iat_lt hk]; rfl
theorem ph_lh {w : World} {b p n gr go : Nat} {bl : Nat → Nat} {M : Nat → Nat → Cw} {o : Nat → Nat} {s : Int} (h : Lo w b p n gr go bl M o s) : Lhd w (.pointer (some ⟨p, 0, none⟩)) n M o s :=
  ⟨_, _, _, _, h.hs, ⟨fun i hi => ⟨gr, bl i, rfl, (h.rows.lt gr rfl).2, h.cell hi, ((h.row i hi).own.lt _ rfl).2, fun _ hj => h.cellM hi hj⟩⟩, ph_qi h.ord⟩
theorem rc_but {w w' : World} {g : Nat} {xs : List Cw} (h : Rc w (some ⟨g, 0, none⟩) xs) (hs : w.heap.size ≤ w'.heap.size) (hg : w'.heap[g]? = w.heap[g]?) : Rc w' (some ⟨g, 0, none⟩) xs := fun k hk => by
  obtain ⟨b, off, h1, h2, h3⟩ := h k hk
  cases h1
  exact ⟨g, 0, rfl, Nat.lt_of_lt_of_le h2 hs, by rw [World.cell?_of_block (w := w) hg]; exact h3⟩
theorem dv_lower (W : World) (A : Option Addr) (c : Nat) (hc : 9 ≤ c) (hr : Rc W A dvM) :
    Calls Tryz.prog 102 #[.agg #[.int .i64 3, .int .i64 3, .slice A 9 c]] W fun e w' => ∃ p, e = .returned (.tuple #[.pointer (some ⟨p, 0, none⟩), .agg #[.int .i64 0, .int .i64 0]]) ∧ Lhd w' (.pointer (some ⟨p, 0, none⟩)) 3 (elm 3 dvL 3).2.M (elm 3 dvL 3).2.o (-1) ∧ Below W.heap.size W w' := by
  refine (of_square 3 A c dvM dvL W (by decide) rfl hc hr dv_okM dv_lf (fun _ _ _ _ => rfl)).mono ?_
  rintro e w' ⟨_, h2, h3⟩
  obtain ⟨p, gr, go, bl, he', hL⟩ := h2 dv_le
  refine ⟨p, he', ?_, h3⟩
  rw [← dv_ls]
  exact ph_lh hL
theorem ph_eok {n : Nat} {xs : List Cw} {M : Nat → Nat → Cw} (hx : okl xs) (hf : nff xs (n * n) = n * n) (hM : ∀ i j, i < n → j < n → M i j = zat xs (i * n + j)) (he : (elm n M n).1.1 = 0) : Eok n (elm n M n).2 :=
  elm_eok (fun i j hi hj => by rw [hM i j hi hj]; exact hx _) (fun i j hi hj => by rw [hM i j hi hj]; exact finL_iff.1 (nff_fin hf) _ (place_lt hi hj)) n (Nat.le_refl _) he
theorem dv_eok : Eok 3 (elm 3 dvL 3).2 := ph_eok dv_okM dv_lf (fun _ _ _ _ => rfl) dv_le
theorem dv_solve {w : World} {p : Nat} (h : Lhd w (.pointer (some ⟨p, 0, none⟩)) 3 (elm 3 dvL 3).2.M (elm 3 dvL 3).2.o (-1)) {A : Option Addr} {c : Nat} (hc : Rc w A dvB) :
    Calls Tryz.prog 103 #[.pointer (some ⟨p, 0, none⟩), .slice A 3 c] w fun e w' => ∃ g, e = .returned (.tuple #[.slice (some ⟨g, 0, none⟩) 3 3, .int .i64 0]) ∧ Rc w' (some ⟨g, 0, none⟩) dvX ∧ w.heap.size ≤ g ∧ Below w.heap.size w w' := by
  refine (solve_ok h (l := 3) (cap := c) rfl (by decide) (by decide) hc dv_okB dv_rs dv_eok.ok (elm_in 3 (Nat.le_refl _) dv_le).1).mono ?_
  rintro e w' ⟨u, E, rfl, hG, hb⟩
  rcases hG with ⟨_, rfl, g, yy, rfl, h1, h2⟩ | ⟨h0, _, _⟩
  · have hx : ro 3 yy = dvX := ph_list (n := 3) (ro_len 3 yy) rfl (R := solX 3 (elm 3 dvL 3).2.M (elm 3 dvL 3).2.o dvB) (fun j hj => by rw [ro_at _ hj]; exact h1 j hj) dv_X
    rw [hx] at h2
    exact ⟨g, rfl, h2.rc, (h2.own.lt g rfl).1, hb⟩
  · rw [dv_K] at h0; cases h0
end Go.Proofs.YtmpkcioeodlbcaaGreatDoor
namespace Go.Proofs.YtmpkcioeodlbcaaGreatDoor
open Fl Go.Maps Go.RowKit Joins Deep
set_option linter.unusedVariables false
set_option maxRecDepth 20000
theorem ph_made_yes {w : World} {nb p : Nat} {N : Ns} {b : Nb} (h : Nt w nb p N b) (hn : [] ∉ N.nm) : Calls Tryz.prog 56 #[.pointer (some ⟨p, 0, none⟩)] w fun e w' => e = .returned (.bool true) ∧ w' = w := by
  have HW := hidS (without_no h hn)
  go_enter Tryz.func56, Tryz.ntmps56
  go_wp2_with (go_at_call 92; (with_reducible refine HW.out.mono ?_); rintro e w1 ⟨rfl, hw⟩; subst w1)
  go_ret
  exact ⟨rfl, rfl⟩
theorem ph_made_none {w : World} {v : Value} (h : NoNet v w) : Calls Tryz.prog 56 #[v] w fun e w' => e = .returned (.bool false) ∧ w' = w := by
  have HW := hidS (nwithout_none h ⟨#[]⟩)
  go_enter Tryz.func56, Tryz.ntmps56
  go_wp2_with (go_at_call 92; (with_reducible refine HW.out.mono ?_); rintro e w1 ⟨rfl, hw⟩; subst w1)
  go_ret
  exact ⟨rfl, rfl⟩
theorem ph_refused_none {w : World} {v : Value} (h : NoNet v w) (o : Nat) : Calls Tryz.prog 69 #[v, .float .f64 o] w fun e w' => e = .returned (.int .i64 1) ∧ w' = w := by
  have HW := hidS (ph_made_none h)
  go_enter Tryz.func69, Tryz.ntmps69
  go_wp2_with (go_at_call 56; (with_reducible refine HW.out.mono ?_); rintro e w1 ⟨rfl, hw⟩; subst w1)
  go_ret
  exact ⟨rfl, rfl⟩
theorem ph_refused_one {w : World} {nb p : Nat} {N : Ns} {b : Nb} (h : Nt w nb p N b) (hn : [] ∉ N.nm) : Calls Tryz.prog 69 #[.pointer (some ⟨p, 0, none⟩), .float .f64 dvO] w fun e w' => e = .returned (.int .i64 0) ∧ w' = w := by
  have HW := hidS (ph_made_yes h hn)
  have HF := hidS (fin_any (a := dvO) (b := 0) (w := w) (by decide) (by decide))
  rw [show (finB dvO && finB 0) = true from by decide] at HF
  have q1 : FloatKind.f64.format.order dvO 0 = some .gt := by kernel_rfl
  go_enter Tryz.func69, Tryz.ntmps69
  go_wp2_with (first
    | (go_at_call 56; (with_reducible refine HW.out.mono ?_); rintro e w1 ⟨rfl, hw⟩; subst w1)
    | (go_at_call 59; (with_reducible refine HF.out.mono ?_); rintro e w1 ⟨rfl, hw⟩; subst w1))
  go_ret
  exact ⟨rfl, rfl⟩
theorem nowhere_any (i : Int) (w : World) : Calls Tryz.prog 70 #[.int .i64 i] w fun e w' => e = .returned (.agg #[.int .i64 i, .int .i64 (-1)]) ∧ w' = w.alloc (.cells #[.int .i64 i, .int .i64 (-1)] 69) := by
  go_enter Tryz.func70, Tryz.ntmps70
  go_wp2_with fail
  refine bodyPost_ret (by simp [results, Tryz.results70, go_sem]; try rfl) rfl ?_
  exact ⟨rfl, rfl⟩
end Go.Proofs.YtmpkcioeodlbcaaGreatDoor
namespace Go.Proofs.YtmpkcioeodlbcaaGreatDoor
open Fl Go.Maps Go.RowKit Joins Deep
set_option linter.unusedVariables false
set_option maxRecDepth 20000
theorem ph_solve_none {w : World} {v : Value} (h : NoNet v w) (o : Nat) : Calls Tryz.prog 29 #[v, .float .f64 o] w fun e w' => e = .returned (.tuple #[.agg #[.float .f64 0, .slice none 0 0, .slice none 0 0], .agg #[.int .i64 1, .int .i64 (-1)]]) ∧ Below w.heap.size w w' := by
  have HW := hidS (fun W (hb : Below w.heap.size w W) => ph_refused_none (h.below hb) o)
  have HB := hidS ((bal w (.cells #[.float .f64 0, .slice none 0 0, .slice none 0 0] 35)).alloc (bal w _).size (.cells #[.int .i64 0, .int .i64 0] 69))
  have HB2 := hidS (((bal w (.cells #[.float .f64 0, .slice none 0 0, .slice none 0 0] 35)).alloc (bal w _).size (.cells #[.int .i64 1, .int .i64 (-1)] 69)).alloc ((bal w (.cells #[.float .f64 0, .slice none 0 0, .slice none 0 0] 35)).alloc (bal w _).size (.cells #[.int .i64 1, .int .i64 (-1)] 69)).size (.cells #[.int .i64 1, .int .i64 (-1)] 69))
  have HWT := hidS (fun (W : World) (i : Int) => nowhere_any i W)
  clear h
  go_enter Tryz.func29, Tryz.ntmps29
  go_wp2_with (first
    | (go_at_call 69; (with_reducible refine (HW.out _ HB.out).mono ?_); rintro e v ⟨rfl, hv⟩; subst v)
    | (go_at_call 70; (with_reducible refine (HWT.out _ _).mono ?_); rintro e v ⟨rfl, hv⟩; subst v))
  (try simp only [Exit.inBlock, Exit.then])
  refine bodyPost_ret (by simp [results, Tryz.results29, go_sem]; try rfl) rfl ?_
  exact ⟨rfl, HB2.out⟩
theorem ph_refined_none {w : World} {v : Value} (h : NoNet v w) (o : Nat) : Calls Tryz.prog 30 #[v, .float .f64 o, .int .i64 1] w fun e w' => e = .returned (.tuple #[.agg #[.float .f64 0, .slice none 0 0, .slice none 0 0], .int .i64 0, .agg #[.int .i64 1, .int .i64 (-1)]]) ∧ Below w.heap.size w w' := by
  have HW := hidS (fun W (hb : Below w.heap.size w W) => ph_refused_none (h.below hb) o)
  have HB := hidS ((bal w (.cells #[.float .f64 0, .slice none 0 0, .slice none 0 0] 35)).alloc (bal w _).size (.cells #[.int .i64 0, .int .i64 0] 69))
  have HB2 := hidS (((bal w (.cells #[.float .f64 0, .slice none 0 0, .slice none 0 0] 35)).alloc (bal w _).size (.cells #[.int .i64 1, .int .i64 (-1)] 69)).alloc ((bal w (.cells #[.float .f64 0, .slice none 0 0, .slice none 0 0] 35)).alloc (bal w _).size (.cells #[.int .i64 1, .int .i64 (-1)] 69)).size (.cells #[.int .i64 1, .int .i64 (-1)] 69))
  have HWT := hidS (fun (W : World) (i : Int) => nowhere_any i W)
  clear h
  go_enter Tryz.func30, Tryz.ntmps30
  go_wp2_with (first
    | (go_at_call 69; (with_reducible refine (HW.out _ HB.out).mono ?_); rintro e v ⟨rfl, hv⟩; subst v)
    | (go_at_call 70; (with_reducible refine (HWT.out _ _).mono ?_); rintro e v ⟨rfl, hv⟩; subst v))
  (try simp only [Exit.inBlock, Exit.then])
  refine bodyPost_ret (by simp [results, Tryz.results30, go_sem]; try rfl) rfl ?_
  exact ⟨rfl, HB2.out⟩
theorem ph_with_none {w : World} {v : Value} (h : NoNet v w) (o : Nat) : Calls Tryz.prog 31 #[v, .float .f64 o, .slice none 0 0] w fun e w' => e = .returned (.tuple #[.agg #[.float .f64 0, .slice none 0 0, .slice none 0 0], .agg #[.int .i64 1, .int .i64 (-1)]]) ∧ Below w.heap.size w w' := by
  have HW := hidS (fun W (hb : Below w.heap.size w W) => ph_refused_none (h.below hb) o)
  have HB := hidS ((bal w (.cells #[.float .f64 0, .slice none 0 0, .slice none 0 0] 35)).alloc (bal w _).size (.cells #[.int .i64 0, .int .i64 0] 69))
  have HB2 := hidS (((bal w (.cells #[.float .f64 0, .slice none 0 0, .slice none 0 0] 35)).alloc (bal w _).size (.cells #[.int .i64 1, .int .i64 (-1)] 69)).alloc ((bal w (.cells #[.float .f64 0, .slice none 0 0, .slice none 0 0] 35)).alloc (bal w _).size (.cells #[.int .i64 1, .int .i64 (-1)] 69)).size (.cells #[.int .i64 1, .int .i64 (-1)] 69))
  have HWT := hidS (fun (W : World) (i : Int) => nowhere_any i W)
  clear h
  go_enter Tryz.func31, Tryz.ntmps31
  go_wp2_with (first
    | (go_at_call 69; (with_reducible refine (HW.out _ HB.out).mono ?_); rintro e v ⟨rfl, hv⟩; subst v)
    | (go_at_call 70; (with_reducible refine (HWT.out _ _).mono ?_); rintro e v ⟨rfl, hv⟩; subst v))
  (try simp only [Exit.inBlock, Exit.then])
  refine bodyPost_ret (by simp [results, Tryz.results31, go_sem]; try rfl) rfl ?_
  exact ⟨rfl, HB2.out⟩
theorem ph_unfit_none {w : World} {v : Value} (h : NoNet v w) : Calls Tryz.prog 43 #[v, .agg #[.float .f64 0, .slice none 0 0, .slice none 0 0]] w fun e w' => e = .returned (.int .i64 1) ∧ Below w.heap.size w w' := by
  have HW := hidS (fun W (hb : Below w.heap.size w W) => ph_made_none (h.below hb))
  have HB := hidS (bal w (.cells #[.float .f64 0, .slice none 0 0, .slice none 0 0] 35))
  clear h
  go_enter Tryz.func43, Tryz.ntmps43
  go_wp2_with (go_at_call 56; (with_reducible refine (HW.out _ HB.out).mono ?_); rintro e v ⟨rfl, hv⟩; subst v)
  go_ret
  exact ⟨rfl, HB.out⟩
theorem ph_volt_none {w : World} {v : Value} (h : NoNet v w) (s : ByteArray) : Calls Tryz.prog 11 #[v, .agg #[.float .f64 0, .slice none 0 0, .slice none 0 0], .string s] w fun e w' => e = .returned (.tuple #[.complex .f64 0 0, .int .i64 1]) ∧ Below w.heap.size w w' := by
  have HW := hidS (fun W (hb : Below w.heap.size w W) => ph_unfit_none (h.below hb))
  have HB := hidS (bal w (.cells #[.float .f64 0, .slice none 0 0, .slice none 0 0] 35))
  clear h
  go_enter Tryz.func11, Tryz.ntmps11
  go_wp2_with (go_at_call 43; (with_reducible refine (HW.out _ HB.out).mono ?_); rintro e v ⟨rfl, hv⟩; (have HV := hidS (HB.out.trans (hv.mono HB.out.size))); clear hv)
  go_ret2
  exact ⟨rfl, HV.out⟩
theorem ph_across_none {w : World} {v : Value} (h : NoNet v w) (s : ByteArray) : Calls Tryz.prog 12 #[v, .agg #[.float .f64 0, .slice none 0 0, .slice none 0 0], .string s] w fun e w' => e = .returned (.tuple #[.complex .f64 0 0, .int .i64 1]) ∧ Below w.heap.size w w' := by
  have HW := hidS (fun W (hb : Below w.heap.size w W) => ph_unfit_none (h.below hb))
  have HB := hidS (bal w (.cells #[.float .f64 0, .slice none 0 0, .slice none 0 0] 35))
  clear h
  go_enter Tryz.func12, Tryz.ntmps12
  go_wp2_with (go_at_call 43; (with_reducible refine (HW.out _ HB.out).mono ?_); rintro e v ⟨rfl, hv⟩; (have HV := hidS (HB.out.trans (hv.mono HB.out.size))); clear hv)
  go_ret2
  exact ⟨rfl, HV.out⟩
theorem ph_branch_none {w : World} {v : Value} (h : NoNet v w) (s : ByteArray) : Calls Tryz.prog 13 #[v, .agg #[.float .f64 0, .slice none 0 0, .slice none 0 0], .string s] w fun e w' => e = .returned (.tuple #[.complex .f64 0 0, .int .i64 1]) ∧ Below w.heap.size w w' := by
  have HW := hidS (fun W (hb : Below w.heap.size w W) => ph_unfit_none (h.below hb))
  have HB := hidS (bal w (.cells #[.float .f64 0, .slice none 0 0, .slice none 0 0] 35))
  clear h
  go_enter Tryz.func13, Tryz.ntmps13
  go_wp2_with (go_at_call 43; (with_reducible refine (HW.out _ HB.out).mono ?_); rintro e v ⟨rfl, hv⟩; (have HV := hidS (HB.out.trans (hv.mono HB.out.size))); clear hv)
  go_ret2
  exact ⟨rfl, HV.out⟩
theorem ph_quiet_none {w : World} {v : Value} (h : NoNet v w) : Calls Tryz.prog 20 #[v] w fun e w' => e = .returned (.pointer none) ∧ w' = w := by
  have HW := hidS (ph_made_none h)
  go_enter Tryz.func20, Tryz.ntmps20
  go_wp2_with (go_at_call 56; (with_reducible refine HW.out.mono ?_); rintro e v ⟨rfl, hv⟩; subst v)
  go_ret
  exact ⟨rfl, rfl⟩
theorem ph_scaled_none {w : World} {v : Value} (h : NoNet v w) (o : Nat) : Calls Tryz.prog 21 #[v, .float .f64 o] w fun e w' => e = .returned (.tuple #[.pointer none, .int .i64 1]) ∧ Below w.heap.size w w' := by
  have HW := hidS (fun W (hb : Below w.heap.size w W) => ph_made_none (h.below hb))
  have HB := hidS (bal w (.cells #[.float .f64 o] 31))
  clear h
  go_enter Tryz.func21, Tryz.ntmps21
  go_wp2_with (go_at_call 56; (with_reducible refine (HW.out _ HB.out).mono ?_); rintro e v ⟨rfl, hv⟩; subst v)
  go_ret2
  exact ⟨rfl, HB.out⟩
end Go.Proofs.YtmpkcioeodlbcaaGreatDoor
namespace Go.Proofs.YtmpkcioeodlbcaaGreatDoor
open Fl Go.Maps Go.RowKit Joins Deep
set_option linter.unusedVariables false
set_option maxRecDepth 20000
theorem dv_pmatrix {w : World} {nb p : Nat} {b : Nb} (h : Nt w nb p dvN b) : Calls Tryz.prog 76 #[.pointer (some ⟨p, 0, none⟩), .float .f64 dvO] w fun e w' => ∃ g c, e = .returned (.tuple #[.agg #[.int .i64 3, .int .i64 3, .slice (some ⟨g, 0, none⟩) 9 c], .agg #[.int .i64 0, .int .i64 0]]) ∧ Rc w' (some ⟨g, 0, none⟩) dvM ∧ 9 ≤ c ∧ w.heap.size ≤ g ∧ Below w.heap.size w w' := by
  obtain ⟨R, hR⟩ : ∃ R, w.heap.size = R := ⟨_, rfl⟩
  have hwb : Below w.heap.size w ((w.alloc (.cells #[.int .i64 0, .int .i64 0, .slice none 0 0] 120)).alloc (.cells #[.int .i64 0, .int .i64 0] 69)) := (bal w _).alloc (bal w _).size _
  have k1 : ((w.alloc (.cells #[.int .i64 0, .int .i64 0, .slice none 0 0] 120)).alloc (.cells #[.int .i64 0, .int .i64 0] 69)).heap[R]? = some (.cells #[.int .i64 0, .int .i64 0, .slice none 0 0] 120 (0, 0)) := by
    rw [(bal _ _).block R (by rw [← hR]; simp), ← hR]; exact heap_alloc_new w _
  have k2 : ((w.alloc (.cells #[.int .i64 0, .int .i64 0, .slice none 0 0] 120)).alloc (.cells #[.int .i64 0, .int .i64 0] 69)).heap[R + 1]? = some (.cells #[.int .i64 0, .int .i64 0] 69 (0, 0)) := by
    have := heap_alloc_new (w.alloc (.cells #[.int .i64 0, .int .i64 0, .slice none 0 0] 120)) (.cells #[.int .i64 0, .int .i64 0] 69)
    rw [show (w.alloc (.cells #[.int .i64 0, .int .i64 0, .slice none 0 0] 120)).heap.size = R + 1 by rw [← hR]; simp] at this
    exact this
  have k3 : ((w.alloc (.cells #[.int .i64 0, .int .i64 0, .slice none 0 0] 120)).alloc (.cells #[.int .i64 0, .int .i64 0] 69)).heap.size = R + 2 := by rw [← hR]; simp
  obtain ⟨wF, hwF⟩ : ∃ W, (w.alloc (.cells #[.int .i64 0, .int .i64 0, .slice none 0 0] 120)).alloc (.cells #[.int .i64 0, .int .i64 0] 69) = W := ⟨_, rfl⟩
  rw [hwF] at hwb k1 k2 k3
  have HNT := hidS (h.below hwb)
  have HF := hidS (And.intro k1 (And.intro k2 (And.intro k3 hwb)))
  clear h k1 k2 k3 hwb
  go_enter Tryz.func76, Tryz.ntmps76
  go_wp2_with fail
  clear hwF
  refine (dv_grounded HNT.out).mono ?_
  rintro e1 w1 ⟨rfl, hb1⟩
  have HB1 := hidS hb1
  have HN1 := hidS (HNT.out.below hb1)
  clear hb1
  go_wp2_with fail
  refine (dv_matrix (HN1.out.below (bal w1 (.cells #[.int .i64 0, .int .i64 0] 69)))).mono ?_
  rintro e2 w2 ⟨g, c, rfl, hr, hc, hg, hb2⟩
  have HB2 : Hid (Below wF.heap.size wF w2) := (HB1.out.alloc HB1.out.size _).trans (hb2.mono (HB1.out.alloc HB1.out.size _).size)
  have HR2 := hidS (And.intro hr (And.intro hc (show R + 2 ≤ g by have e1 := HF.out.2.2.1; have e2 := HB1.out.size; have e3 := (bal w1 (.cells #[.int .i64 0, .int .i64 0] 69)).size; omega)))
  clear hr hc hb2 hg
  have e1 := HF.out.2.2.1
  have hb9 : Below w.heap.size w w2 := HF.out.2.2.2.trans (HB2.out.mono HF.out.2.2.2.size)
  have q1 : w2.heap[R]? = some (.cells #[.int .i64 0, .int .i64 0, .slice none 0 0] 120 (0, 0)) := by rw [HB2.out.block R (by omega)]; exact HF.out.1
  have q2 : w2.heap[R + 1]? = some (.cells #[.int .i64 0, .int .i64 0] 69 (0, 0)) := by rw [HB2.out.block (R + 1) (by omega)]; exact HF.out.2.1
  obtain ⟨z0, z1, z2, z3, z4, z5⟩ := th_c q1
  obtain ⟨x0, x1, x2, x3⟩ := tw_c q2
  have hrf := rf_of q1 q2 (by omega) (.int .i64 3) (.int .i64 3) (.slice (some ⟨g, 0, none⟩) 9 c) (.int .i64 0) (.int .i64 0)
  obtain ⟨g0, g1, g2, g3⟩ := hrf.g
  rw [x0] at g0
  rw [x1] at g1
  have HRF2 := hidS hrf
  have HE9 := hidS (tw_bel (th_bel hb9 (Nat.le_of_eq hR) (.int .i64 3) (.int .i64 3) (.slice (some ⟨g, 0, none⟩) 9 c)) (f := R + 1) (by omega) (.int .i64 0) (.int .i64 0))
  clear hrf q1 q2
  go_wp2_with fail
  obtain ⟨r0, r1, r2⟩ := HRF2.out.r
  obtain ⟨t0, t1⟩ := HRF2.out.t
  (try simp only [Exit.inBlock, Exit.then])
  refine bodyPost_ret (by simp [results, Tryz.results76, go_sem, r0, r1, r2, t0, t1]; try rfl) rfl ?_
  refine ⟨g, c, rfl, rc_but HR2.out.1 (by simp) ?_, HR2.out.2.1, by have := HR2.out.2.2; omega, HE9.out⟩
  have e7 := HR2.out.2.2
  rw [heap_setCell_other _ _ _ _ (by simp; omega), heap_setCell_other _ _ _ _ (by simp; omega), heap_setCell_other _ _ _ _ (by simp; omega), heap_setCell_other _ _ _ _ (by simp; omega), heap_setCell_other _ _ _ _ (by simp; omega)]
end Go.Proofs.YtmpkcioeodlbcaaGreatDoor
namespace Go.Proofs.YtmpkcioeodlbcaaGreatDoor
open Fl Go.Maps Go.RowKit Joins Deep
set_option linter.unusedVariables false
set_option maxRecDepth 20000
/-- six cells of a block -/
theorem six_c {w : World} {B : Nat} {a b c d e f : Value} {T : TypeId} (h : w.heap[B]? = some (.cells #[a, b, c, d, e, f] T (0, 0))) : (w.cell? ⟨B, 0, none⟩ = some a ∧ w.cell? ⟨B, 1, none⟩ = some b ∧ w.cell? ⟨B, 2, none⟩ = some c ∧ w.cell? ⟨B, 3, none⟩ = some d ∧ w.cell? ⟨B, 4, none⟩ = some e ∧ w.cell? ⟨B, 5, none⟩ = some f) ∧ w.frozen? ⟨B, 0, none⟩ = false ∧ w.frozen? ⟨B, 1, none⟩ = false ∧ w.frozen? ⟨B, 2, none⟩ = false ∧ w.frozen? ⟨B, 3, none⟩ = false ∧ w.frozen? ⟨B, 4, none⟩ = false ∧ w.frozen? ⟨B, 5, none⟩ = false :=
  ⟨⟨by rw [cell_of_row w B 0 _ T (0, 0) h]; rfl, by rw [cell_of_row w B 1 _ T (0, 0) h]; rfl, by rw [cell_of_row w B 2 _ T (0, 0) h]; rfl, by rw [cell_of_row w B 3 _ T (0, 0) h]; rfl, by rw [cell_of_row w B 4 _ T (0, 0) h]; rfl, by rw [cell_of_row w B 5 _ T (0, 0) h]; rfl⟩, frozen_of_row w B 0 _ T h, frozen_of_row w B 1 _ T h, frozen_of_row w B 2 _ T h, frozen_of_row w B 3 _ T h, frozen_of_row w B 4 _ T h, frozen_of_row w B 5 _ T h⟩
theorem six_two {w : World} {B F : Nat} {a b c d e f x y : Value} {T U : TypeId} (h : w.heap[B]? = some (.cells #[a, b, c, d, e, f] T (0, 0))) (hF : w.heap[F]? = some (.cells #[x, y] U (0, 0))) (hne : B ≠ F) (a' b' c' d' e' f' x' y' : Value) :
    ((((((((w.setCell ⟨B, 0, none⟩ a').setCell ⟨B, 1, none⟩ b').setCell ⟨B, 2, none⟩ c').setCell ⟨B, 3, none⟩ d').setCell ⟨B, 4, none⟩ e').setCell ⟨B, 5, none⟩ f').setCell ⟨F, 0, none⟩ x').setCell ⟨F, 1, none⟩ y').heap[B]? = some (.cells #[a', b', c', d', e', f'] T (0, 0)) ∧
    ((((((((w.setCell ⟨B, 0, none⟩ a').setCell ⟨B, 1, none⟩ b').setCell ⟨B, 2, none⟩ c').setCell ⟨B, 3, none⟩ d').setCell ⟨B, 4, none⟩ e').setCell ⟨B, 5, none⟩ f').setCell ⟨F, 0, none⟩ x').setCell ⟨F, 1, none⟩ y').heap[F]? = some (.cells #[x', y'] U (0, 0)) ∧
    ∀ q, q ≠ B → q ≠ F → ((((((((w.setCell ⟨B, 0, none⟩ a').setCell ⟨B, 1, none⟩ b').setCell ⟨B, 2, none⟩ c').setCell ⟨B, 3, none⟩ d').setCell ⟨B, 4, none⟩ e').setCell ⟨B, 5, none⟩ f').setCell ⟨F, 0, none⟩ x').setCell ⟨F, 1, none⟩ y').heap[q]? = w.heap[q]? := by
  refine ⟨?_, ?_, fun q h1 h2 => ?_⟩
  · rw [heap_setCell_other _ _ _ _ (by simpa using hne), heap_setCell_other _ _ _ _ (by simpa using hne)]
    exact set_at (set_at (set_at (set_at (set_at (set_at h rfl) rfl) rfl) rfl) rfl) rfl
  · have hf : ((((((w.setCell ⟨B, 0, none⟩ a').setCell ⟨B, 1, none⟩ b').setCell ⟨B, 2, none⟩ c').setCell ⟨B, 3, none⟩ d').setCell ⟨B, 4, none⟩ e').setCell ⟨B, 5, none⟩ f').heap[F]? = some (.cells #[x, y] U (0, 0)) := by
      rw [heap_setCell_other _ _ _ _ (by simpa using hne.symm), heap_setCell_other _ _ _ _ (by simpa using hne.symm), heap_setCell_other _ _ _ _ (by simpa using hne.symm), heap_setCell_other _ _ _ _ (by simpa using hne.symm), heap_setCell_other _ _ _ _ (by simpa using hne.symm), heap_setCell_other _ _ _ _ (by simpa using hne.symm)]
      exact hF
    exact set_at (set_at hf rfl) rfl
  · rw [heap_setCell_other _ _ _ _ (by simpa using h2), heap_setCell_other _ _ _ _ (by simpa using h2), heap_setCell_other _ _ _ _ (by simpa using h1), heap_setCell_other _ _ _ _ (by simpa using h1), heap_setCell_other _ _ _ _ (by simpa using h1), heap_setCell_other _ _ _ _ (by simpa using h1), heap_setCell_other _ _ _ _ (by simpa using h1), heap_setCell_other _ _ _ _ (by simpa using h1)]
set_option maxHeartbeats 1000000 in
theorem six_bel {n : Nat} {a w : World} {B F : Nat} (h : Below n a w) (hB : n ≤ B) (hF : n ≤ F) (a' b' c' d' e' f' x' y' : Value) :
    Below n a ((((((((w.setCell ⟨B, 0, none⟩ a').setCell ⟨B, 1, none⟩ b').setCell ⟨B, 2, none⟩ c').setCell ⟨B, 3, none⟩ d').setCell ⟨B, 4, none⟩ e').setCell ⟨B, 5, none⟩ f').setCell ⟨F, 0, none⟩ x').setCell ⟨F, 1, none⟩ y') :=
  (((((((h.setCell (p := ⟨B, 0, none⟩) hB _).setCell (p := ⟨B, 1, none⟩) hB _).setCell (p := ⟨B, 2, none⟩) hB _).setCell (p := ⟨B, 3, none⟩) hB _).setCell (p := ⟨B, 4, none⟩) hB _).setCell (p := ⟨B, 5, none⟩) hB _).setCell (p := ⟨F, 0, none⟩) hF _).setCell (p := ⟨F, 1, none⟩) hF _
set_option maxHeartbeats 1000000 in
theorem dv_psolved {w : World} {g c gb cb : Nat} (hm : Rc w (some ⟨g, 0, none⟩) dvM) (hc : 9 ≤ c) (hb : Rc w (some ⟨gb, 0, none⟩) dvB) : Calls Tryz.prog 77 #[.agg #[.int .i64 3, .int .i64 3, .slice (some ⟨g, 0, none⟩) 9 c], .slice (some ⟨gb, 0, none⟩) 3 cb] w fun e w' => ∃ l gx, e = .returned (.tuple #[.agg #[.int .i64 3, .int .i64 3, .slice (some ⟨g, 0, none⟩) 9 c, .pointer (some ⟨l, 0, none⟩), .slice (some ⟨gb, 0, none⟩) 3 cb, .slice (some ⟨gx, 0, none⟩) 3 3], .agg #[.int .i64 0, .int .i64 0]]) ∧ Rc w' (some ⟨gx, 0, none⟩) dvX ∧ w.heap.size ≤ gx ∧ Below w.heap.size w w' := by
  have HM := hidS (And.intro hm (And.intro hc hb))
  clear hm hc hb
  obtain ⟨R, hR⟩ : ∃ R, w.heap.size = R := ⟨_, rfl⟩
  go_enter Tryz.func77, Tryz.ntmps77
  have k0 : (((w.alloc (.cells #[.int .i64 3, .int .i64 3, .slice (some ⟨g, 0, none⟩) 9 c] 120)).alloc (.cells #[.int .i64 0, .int .i64 0, .slice none 0 0, .pointer none, .slice none 0 0, .slice none 0 0] 123)).alloc (.cells #[.int .i64 0, .int .i64 0] 69)).heap[R]? = some (.cells #[.int .i64 3, .int .i64 3, .slice (some ⟨g, 0, none⟩) 9 c] 120 (0, 0)) := by
    rw [(bal _ _).block R (by rw [← hR]; simp; omega), (bal _ _).block R (by rw [← hR]; simp), ← hR]; exact heap_alloc_new w _
  have k1 : (((w.alloc (.cells #[.int .i64 3, .int .i64 3, .slice (some ⟨g, 0, none⟩) 9 c] 120)).alloc (.cells #[.int .i64 0, .int .i64 0, .slice none 0 0, .pointer none, .slice none 0 0, .slice none 0 0] 123)).alloc (.cells #[.int .i64 0, .int .i64 0] 69)).heap[R + 1]? = some (.cells #[.int .i64 0, .int .i64 0, .slice none 0 0, .pointer none, .slice none 0 0, .slice none 0 0] 123 (0, 0)) := by
    rw [(bal _ _).block (R + 1) (by rw [← hR]; simp)]
    have := heap_alloc_new (w.alloc (.cells #[.int .i64 3, .int .i64 3, .slice (some ⟨g, 0, none⟩) 9 c] 120)) (.cells #[.int .i64 0, .int .i64 0, .slice none 0 0, .pointer none, .slice none 0 0, .slice none 0 0] 123)
    rw [show (w.alloc (.cells #[.int .i64 3, .int .i64 3, .slice (some ⟨g, 0, none⟩) 9 c] 120)).heap.size = R + 1 by rw [← hR]; simp] at this
    exact this
  have k2 : (((w.alloc (.cells #[.int .i64 3, .int .i64 3, .slice (some ⟨g, 0, none⟩) 9 c] 120)).alloc (.cells #[.int .i64 0, .int .i64 0, .slice none 0 0, .pointer none, .slice none 0 0, .slice none 0 0] 123)).alloc (.cells #[.int .i64 0, .int .i64 0] 69)).heap[R + 1 + 1]? = some (.cells #[.int .i64 0, .int .i64 0] 69 (0, 0)) := by
    have := heap_alloc_new ((w.alloc (.cells #[.int .i64 3, .int .i64 3, .slice (some ⟨g, 0, none⟩) 9 c] 120)).alloc (.cells #[.int .i64 0, .int .i64 0, .slice none 0 0, .pointer none, .slice none 0 0, .slice none 0 0] 123)) (.cells #[.int .i64 0, .int .i64 0] 69)
    rw [show ((w.alloc (.cells #[.int .i64 3, .int .i64 3, .slice (some ⟨g, 0, none⟩) 9 c] 120)).alloc (.cells #[.int .i64 0, .int .i64 0, .slice none 0 0, .pointer none, .slice none 0 0, .slice none 0 0] 123)).heap.size = R + 1 + 1 by rw [← hR]; simp] at this
    exact this
  have k3 : (((w.alloc (.cells #[.int .i64 3, .int .i64 3, .slice (some ⟨g, 0, none⟩) 9 c] 120)).alloc (.cells #[.int .i64 0, .int .i64 0, .slice none 0 0, .pointer none, .slice none 0 0, .slice none 0 0] 123)).alloc (.cells #[.int .i64 0, .int .i64 0] 69)).heap.size = R + 3 := by rw [← hR]; simp
  have k4 : Below w.heap.size w (((w.alloc (.cells #[.int .i64 3, .int .i64 3, .slice (some ⟨g, 0, none⟩) 9 c] 120)).alloc (.cells #[.int .i64 0, .int .i64 0, .slice none 0 0, .pointer none, .slice none 0 0, .slice none 0 0] 123)).alloc (.cells #[.int .i64 0, .int .i64 0] 69)) := ((bal w _).alloc (bal w _).size _).alloc ((bal w _).alloc (bal w _).size _).size _
  obtain ⟨wF, hwF⟩ : ∃ W, (((w.alloc (.cells #[.int .i64 3, .int .i64 3, .slice (some ⟨g, 0, none⟩) 9 c] 120)).alloc (.cells #[.int .i64 0, .int .i64 0, .slice none 0 0, .pointer none, .slice none 0 0, .slice none 0 0] 123)).alloc (.cells #[.int .i64 0, .int .i64 0] 69)) = W := ⟨_, rfl⟩
  rw [hwF] at k0 k1 k2 k3 k4
  have HF := hidS (And.intro k0 (And.intro k1 (And.intro k2 (And.intro k3 k4))))
  clear k0 k1 k2 k3 k4
  obtain ⟨b0, b1, b2, -, -, -⟩ := th_c HF.out.1
  go_wp2_with fail
  clear hwF b0 b1 b2
  refine (dv_lower wF _ c HM.out.2.1 (HM.out.1.below HF.out.2.2.2.2)).mono ?_
  rintro e1 w1 ⟨l, rfl, hl, hb1⟩
  have HL := hidS hl
  have HB1 := hidS hb1
  clear hl hb1
  go_wp2_with fail
  have HB1a : Hid (Below wF.heap.size wF (w1.alloc (.cells #[.int .i64 0, .int .i64 0] 69))) := HB1.out.alloc HB1.out.size _
  refine (dv_solve (HL.out.below (bal w1 (.cells #[.int .i64 0, .int .i64 0] 69))) (HM.out.2.2.below (HF.out.2.2.2.2.trans (HB1a.out.mono HF.out.2.2.2.2.size)))).mono ?_
  rintro e2 w2 ⟨gx, rfl, hr, hg, hb2⟩
  have HB2 : Hid (Below wF.heap.size wF w2) := HB1a.out.trans (hb2.mono HB1a.out.size)
  have HR2 := hidS (And.intro hr (show R + 3 ≤ gx by have e1 := HF.out.2.2.2.1; have e2 := HB1a.out.size; omega))
  clear hr hg hb2 HL
  have e1 := HF.out.2.2.2.1
  have hb9 : Below w.heap.size w w2 := HF.out.2.2.2.2.trans (HB2.out.mono HF.out.2.2.2.2.size)
  have q0 : w2.heap[R]? = some (.cells #[.int .i64 3, .int .i64 3, .slice (some ⟨g, 0, none⟩) 9 c] 120 (0, 0)) := by rw [HB2.out.block R (by omega)]; exact HF.out.1
  have q1 : w2.heap[R + 1]? = some (.cells #[.int .i64 0, .int .i64 0, .slice none 0 0, .pointer none, .slice none 0 0, .slice none 0 0] 123 (0, 0)) := by rw [HB2.out.block (R + 1) (by omega)]; exact HF.out.2.1
  have q2 : w2.heap[R + 1 + 1]? = some (.cells #[.int .i64 0, .int .i64 0] 69 (0, 0)) := by rw [HB2.out.block (R + 1 + 1) (by omega)]; exact HF.out.2.2.1
  obtain ⟨y0, y1, y2, -, -, -⟩ := th_c q0
  obtain ⟨⟨z0, z1, z2, z3, z4, z5⟩, u0, u1, u2, u3, u4, u5⟩ := six_c q1
  obtain ⟨x0, x1, x2, x3⟩ := tw_c q2
  have HB9 := hidS hb9
  have HST := hidS (six_two q1 q2 (by omega) (.int .i64 3) (.int .i64 3) (.slice (some ⟨g, 0, none⟩) 9 c) (.pointer (some ⟨l, 0, none⟩)) (.slice (some ⟨gb, 0, none⟩) 3 cb) (.slice (some ⟨gx, 0, none⟩) 3 3) (.int .i64 0) (.int .i64 0))
  have HE9 := hidS (six_bel hb9 (B := R + 1) (F := R + 1 + 1) (by omega) (by omega) (.int .i64 3) (.int .i64 3) (.slice (some ⟨g, 0, none⟩) 9 c) (.pointer (some ⟨l, 0, none⟩)) (.slice (some ⟨gb, 0, none⟩) 3 cb) (.slice (some ⟨gx, 0, none⟩) 3 3) (.int .i64 0) (.int .i64 0))
  have HSZ := hidS (six_bel (Below.refl 0 w2) (B := R + 1) (F := R + 1 + 1) (by omega) (by omega) (.int .i64 3) (.int .i64 3) (.slice (some ⟨g, 0, none⟩) 9 c) (.pointer (some ⟨l, 0, none⟩)) (.slice (some ⟨gb, 0, none⟩) 3 cb) (.slice (some ⟨gx, 0, none⟩) 3 3) (.int .i64 0) (.int .i64 0)).size
  clear q0 q1 q2 hb9
  go_wp2_with fail
  obtain ⟨⟨r0, r1, r2, r3, r4, r5⟩, -⟩ := six_c HST.out.1
  obtain ⟨t0, t1, -, -⟩ := tw_c HST.out.2.1
  have HK := HST.out.2.2
  (try simp only [Exit.inBlock, Exit.then])
  refine bodyPost_ret (by simp [results, Tryz.results77, go_sem, r0, r1, r2, r3, r4, r5, t0, t1]; try rfl) rfl ?_
  refine ⟨l, gx, rfl, ?_, by have := HR2.out.2; omega, HE9.out⟩
  exact rc_but HR2.out.1 HSZ.out (HK gx (by have := HR2.out.2; omega) (by have := HR2.out.2; omega))
end Go.Proofs.YtmpkcioeodlbcaaGreatDoor
namespace Go.Proofs.YtmpkcioeodlbcaaGreatDoor
open Fl Go.Maps Go.RowKit Joins Deep
set_option linter.unusedVariables false
set_option maxRecDepth 20000
set_option maxHeartbeats 1000000 in
theorem dv_pdriven {w : World} {nb p : Nat} {b : Nb} (h : Nt w nb p dvN b) : Calls Tryz.prog 71 #[.pointer (some ⟨p, 0, none⟩), .float .f64 dvO] w fun e w' => ∃ g c l gb cb gx, e = .returned (.tuple #[.agg #[.int .i64 3, .int .i64 3, .slice (some ⟨g, 0, none⟩) 9 c, .pointer (some ⟨l, 0, none⟩), .slice (some ⟨gb, 0, none⟩) 3 cb, .slice (some ⟨gx, 0, none⟩) 3 3], .agg #[.int .i64 0, .int .i64 0]]) ∧ Rc w' (some ⟨gx, 0, none⟩) dvX ∧ w.heap.size ≤ gx ∧ Below w.heap.size w w' := by
  obtain ⟨R, hR⟩ : ∃ R, w.heap.size = R := ⟨_, rfl⟩
  have k1 : ((w.alloc (.cells #[.int .i64 0, .int .i64 0, .slice none 0 0, .pointer none, .slice none 0 0, .slice none 0 0] 123)).alloc (.cells #[.int .i64 0, .int .i64 0] 69)).heap[R]? = some (.cells #[.int .i64 0, .int .i64 0, .slice none 0 0, .pointer none, .slice none 0 0, .slice none 0 0] 123 (0, 0)) := by
    rw [(bal _ _).block R (by rw [← hR]; simp), ← hR]; exact heap_alloc_new w _
  have k2 : ((w.alloc (.cells #[.int .i64 0, .int .i64 0, .slice none 0 0, .pointer none, .slice none 0 0, .slice none 0 0] 123)).alloc (.cells #[.int .i64 0, .int .i64 0] 69)).heap[R + 1]? = some (.cells #[.int .i64 0, .int .i64 0] 69 (0, 0)) := by
    have := heap_alloc_new (w.alloc (.cells #[.int .i64 0, .int .i64 0, .slice none 0 0, .pointer none, .slice none 0 0, .slice none 0 0] 123)) (.cells #[.int .i64 0, .int .i64 0] 69)
    rw [show (w.alloc (.cells #[.int .i64 0, .int .i64 0, .slice none 0 0, .pointer none, .slice none 0 0, .slice none 0 0] 123)).heap.size = R + 1 by rw [← hR]; simp] at this
    exact this
  have k3 : ((w.alloc (.cells #[.int .i64 0, .int .i64 0, .slice none 0 0, .pointer none, .slice none 0 0, .slice none 0 0] 123)).alloc (.cells #[.int .i64 0, .int .i64 0] 69)).heap.size = R + 2 := by rw [← hR]; simp
  have k4 : Below w.heap.size w ((w.alloc (.cells #[.int .i64 0, .int .i64 0, .slice none 0 0, .pointer none, .slice none 0 0, .slice none 0 0] 123)).alloc (.cells #[.int .i64 0, .int .i64 0] 69)) := (bal w _).alloc (bal w _).size _
  obtain ⟨wF, hwF⟩ : ∃ W, ((w.alloc (.cells #[.int .i64 0, .int .i64 0, .slice none 0 0, .pointer none, .slice none 0 0, .slice none 0 0] 123)).alloc (.cells #[.int .i64 0, .int .i64 0] 69)) = W := ⟨_, rfl⟩
  rw [hwF] at k1 k2 k3 k4
  have HF := hidS (And.intro k1 (And.intro k2 (And.intro k3 k4)))
  have HNT := hidS (h.below k4)
  clear k1 k2 k3 k4 h
  go_enter Tryz.func71, Tryz.ntmps71
  go_wp2_with fail
  clear hwF
  refine (dv_pmatrix HNT.out).mono ?_
  rintro e1 w1 ⟨g, c, rfl, hr, hc, hg, hb1⟩
  have HM := hidS (And.intro hr (And.intro hc hg))
  have HB1 := hidS hb1
  clear hr hc hg hb1
  go_wp2_with fail
  obtain ⟨A, hA⟩ : ∃ A, w1.heap.size = A := ⟨_, rfl⟩
  have m1 : ((w1.alloc (.cells #[.int .i64 3, .int .i64 3, .slice (some ⟨g, 0, none⟩) 9 c] 120)).alloc (.cells #[.int .i64 0, .int .i64 0] 69)).heap[A]? = some (.cells #[.int .i64 3, .int .i64 3, .slice (some ⟨g, 0, none⟩) 9 c] 120 (0, 0)) := by
    rw [(bal _ _).block A (by rw [← hA]; simp), ← hA]; exact heap_alloc_new w1 _
  have m2 : ((w1.alloc (.cells #[.int .i64 3, .int .i64 3, .slice (some ⟨g, 0, none⟩) 9 c] 120)).alloc (.cells #[.int .i64 0, .int .i64 0] 69)).heap[A + 1]? = some (.cells #[.int .i64 0, .int .i64 0] 69 (0, 0)) := by
    have := heap_alloc_new (w1.alloc (.cells #[.int .i64 3, .int .i64 3, .slice (some ⟨g, 0, none⟩) 9 c] 120)) (.cells #[.int .i64 0, .int .i64 0] 69)
    rw [show (w1.alloc (.cells #[.int .i64 3, .int .i64 3, .slice (some ⟨g, 0, none⟩) 9 c] 120)).heap.size = A + 1 by rw [← hA]; simp] at this
    exact this
  have m3 : ((w1.alloc (.cells #[.int .i64 3, .int .i64 3, .slice (some ⟨g, 0, none⟩) 9 c] 120)).alloc (.cells #[.int .i64 0, .int .i64 0] 69)).heap.size = A + 2 := by rw [← hA]; simp
  have m4 : Below w1.heap.size w1 ((w1.alloc (.cells #[.int .i64 3, .int .i64 3, .slice (some ⟨g, 0, none⟩) 9 c] 120)).alloc (.cells #[.int .i64 0, .int .i64 0] 69)) := (bal w1 _).alloc (bal w1 _).size _
  rw [hA]
  obtain ⟨wA, hwA⟩ : ∃ W, ((w1.alloc (.cells #[.int .i64 3, .int .i64 3, .slice (some ⟨g, 0, none⟩) 9 c] 120)).alloc (.cells #[.int .i64 0, .int .i64 0] 69)) = W := ⟨_, rfl⟩
  rw [hwA] at m1 m2 m3 m4
  rw [hwA]
  have HA := hidS (And.intro m1 (And.intro m2 (And.intro m3 m4)))
  have HBA : Hid (Below wF.heap.size wF wA) := HB1.out.trans (m4.mono HB1.out.size)
  clear m1 m2 m3 m4 hwA
  refine (dv_right (HNT.out.below HBA.out)).mono ?_
  rintro e2 w2 ⟨gb, cb, rfl, hr, hg, hb2⟩
  have HR2 := hidS (And.intro hr hg)
  have HB2 := hidS hb2
  clear hr hg hb2
  have n2 : w2.heap[A + 1]? = some (.cells #[.int .i64 0, .int .i64 0] 69 (0, 0)) := by rw [HB2.out.block (A + 1) (by have := HA.out.2.2.1; omega)]; exact HA.out.2.1
  have n1 : w2.heap[A]? = some (.cells #[.int .i64 3, .int .i64 3, .slice (some ⟨g, 0, none⟩) 9 c] 120 (0, 0)) := by rw [HB2.out.block A (by have := HA.out.2.2.1; omega)]; exact HA.out.1
  obtain ⟨x0, x1, x2, x3⟩ := tw_c n2
  obtain ⟨y0, y1, y2, -, -, -⟩ := th_c n1
  have n3 : ((w2.setCell ⟨A + 1, 0, none⟩ (.int .i64 0)).setCell ⟨A + 1, 1, none⟩ (.int .i64 0)).heap[A + 1]? = some (.cells #[.int .i64 0, .int .i64 0] 69 (0, 0)) := set_at (set_at n2 rfl) rfl
  have n4 : ∀ q, q ≠ A + 1 → ((w2.setCell ⟨A + 1, 0, none⟩ (.int .i64 0)).setCell ⟨A + 1, 1, none⟩ (.int .i64 0)).heap[q]? = w2.heap[q]? := fun q hq => by
    rw [heap_setCell_other _ _ _ _ (by simpa using hq), heap_setCell_other _ _ _ _ (by simpa using hq)]
  have n5 := tw_bel (Below.refl (A + 1) w2) (f := A + 1) (Nat.le_refl _) (.int .i64 0) (.int .i64 0)
  have HN := hidS (And.intro n1 (And.intro n3 (And.intro n4 n5)))
  obtain ⟨v0, v1, -, -⟩ := tw_c n3
  clear n1 n2 n3 n4 n5
  go_wp2_with fail
  obtain ⟨wS, hwS⟩ : ∃ W, (w2.setCell ⟨A + 1, 0, none⟩ (.int .i64 0)).setCell ⟨A + 1, 1, none⟩ (.int .i64 0) = W := ⟨_, rfl⟩
  rw [hwS] at HN
  rw [hwS]
  clear hwS x0 x1 x2 x3 y0 y1 y2 v0 v1
  have hgA : g < A := by
    obtain ⟨b', off, h1, h2, h3⟩ := HM.out.1 0 (by decide)
    cases h1
    omega
  have hsz : wF.heap.size ≤ A := by have := HB1.out.size; omega
  have HBS : Hid (Below wF.heap.size wF wS) := (HBA.out.trans (HB2.out.mono HBA.out.size)).trans (HN.out.2.2.2.mono (by omega))
  have hM : Rc wS (some ⟨g, 0, none⟩) dvM := rc_but ((HM.out.1.below HA.out.2.2.2).below HB2.out) HN.out.2.2.2.size (HN.out.2.2.1 g (by omega))
  have hB : Rc wS (some ⟨gb, 0, none⟩) dvB := rc_but HR2.out.1 HN.out.2.2.2.size (HN.out.2.2.1 gb (by have := HR2.out.2; have := HA.out.2.2.1; omega))
  refine (dv_psolved hM HM.out.2.1 hB).mono ?_
  rintro e3 w3 ⟨l, gx, rfl, hr, hg, hb3⟩
  have HB3 : Hid (Below wF.heap.size wF w3) := HBS.out.trans (hb3.mono HBS.out.size)
  have HR3 := hidS (And.intro hr (show R + 2 ≤ gx by have e1 := HF.out.2.2.1; have e2 := HBS.out.size; omega))
  clear hr hg hb3 hM hB
  have e1 := HF.out.2.2.1
  have hb9 : Below w.heap.size w w3 := HF.out.2.2.2.trans (HB3.out.mono HF.out.2.2.2.size)
  have q1 : w3.heap[R]? = some (.cells #[.int .i64 0, .int .i64 0, .slice none 0 0, .pointer none, .slice none 0 0, .slice none 0 0] 123 (0, 0)) := by rw [HB3.out.block R (by omega)]; exact HF.out.1
  have q2 : w3.heap[R + 1]? = some (.cells #[.int .i64 0, .int .i64 0] 69 (0, 0)) := by rw [HB3.out.block (R + 1) (by omega)]; exact HF.out.2.1
  obtain ⟨⟨z0, z1, z2, z3, z4, z5⟩, u0, u1, u2, u3, u4, u5⟩ := six_c q1
  obtain ⟨x0, x1, x2, x3⟩ := tw_c q2
  have HST := hidS (six_two q1 q2 (by omega) (.int .i64 3) (.int .i64 3) (.slice (some ⟨g, 0, none⟩) 9 c) (.pointer (some ⟨l, 0, none⟩)) (.slice (some ⟨gb, 0, none⟩) 3 cb) (.slice (some ⟨gx, 0, none⟩) 3 3) (.int .i64 0) (.int .i64 0))
  have HE9 := hidS (six_bel hb9 (B := R) (F := R + 1) (by omega) (by omega) (.int .i64 3) (.int .i64 3) (.slice (some ⟨g, 0, none⟩) 9 c) (.pointer (some ⟨l, 0, none⟩)) (.slice (some ⟨gb, 0, none⟩) 3 cb) (.slice (some ⟨gx, 0, none⟩) 3 3) (.int .i64 0) (.int .i64 0))
  have HSZ := hidS (six_bel (Below.refl 0 w3) (B := R) (F := R + 1) (by omega) (by omega) (.int .i64 3) (.int .i64 3) (.slice (some ⟨g, 0, none⟩) 9 c) (.pointer (some ⟨l, 0, none⟩)) (.slice (some ⟨gb, 0, none⟩) 3 cb) (.slice (some ⟨gx, 0, none⟩) 3 3) (.int .i64 0) (.int .i64 0)).size
  clear q1 q2 hb9
  go_wp2_with fail
  obtain ⟨⟨r0, r1, r2, r3, r4, r5⟩, -⟩ := six_c HST.out.1
  obtain ⟨t0, t1, -, -⟩ := tw_c HST.out.2.1
  have HK := HST.out.2.2
  (try simp only [Exit.inBlock, Exit.then])
  refine bodyPost_ret (by simp [results, Tryz.results71, go_sem, r0, r1, r2, r3, r4, r5, t0, t1]; try rfl) rfl ?_
  refine ⟨g, c, l, gb, cb, gx, rfl, ?_, by have := HR3.out.2; omega, HE9.out⟩
  exact rc_but HR3.out.1 HSZ.out (HK gx (by have := HR3.out.2; omega) (by have := HR3.out.2; omega))
end Go.Proofs.YtmpkcioeodlbcaaGreatDoor
namespace Go.Proofs.YtmpkcioeodlbcaaGreatDoor
open Fl Go.Maps Go.RowKit Joins Deep
set_option linter.unusedVariables false
set_option maxRecDepth 20000
theorem ph_curC {w : World} {g n : Nat} {xs : List Value} (h : w.ownsRow g 39 1 (.slice (some ⟨g, 0, none⟩) n n) n xs) : ∃ cur : List Value, w.heap[g]? = some (.cells cur.toArray 39 (0, 0)) ∧ cur.length = n := by
  rcases h.2 with ⟨hv, _⟩ | ⟨g', cap, cur, hv, _, hg, _, _, hsz, _⟩
  · cases hv
  · cases hv
    exact ⟨cur.toList, by rw [hg], by rw [Array.length_toList, hsz, Nat.mul_one]⟩
theorem ph_rw {w : World} {b g n : Nat} {zs : List Cw} (hn : zs.length = n) (hm : n ≤ maxLen) (hb : b ≤ g) (h : w.heap[g]? = some (.cells (zs.map cx).toArray 39 (0, 0))) : Rw w b (.slice (some ⟨g, 0, none⟩) n n) n zs := by
  refine ⟨hn, by simp [hn], .inr ⟨g, n, _, rfl, hb, h, Nat.le_refl _, hm, by simp [hn], ?_⟩⟩
  rw [List.toList_toArray, Nat.mul_one]
  exact List.take_of_length_le (by simp [hn])
theorem ph_src {w : World} {ao : Option Addr} {zs : List Cw} (hc : Rc w ao zs) (h0 : 0 < (zs.map cx).length) : ∃ ad, ao = some ad ∧ ∀ j v, (zs.map cx)[j]? = some v → w.cell? (ad.add j) = some v := by
  rw [List.length_map] at h0
  obtain ⟨b, off, rfl, _, _⟩ := hc 0 h0
  refine ⟨_, rfl, fun j v hj => ?_⟩
  rw [List.getElem?_map] at hj
  by_cases hk : j < zs.length
  · rw [zat_lt hk] at hj
    cases hj
    obtain ⟨b', off', h1, _, h3⟩ := hc j hk
    cases h1
    unfold Addr.add
    split
    · rename_i e0
      rw [e0, Nat.add_zero] at h3
      rw [e0]; exact h3
    · exact h3
  · rw [List.getElem?_eq_none (by omega)] at hj; cases hj
set_option maxHeartbeats 1000000 in
/-- a piece of a list, in new memory -/
theorem copied_any {w : World} {ao : Option Addr} {cap n : Nat} {xs : List Cw} (hl : xs.length = n) (hn : n ≤ 65536) (hc : Rc w ao xs) : Calls Tryz.prog 95 #[.slice ao n cap] w fun e w' => ∃ g, e = .returned (.slice (some ⟨g, 0, none⟩) n n) ∧ Rw w' w.heap.size (.slice (some ⟨g, 0, none⟩) n n) n xs ∧ Below w.heap.size w w' := by
  obtain ⟨i0, hi, hz0, hz1, hz2⟩ := info_parts Tryz.infoC
  have HXl := hid_o hl
  have HC := hid_o hc
  have HB := hid_o (Below.refl w.heap.size w)
  clear hl hc
  go_enter Tryz.func95, Tryz.ntmps95
  go_wp2_with (first
    | (at_make; (refine wpList_make_full _ rfl _ _ 32 rfl w.heap.size 39 i0 (.complex .f64 0 0) 1 Tryz.underlying32 hi hz0 hz1 _ _ _ _ n rfl rfl rfl rfl (by rw [hz2]; omega) (by unfold maxLen; omega) (Nat.le_refl _) ?_); intro w2 hown hgrow; (have BB : Below w.heap.size w w2 := (Below.refl _ _).grown hgrow (Nat.le_refl _) (by intro k hk; simp at hk)); (have HB2 := hid_o BB); (obtain ⟨cur, hcur, hcs⟩ := ph_curC hown); (have HW2 : Hid (w.heap.size < w2.heap.size) := (hown.lt w.heap.size rfl).2); clear hown hgrow BB)
    | (refine wpList_copy_splice rfl _ _ _ _ rfl 39 Tryz.underlying32 Tryz.infoCs _ _ _ _ _ _ rfl rfl w.heap.size 0 cur _ hcur (xs.map cx) (by simp [HXl.out]) (fun h0 => ⟨rfl, ph_src (HC.out.below HB2.out) h0⟩) (by rw [List.length_map, hcs, HXl.out]; omega) one_cx w.heap.size w HB2.out (Nat.le_refl _) ?_; intro w3 hb2 B2; (rw [splice_all (by rw [hcs, List.length_map, HXl.out])] at hb2); (have HR3 : Hid (Rw w3 w.heap.size (.slice (some ⟨w.heap.size, 0, none⟩) n n) n xs) := ph_rw HXl.out (by unfold maxLen; omega) (Nat.le_refl _) hb2.out); (have HB3 := hid_o B2); clear hcur hb2 hcs B2))
  go_ret
  exact ⟨_, rfl, HR3.out, HB3.out⟩
theorem rc_tail {w : World} {g : Nat} {x y z : Cw} (h : Rc w (some ⟨g, 0, none⟩) [x, y, z]) : Rc w (some ⟨g, 0, none⟩) [x, y] ∧ Rc w (some ⟨g, 2, none⟩) [z] := by
  refine ⟨fun k hk => ?_, fun k hk => ?_⟩
  · have hk2 : k < 2 := hk
    obtain ⟨b, off, h1, h2, h3⟩ := h k (by show k < 3; omega)
    refine ⟨b, off, h1, h2, ?_⟩
    rw [h3]
    rcases (by omega : k = 0 ∨ k = 1) with rfl | rfl <;> rfl
  · have hk2 : k = 0 := by have : k < 1 := hk; omega
    subst hk2
    obtain ⟨b, off, h1, h2, h3⟩ := h 2 (by show 2 < 3; omega)
    cases h1
    exact ⟨g, 2, rfl, h2, h3⟩
set_option maxHeartbeats 1000000 in
theorem dv_psolution {w : World} {nb p g : Nat} {b : Nb} (h : Nt w nb p dvN b) (hx : Rc w (some ⟨g, 0, none⟩) dvX) : Calls Tryz.prog 72 #[.pointer (some ⟨p, 0, none⟩), .float .f64 dvO, .slice (some ⟨g, 0, none⟩) 3 3] w fun e w' => ∃ gv ga, e = .returned (.agg #[.float .f64 dvO, .slice (some ⟨gv, 0, none⟩) 2 2, .slice (some ⟨ga, 0, none⟩) 1 1]) ∧ Rc w' (some ⟨gv, 0, none⟩) [(4620693217682128896, 0), (4616189618054758400, 0)] ∧ Rc w' (some ⟨ga, 0, none⟩) [(13835058055282163712, 0)] ∧ (w.heap.size ≤ gv ∧ w.heap.size ≤ ga) ∧ Below w.heap.size w w' := by
  obtain ⟨R, hR⟩ : ∃ R, w.heap.size = R := ⟨_, rfl⟩
  have k1 := heap_alloc_new w (.cells #[.float .f64 0, .slice none 0 0, .slice none 0 0] 35)
  rw [hR] at k1
  have k3 : (w.alloc (.cells #[.float .f64 0, .slice none 0 0, .slice none 0 0] 35)).heap.size = R + 1 := by rw [← hR]; simp
  have k4 := bal w (.cells #[.float .f64 0, .slice none 0 0, .slice none 0 0] 35)
  obtain ⟨wF, hwF⟩ : ∃ W, w.alloc (.cells #[.float .f64 0, .slice none 0 0, .slice none 0 0] 35) = W := ⟨_, rfl⟩
  rw [hwF] at k1 k3 k4
  have HF := hidS (And.intro k1 (And.intro k3 k4))
  have HNT := hidS (h.below k4)
  have HX := hidS (rc_tail (hx.below k4))
  clear k1 k3 k4 h hx
  go_enter Tryz.func72, Tryz.ntmps72
  go_wp2_with fail
  clear hwF
  refine (nodes_made HNT.out (by decide)).mono ?_
  rintro e1 w1 ⟨v1, rfl, ho1, hb1⟩
  obtain ⟨A1, c1, rfl⟩ := drow_slice ho1
  have HB1 := hidS hb1
  rw [show dvN.nd.length = 2 from rfl]
  clear ho1 hb1
  have e3 := HF.out.2.1
  have q1 : w1.heap[R]? = some (.cells #[.float .f64 0, .slice none 0 0, .slice none 0 0] 35 (0, 0)) := by rw [HB1.out.block R (by omega)]; exact HF.out.1
  have HQ : Hid (∀ W, Below w1.heap.size w1 W → W.heap[R]? = some (.cells #[.float .f64 0, .slice none 0 0, .slice none 0 0] 35 (0, 0))) := fun W hW => by
    rw [hW.block R (by have := HB1.out.size; omega)]; exact q1
  have HB : Hid (Below w1.heap.size w1 w1) := Below.refl _ _
  have HCV : Hid (∀ W, Below w1.heap.size w1 W → Calls Tryz.prog 95 #[.slice (some ⟨g, 0, none⟩) 2 3] W fun e w' => ∃ gv, e = .returned (.slice (some ⟨gv, 0, none⟩) 2 2) ∧ Rc w' (some ⟨gv, 0, none⟩) [(4620693217682128896, 0), (4616189618054758400, 0)] ∧ W.heap.size ≤ gv ∧ Below W.heap.size W w') := fun W hW => (copied_any (cap := 3) rfl (by decide) ((HX.out.1.below HB1.out).below hW)).mono (by
    rintro e w' ⟨gv, rfl, h1, h2⟩
    exact ⟨gv, rfl, h1.rc, (h1.own.lt gv rfl).1, h2⟩)
  have HCA : Hid (∀ W, Below w1.heap.size w1 W → Calls Tryz.prog 95 #[.slice (some ⟨g, 2, none⟩) 1 1] W fun e w' => ∃ ga, e = .returned (.slice (some ⟨ga, 0, none⟩) 1 1) ∧ Rc w' (some ⟨ga, 0, none⟩) [(13835058055282163712, 0)] ∧ W.heap.size ≤ ga ∧ Below W.heap.size W w') := fun W hW => (copied_any (cap := 1) rfl (by decide) ((HX.out.2.below HB1.out).below hW)).mono (by
    rintro e w' ⟨ga, rfl, h1, h2⟩
    exact ⟨ga, rfl, h1.rc, (h1.own.lt ga rfl).1, h2⟩)
  clear q1
  go_wp2_with fail
  go_region_held_law (fun _ => True) (exact trivial) (first
    | (go_at_call 95; (with_reducible refine (HCV.out _ (by repeat first | with_reducible exact HB.out | with_reducible refine Below.drew ?_)).mono ?_); rintro e w2 ⟨gv, rfl, hr2, hg2, hb2⟩; (have KB : Below w1.heap.size w1 w2 := Below.trans (by repeat first | with_reducible exact HB.out | with_reducible refine Below.drew ?_) (hb2.mono (by first | exact HB.out.size | exact Below.size (by repeat first | with_reducible exact HB.out | with_reducible refine Below.drew ?_)))); (have HB := hidS KB); (obtain ⟨z0, z1, z2, z3, z4, z5⟩ := th_c (HQ.out _ HB.out)); clear KB)
    | (go_at_call 95; (with_reducible refine (HCA.out _ (by repeat first | with_reducible exact HB.out | with_reducible refine Below.drew ?_)).mono ?_); rintro e w4 ⟨ga, rfl, hra, hga, hba⟩; (have KB : Below w1.heap.size w1 w4 := Below.trans (by repeat first | with_reducible exact HB.out | with_reducible refine Below.drew ?_) (hba.mono (by first | exact HB.out.size | exact Below.size (by repeat first | with_reducible exact HB.out | with_reducible refine Below.drew ?_)))); (have HB := hidS KB); (obtain ⟨z0, z1, z2, z3, z4, z5⟩ := th_c (HQ.out _ HB.out)); clear KB))
  have hrv : Rc w4 (some ⟨gv, 0, none⟩) [(4620693217682128896, 0), (4616189618054758400, 0)] := hr2.below (hba.mono (Nat.le_refl _))
  have q4 := HQ.out _ HB.out
  have hb9 : Below w.heap.size w w4 := (HF.out.2.2.trans (HB1.out.mono HF.out.2.2.size)).trans (HB.out.mono (by have := HF.out.2.2.size; have := HB1.out.size; omega))
  have HE9 := hidS (th_bel hb9 (f := R) (by omega) (.float .f64 dvO) (.slice (some ⟨gv, 0, none⟩) 2 2) (.slice (some ⟨ga, 0, none⟩) 1 1))
  obtain ⟨r0, r1, r2, -, -, -⟩ := th_c (th_set q4 (.float .f64 dvO) (.slice (some ⟨gv, 0, none⟩) 2 2) (.slice (some ⟨ga, 0, none⟩) 1 1))
  have hs1 := HB1.out.size
  clear z0 z1 z2 z3 z4 z5
  go_wp2_with fail
  (try simp only [Exit.inBlock, Exit.then])
  refine bodyPost_ret (by simp [results, Tryz.results72, go_sem, r0, r1, r2]; try rfl) rfl ?_
  have hsz : ∀ (a b c : Value), w4.heap.size ≤ (((w4.setCell ⟨R, 0, none⟩ a).setCell ⟨R, 1, none⟩ b).setCell ⟨R, 2, none⟩ c).heap.size := fun a b c => (th_bel (Below.refl 0 w4) (Nat.zero_le R) a b c).size
  have hkp : ∀ (a b c : Value) q, q ≠ R → (((w4.setCell ⟨R, 0, none⟩ a).setCell ⟨R, 1, none⟩ b).setCell ⟨R, 2, none⟩ c).heap[q]? = w4.heap[q]? := fun a b c q hq => by
    rw [heap_setCell_other _ _ _ _ (by simpa using hq), heap_setCell_other _ _ _ _ (by simpa using hq), heap_setCell_other _ _ _ _ (by simpa using hq)]
  have hgv9 : w1.heap.size ≤ gv := hg2
  have hga9 : w2.heap.size ≤ ga := hga
  have hb12 : w1.heap.size ≤ w2.heap.size := hb2.size
  exact ⟨gv, ga, rfl, rc_but hrv (hsz _ _ _) (hkp _ _ _ gv (by omega)), rc_but hra (hsz _ _ _) (hkp _ _ _ ga (by omega)), ⟨by omega, by omega⟩, HE9.out⟩
end Go.Proofs.YtmpkcioeodlbcaaGreatDoor
namespace Go.Proofs.YtmpkcioeodlbcaaGreatDoor
open Fl Go.Maps Go.RowKit Joins Deep
set_option linter.unusedVariables false
set_option maxRecDepth 20000
set_option maxHeartbeats 1000000 in
theorem dv_psolve {w : World} {nb p : Nat} {b : Nb} (h : Nt w nb p dvN b) : Calls Tryz.prog 29 #[.pointer (some ⟨p, 0, none⟩), .float .f64 dvO] w fun e w' => ∃ gv ga, e = .returned (.tuple #[.agg #[.float .f64 dvO, .slice (some ⟨gv, 0, none⟩) 2 2, .slice (some ⟨ga, 0, none⟩) 1 1], .agg #[.int .i64 0, .int .i64 0]]) ∧ Rc w' (some ⟨gv, 0, none⟩) [(4620693217682128896, 0), (4616189618054758400, 0)] ∧ Rc w' (some ⟨ga, 0, none⟩) [(13835058055282163712, 0)] ∧ Below w.heap.size w w' := by
  obtain ⟨R, hR⟩ : ∃ R, w.heap.size = R := ⟨_, rfl⟩
  have k1 : ((w.alloc (.cells #[.float .f64 0, .slice none 0 0, .slice none 0 0] 35)).alloc (.cells #[.int .i64 0, .int .i64 0] 69)).heap[R]? = some (.cells #[.float .f64 0, .slice none 0 0, .slice none 0 0] 35 (0, 0)) := by
    rw [(bal _ _).block R (by rw [← hR]; simp), ← hR]; exact heap_alloc_new w _
  have k2 : ((w.alloc (.cells #[.float .f64 0, .slice none 0 0, .slice none 0 0] 35)).alloc (.cells #[.int .i64 0, .int .i64 0] 69)).heap[R + 1]? = some (.cells #[.int .i64 0, .int .i64 0] 69 (0, 0)) := by
    have := heap_alloc_new (w.alloc (.cells #[.float .f64 0, .slice none 0 0, .slice none 0 0] 35)) (.cells #[.int .i64 0, .int .i64 0] 69)
    rw [show (w.alloc (.cells #[.float .f64 0, .slice none 0 0, .slice none 0 0] 35)).heap.size = R + 1 by rw [← hR]; simp] at this
    exact this
  have k3 : ((w.alloc (.cells #[.float .f64 0, .slice none 0 0, .slice none 0 0] 35)).alloc (.cells #[.int .i64 0, .int .i64 0] 69)).heap.size = R + 2 := by rw [← hR]; simp
  have k4 : Below w.heap.size w ((w.alloc (.cells #[.float .f64 0, .slice none 0 0, .slice none 0 0] 35)).alloc (.cells #[.int .i64 0, .int .i64 0] 69)) := (bal w _).alloc (bal w _).size _
  obtain ⟨wF, hwF⟩ : ∃ W, ((w.alloc (.cells #[.float .f64 0, .slice none 0 0, .slice none 0 0] 35)).alloc (.cells #[.int .i64 0, .int .i64 0] 69)) = W := ⟨_, rfl⟩
  rw [hwF] at k1 k2 k3 k4
  have HF := hidS (And.intro k1 (And.intro k2 (And.intro k3 k4)))
  have HNT := hidS (h.below k4)
  clear k1 k2 k3 k4 h
  have HRF := hidS (ph_refused_one HNT.out (by decide))
  go_enter Tryz.func29, Tryz.ntmps29
  go_wp2_with (go_at_call 69; (with_reducible refine HRF.out.mono ?_); rintro e v ⟨rfl, hv⟩; subst v)
  clear hwF
  refine (dv_pdriven HNT.out).mono ?_
  rintro e1 w1 ⟨g, c, l, gb, cb, gx, rfl, hr, hg, hb1⟩
  have HR1 := hidS (And.intro hr hg)
  have HB1 := hidS hb1
  clear hr hg hb1
  go_wp2_with fail
  have m4 : Below w1.heap.size w1 ((w1.alloc (.cells #[.int .i64 3, .int .i64 3, .slice (some ⟨g, 0, none⟩) 9 c, .pointer (some ⟨l, 0, none⟩), .slice (some ⟨gb, 0, none⟩) 3 cb, .slice (some ⟨gx, 0, none⟩) 3 3] 123)).alloc (.cells #[.int .i64 0, .int .i64 0] 69)) := (bal w1 _).alloc (bal w1 _).size _
  obtain ⟨wA, hwA⟩ : ∃ W, ((w1.alloc (.cells #[.int .i64 3, .int .i64 3, .slice (some ⟨g, 0, none⟩) 9 c, .pointer (some ⟨l, 0, none⟩), .slice (some ⟨gb, 0, none⟩) 3 cb, .slice (some ⟨gx, 0, none⟩) 3 3] 123)).alloc (.cells #[.int .i64 0, .int .i64 0] 69)) = W := ⟨_, rfl⟩
  rw [hwA] at m4
  rw [hwA]
  have HBA : Hid (Below wF.heap.size wF wA) := HB1.out.trans (m4.mono HB1.out.size)
  have hx : Rc wA (some ⟨gx, 0, none⟩) dvX := HR1.out.1.below m4
  clear hwA m4
  refine (dv_psolution (HNT.out.below HBA.out) hx).mono ?_
  rintro e2 w2 ⟨gv, ga, rfl, hv, ha, hg, hb2⟩
  have HB2 : Hid (Below wF.heap.size wF w2) := HBA.out.trans (hb2.mono HBA.out.size)
  have HR2 := hidS (And.intro hv (And.intro ha (show R + 2 ≤ gv ∧ R + 2 ≤ ga by have e1 := HF.out.2.2.1; have e2 := HBA.out.size; omega)))
  clear hv ha hg hb2 hx
  have e1 := HF.out.2.2.1
  have hb9 : Below w.heap.size w w2 := HF.out.2.2.2.trans (HB2.out.mono HF.out.2.2.2.size)
  have q1 : w2.heap[R]? = some (.cells #[.float .f64 0, .slice none 0 0, .slice none 0 0] 35 (0, 0)) := by rw [HB2.out.block R (by omega)]; exact HF.out.1
  have q2 : w2.heap[R + 1]? = some (.cells #[.int .i64 0, .int .i64 0] 69 (0, 0)) := by rw [HB2.out.block (R + 1) (by omega)]; exact HF.out.2.1
  obtain ⟨z0, z1, z2, z3, z4, z5⟩ := th_c q1
  obtain ⟨x0, x1, x2, x3⟩ := tw_c q2
  have hrf := rf_of q1 q2 (by omega) (.float .f64 dvO) (.slice (some ⟨gv, 0, none⟩) 2 2) (.slice (some ⟨ga, 0, none⟩) 1 1) (.int .i64 0) (.int .i64 0)
  obtain ⟨g0, g1, g2, g3⟩ := hrf.g
  rw [x0] at g0
  rw [x1] at g1
  have HRF2 := hidS hrf
  have HE9 := hidS (tw_bel (th_bel hb9 (Nat.le_of_eq hR) (.float .f64 dvO) (.slice (some ⟨gv, 0, none⟩) 2 2) (.slice (some ⟨ga, 0, none⟩) 1 1)) (f := R + 1) (by omega) (.int .i64 0) (.int .i64 0))
  clear hrf q1 q2
  go_wp2_with fail
  obtain ⟨r0, r1, r2⟩ := HRF2.out.r
  obtain ⟨t0, t1⟩ := HRF2.out.t
  (try simp only [Exit.inBlock, Exit.then])
  refine bodyPost_ret (by simp [results, Tryz.results29, go_sem, r0, r1, r2, t0, t1]; try rfl) rfl ?_
  have e7 := HR2.out.2.2
  refine ⟨gv, ga, rfl, rc_but HR2.out.1 (by simp) ?_, rc_but HR2.out.2.1 (by simp) ?_, HE9.out⟩
  · rw [heap_setCell_other _ _ _ _ (by simp; omega), heap_setCell_other _ _ _ _ (by simp; omega), heap_setCell_other _ _ _ _ (by simp; omega), heap_setCell_other _ _ _ _ (by simp; omega), heap_setCell_other _ _ _ _ (by simp; omega)]
  · rw [heap_setCell_other _ _ _ _ (by simp; omega), heap_setCell_other _ _ _ _ (by simp; omega), heap_setCell_other _ _ _ _ (by simp; omega), heap_setCell_other _ _ _ _ (by simp; omega), heap_setCell_other _ _ _ _ (by simp; omega)]
end Go.Proofs.YtmpkcioeodlbcaaGreatDoor
namespace Go.Proofs.YtmpkcioeodlbcaaGreatDoor
open Fl Go.Maps Go.RowKit Joins Deep
set_option linter.unusedVariables false
set_option maxRecDepth 20000
theorem dv_text {w : World} (hw : Wow w) : Calls Tryz.prog 34 #[.string dvS] w fun e w' => ∃ p base b, e = .returned (.pointer (some ⟨p, 0, none⟩)) ∧ Nt w' base p dvN b ∧ Below w.heap.size w w' := by
  have HP : Hid (Calls Tryz.prog 79 #[.string dvS] w fun e w' => ∃ base p b, e = .returned (.tuple #[.pointer (some ⟨p, 0, none⟩), .agg #[.int .i64 0, .int .i64 0]]) ∧ Nt w' base p dvN b ∧ Below w.heap.size w w') := by
    refine (parse_main dvS w (by decide) hw dv_er).mono ?_
    rintro e w' ⟨hb, ⟨-, -, base, p, b, rfl, hN, hp⟩ | ⟨h1, -⟩⟩
    · rw [dv_a, dv_of] at hN
      exact ⟨base, p, b, rfl, hN, hb⟩
    · rw [dv_e] at h1; exact absurd rfl h1
  clear hw
  obtain ⟨s, hs⟩ : ∃ s, dvS = s := ⟨_, rfl⟩
  rw [hs] at HP
  rw [hs]
  clear hs
  go_enter Tryz.func34, Tryz.ntmps34
  go_wp2_with fail
  refine HP.out.mono ?_
  rintro e1 w1 ⟨base, p, b, rfl, hN, hb⟩
  have HN := hidS (hN.below (bal w1 (.cells #[.int .i64 0, .int .i64 0] 69)))
  have HB := hidS (hb.alloc hb.size (.cells #[.int .i64 0, .int .i64 0] 69))
  clear hN hb
  go_wp2_with fail
  go_ret
  exact ⟨p, base, b, rfl, HN.out, HB.out⟩
theorem dv_divider {w : World} (hw : Wow w) : Calls Tryz.prog 33 #[] w fun e w' => ∃ p base b, e = .returned (.pointer (some ⟨p, 0, none⟩)) ∧ Nt w' base p dvN b ∧ Below w.heap.size w w' := by
  have HT := hidS (dv_text hw)
  unfold dvS at HT
  go_enter Tryz.func33, Tryz.ntmps33
  go_wp2_with (go_at_call 34; (with_reducible refine HT.out.mono ?_); rintro e v ⟨p, base, b, rfl, hN, hb⟩; (have HN := hidS (And.intro hN hb)); clear hN hb)
  go_ret
  exact ⟨p, base, b, rfl, HN.out.1, HN.out.2⟩
theorem ph_al2 (W : World) (a b : Cw) (t : TypeId) (B : Nat) (hB : W.heap.size = B) : Rc (W.alloc (.cells #[.complex .f64 a.1 a.2, .complex .f64 b.1 b.2] t)) (some ⟨B, 0, none⟩) [a, b] := fun k hk => by
  have h := heap_alloc_new W (.cells #[.complex .f64 a.1 a.2, .complex .f64 b.1 b.2] t)
  rw [hB] at h
  have hk2 : k < 2 := hk
  refine ⟨B, 0, rfl, by rw [← hB]; simp, ?_⟩
  rw [Nat.zero_add, cell_of_row _ B k _ t (0, 0) h]
  rcases (by omega : k = 0 ∨ k = 1) with rfl | rfl <;> rfl
theorem ph_al1 (W : World) (a : Cw) (t : TypeId) (B : Nat) (hB : W.heap.size = B) : Rc (W.alloc (.cells #[.complex .f64 a.1 a.2] t)) (some ⟨B, 0, none⟩) [a] := fun k hk => by
  have h := heap_alloc_new W (.cells #[.complex .f64 a.1 a.2] t)
  rw [hB] at h
  have hk2 : k < 1 := hk
  obtain rfl : k = 0 := by omega
  refine ⟨B, 0, rfl, by rw [← hB]; simp, ?_⟩
  rw [Nat.zero_add, cell_of_row _ B 0 _ t (0, 0) h]
  rfl
set_option maxHeartbeats 1000000 in
theorem lives20 {w : World} (hw : Wow w) : Calls Tryz.prog 8 #[] w fun e w' => e = .returned (.bool true) ∧ Below w.heap.size w w' := by
  have HD := hidS (dv_divider hw)
  have HS : Hid (∀ (W : World) (base p : Nat) (b : Nb), Nt W base p dvN b → Calls Tryz.prog 29 #[.pointer (some ⟨p, 0, none⟩), .float .f64 4607182418800017408] W fun e w' => ∃ gv ga, e = .returned (.tuple #[.agg #[.float .f64 4607182418800017408, .slice (some ⟨gv, 0, none⟩) 2 2, .slice (some ⟨ga, 0, none⟩) 1 1], .agg #[.int .i64 0, .int .i64 0]]) ∧ Rc w' (some ⟨gv, 0, none⟩) [(4620693217682128896, 0), (4616189618054758400, 0)] ∧ Rc w' (some ⟨ga, 0, none⟩) [(13835058055282163712, 0)] ∧ Below W.heap.size W w') := fun W base p b h => dv_psolve h
  have q1 : FloatKind.f64.format.order 4607182418800017408 4607182418800017408 = some .eq := by kernel_rfl
  clear hw
  go_enter Tryz.func8, Tryz.ntmps8
  go_wp2_with fail
  refine HD.out.mono ?_
  rintro e1 w1 ⟨p, base, b, rfl, hN, hb1⟩
  have HN := hidS hN
  have HB1 := hidS hb1
  clear hN hb1 HD
  go_wp2_with fail
  refine (HS.out w1 base p b HN.out).mono ?_
  rintro e2 w2 ⟨gv, ga, rfl, hv, ha, hb2⟩
  have HB2 := hidS (HB1.out.trans (hb2.mono HB1.out.size))
  have HR2 := hidS (And.intro hv ha)
  clear hv ha hb2 HS
  go_wp2_with fail
  obtain ⟨D, hD⟩ : ∃ D, w2.heap.size = D := ⟨_, rfl⟩
  have hX1 : ((w2.alloc (.cells #[.float .f64 4607182418800017408, .slice (some ⟨gv, 0, none⟩) 2 2, .slice (some ⟨ga, 0, none⟩) 1 1] 35)).alloc (.cells #[.int .i64 0, .int .i64 0] 69)).heap.size = D + 1 + 1 := by rw [← hD]; simp
  have hX2 : ((w2.alloc (.cells #[.float .f64 4607182418800017408, .slice (some ⟨gv, 0, none⟩) 2 2, .slice (some ⟨ga, 0, none⟩) 1 1] 35)).alloc (.cells #[.int .i64 0, .int .i64 0] 69)).heap[D]? = some (.cells #[.float .f64 4607182418800017408, .slice (some ⟨gv, 0, none⟩) 2 2, .slice (some ⟨ga, 0, none⟩) 1 1] 35 (0, 0)) := by
    rw [(bal _ _).block D (by rw [← hD]; simp), ← hD]; exact heap_alloc_new w2 _
  have hX4 : Below w2.heap.size w2 ((w2.alloc (.cells #[.float .f64 4607182418800017408, .slice (some ⟨gv, 0, none⟩) 2 2, .slice (some ⟨ga, 0, none⟩) 1 1] 35)).alloc (.cells #[.int .i64 0, .int .i64 0] 69)) := (bal w2 _).alloc (bal w2 _).size _
  rw [hD]
  obtain ⟨wX, hwX⟩ : ∃ W, ((w2.alloc (.cells #[.float .f64 4607182418800017408, .slice (some ⟨gv, 0, none⟩) 2 2, .slice (some ⟨ga, 0, none⟩) 1 1] 35)).alloc (.cells #[.int .i64 0, .int .i64 0] 69)) = W := ⟨_, rfl⟩
  rw [hwX] at hX1 hX2 hX4
  rw [hwX]
  clear hwX
  have HX := hidS (And.intro hX1 (And.intro hX2 hX4))
  clear hX1 hX2 hX4
  have hb3 := bal wX (.cells #[.complex .f64 4620693217682128896 0, .complex .f64 4616189618054758400 0] 39)
  refine (kequal_len 2 _ _ 2 2 [(4620693217682128896, 0), (4616189618054758400, 0)] [(4620693217682128896, 0), (4616189618054758400, 0)] _ (by decide) rfl rfl ((HR2.out.1.below HX.out.2.2).below hb3) (ph_al2 wX (4620693217682128896, 0) (4616189618054758400, 0) 39 _ HX.out.1) (by
    intro k hk
    rcases (by omega : k = 0 ∨ k = 1) with rfl | rfl <;> exact ⟨by kernel_rfl, by kernel_rfl⟩)).mono ?_
  rintro e3 w3 ⟨n3, rfl, hw3⟩
  have HB3 : Hid (Below wX.heap.size wX w3) := by rw [hw3]; exact below_dN hb3 n3
  clear hw3 hb3
  have n1 : w3.heap[D]? = some (.cells #[.float .f64 4607182418800017408, .slice (some ⟨gv, 0, none⟩) 2 2, .slice (some ⟨ga, 0, none⟩) 1 1] 35 (0, 0)) := by rw [HB3.out.block D (by have := HX.out.1; omega)]; exact HX.out.2.1
  obtain ⟨y0, y1, y2, -, -, -⟩ := th_c n1
  clear n1
  go_wp2_with fail
  clear y0 y1 y2
  have hb4 := bal w3 (.cells #[.complex .f64 13835058055282163712 0] 39)
  refine (kequal_len 1 _ _ 1 1 [(13835058055282163712, 0)] [(13835058055282163712, 0)] _ (by decide) rfl rfl (((HR2.out.2.below HX.out.2.2).below HB3.out).below hb4) (ph_al1 w3 (13835058055282163712, 0) 39 _ rfl) (by
    intro k hk
    obtain rfl : k = 0 := by omega
    exact ⟨by kernel_rfl, by kernel_rfl⟩)).mono ?_
  rintro e4 w4 ⟨n4, rfl, hw4⟩
  have HB4 : Hid (Below w3.heap.size w3 w4) := by rw [hw4]; exact below_dN hb4 n4
  clear hw4 hb4
  go_wp2_with fail
  go_ret
  have h1 := HB2.out.trans (HX.out.2.2.mono HB2.out.size)
  have h2 := h1.trans (HB3.out.mono h1.size)
  exact ⟨rfl, h2.trans (HB4.out.mono h2.size)⟩
end Go.Proofs.YtmpkcioeodlbcaaGreatDoor
namespace Go.Proofs.YtmpkcioeodlbcaaGreatDoor
open Fl Go.Maps Go.RowKit Joins Deep
set_option linter.unusedVariables false
set_option maxRecDepth 20000
theorem ss_zero (w : World) : Calls Tryz.prog 32 #[.agg #[.float .f64 0, .slice none 0 0, .slice none 0 0], .agg #[.float .f64 0, .slice none 0 0, .slice none 0 0]] w fun e w' => e = .returned (.bool true) ∧ Below w.heap.size w w' := by
  have HR : Hid (∀ W, Calls Tryz.prog 54 #[.float .f64 0, .float .f64 0] W fun e w' => e = .returned (.bool true) ∧ w' = W) := fun W => by
    have h := ksameR_any 0 0 W
    rwa [smB_self] at h
  have HN := hidS (fun W => tsame_none W)
  have HB := hidS ((bal w (.cells #[.float .f64 0, .slice none 0 0, .slice none 0 0] 35)).alloc (bal w _).size (.cells #[.float .f64 0, .slice none 0 0, .slice none 0 0] 35))
  go_enter Tryz.func32, Tryz.ntmps32
  go_wp2_with (first
    | (go_at_call 54; (with_reducible refine (HR.out _).mono ?_); rintro e v ⟨rfl, hv⟩; subst v)
    | (go_at_call 78; (with_reducible refine (HN.out _).mono ?_); rintro e v ⟨m, rfl, hv⟩; subst v))
  go_ret
  exact ⟨rfl, below_drewN HB.out _⟩
/-- what PhasorNil lays ahead of its loop -/
theorem pn_st (w : World) : ∃ ws, (((w.alloc (.cells #[.slice none 0 0, .slice none 0 0, .map none, .slice none 0 0, .map none, .slice none 0 0, .map none] 66)).alloc (.cells #[.pointer none, .pointer (some ⟨w.heap.size, 0, none⟩)] 26)).alloc (.cells #[.int .i64 1, .int .i64 (-1)] 69)) = ws ∧ ws.cell? ⟨w.heap.size + 1, 0, none⟩ = some (.pointer none) ∧ ws.cell? ⟨w.heap.size + 1, 1, none⟩ = some (.pointer (some ⟨w.heap.size, 0, none⟩)) ∧ NoNet (.pointer (some ⟨w.heap.size, 0, none⟩)) ws ∧ ws.heap[w.heap.size + 1 + 1]? = some (.cells #[.int .i64 1, .int .i64 (-1)] 69 (0, 0)) ∧ Below w.heap.size w ws := by
  have s1 : (w.alloc (.cells #[.slice none 0 0, .slice none 0 0, .map none, .slice none 0 0, .map none, .slice none 0 0, .map none] 66)).heap.size = w.heap.size + 1 := by simp
  have s2 : ((w.alloc (.cells #[.slice none 0 0, .slice none 0 0, .map none, .slice none 0 0, .map none, .slice none 0 0, .map none] 66)).alloc (.cells #[.pointer none, .pointer (some ⟨w.heap.size, 0, none⟩)] 26)).heap.size = w.heap.size + 1 + 1 := by simp
  have k1 := heap_alloc_new w (.cells #[.slice none 0 0, .slice none 0 0, .map none, .slice none 0 0, .map none, .slice none 0 0, .map none] 66)
  have k2 := heap_alloc_new (w.alloc (.cells #[.slice none 0 0, .slice none 0 0, .map none, .slice none 0 0, .map none, .slice none 0 0, .map none] 66)) (.cells #[.pointer none, .pointer (some ⟨w.heap.size, 0, none⟩)] 26)
  have k3 := heap_alloc_new ((w.alloc (.cells #[.slice none 0 0, .slice none 0 0, .map none, .slice none 0 0, .map none, .slice none 0 0, .map none] 66)).alloc (.cells #[.pointer none, .pointer (some ⟨w.heap.size, 0, none⟩)] 26)) (.cells #[.int .i64 1, .int .i64 (-1)] 69)
  rw [s1] at k2
  rw [s2] at k3
  have k4 : (((w.alloc (.cells #[.slice none 0 0, .slice none 0 0, .map none, .slice none 0 0, .map none, .slice none 0 0, .map none] 66)).alloc (.cells #[.pointer none, .pointer (some ⟨w.heap.size, 0, none⟩)] 26)).alloc (.cells #[.int .i64 1, .int .i64 (-1)] 69)).heap[w.heap.size]? = some (.cells #[.slice none 0 0, .slice none 0 0, .map none, .slice none 0 0, .map none, .slice none 0 0, .map none] 66 (0, 0)) := by
    rw [(bal _ _).block _ (by omega), (bal _ _).block _ (by omega)]; exact k1
  have k5 : (((w.alloc (.cells #[.slice none 0 0, .slice none 0 0, .map none, .slice none 0 0, .map none, .slice none 0 0, .map none] 66)).alloc (.cells #[.pointer none, .pointer (some ⟨w.heap.size, 0, none⟩)] 26)).alloc (.cells #[.int .i64 1, .int .i64 (-1)] 69)).heap[w.heap.size + 1]? = some (.cells #[.pointer none, .pointer (some ⟨w.heap.size, 0, none⟩)] 26 (0, 0)) := by
    rw [(bal _ _).block _ (by omega)]; exact k2
  refine ⟨_, rfl, (tw_c k5).1, (tw_c k5).2.1, .inr ⟨_, rfl, ?_⟩, k3, ((bal w _).alloc (bal w _).size _).alloc ((bal w _).alloc (bal w _).size _).size _⟩
  rw [cell_of_row _ _ 2 _ _ (0, 0) k4]; rfl
set_option maxHeartbeats 4000000 in
theorem phnil_walk (w : World) (o : Nat) (ho : o < 18446744073709551616) (s : ByteArray) (hw : Wow w) : Calls Tryz.prog 5 #[.int .u64 (o : Int), .string s] w fun e w' => e = .returned (.bool true) ∧ Below w.heap.size w w' := by
  obtain ⟨ws, hws, hc0, hc1, hnn, hbad, hbs⟩ := pn_st w
  have HS := hidS (And.intro hc0 (And.intro hc1 (And.intro hnn hbad)))
  have HBS := hidS hbs
  have HW := hidS (hw.kept hbs)
  clear hw hc0 hc1 hnn hbad hbs
  obtain ⟨Z, hZ⟩ : ∃ Z, w.heap.size = Z := ⟨_, rfl⟩
  rw [hZ] at HS hws
  go_enter Tryz.func5, Tryz.ntmps5
  go_wp2_with fail
  clear hws
  go_loopw [8] (fun iv wr => ∃ (k : Nat), k ≤ 2 ∧ iv = .int .i64 k ∧ Hid (Below ws.heap.size ws wr)) (fun iv _ => 2 - (intOf iv).toNat)
  case atStart => exact ⟨0, by omega, rfl, Below.refl _ _⟩
  case round =>
    obtain ⟨k, hle, rfl, HB_wr⟩ := hrel
    by_cases hkn : k < 2
    · have hki : (k : Int) < 2 := by omega
      obtain ⟨P, hP, hN⟩ : ∃ P, wr.cell? ⟨Z + 1, k, none⟩ = some (.pointer P) ∧ NoNet (.pointer P) wr := by
        rcases (by omega : k = 0 ∨ k = 1) with rfl | rfl
        · exact ⟨_, (HB_wr.out.cell (World.block_lt_of_cell? ws _ HS.out.1)).trans HS.out.1, .inl rfl⟩
        · exact ⟨_, (HB_wr.out.cell (World.block_lt_of_cell? ws _ HS.out.2.1)).trans HS.out.2.1, HS.out.2.2.1.below HB_wr.out⟩
      have HN : Hid (NoNet (.pointer P) wr) := hN
      have HA_wr := hidS (Below.refl wr.heap.size wr)
      clear hN
      go_wp2_with fail
      clear hP
      refine (ph_solve_none HN.out o).mono ?_
      rintro e1 w1 ⟨rfl, hb⟩
      have HL_w1 := hidS hb
      have HA_w1 := hidS (HA_wr.out.trans (hb.mono HA_wr.out.size))
      clear hb
      go_wp2_with fail
      obtain ⟨d1, h_d1⟩ : ∃ D, w1.heap.size = D := ⟨_, rfl⟩
      have hs1 : ((w1.alloc (.cells #[.float .f64 0, .slice none 0 0, .slice none 0 0] 35)).alloc (.cells #[.int .i64 1, .int .i64 (-1)] 69)).heap[d1]? = some (.cells #[.float .f64 0, .slice none 0 0, .slice none 0 0] 35 (0, 0)) := by rw [(bal _ _).block d1 (by rw [← h_d1]; simp), ← h_d1]; exact heap_alloc_new w1 _
      have hs2 : ((w1.alloc (.cells #[.float .f64 0, .slice none 0 0, .slice none 0 0] 35)).alloc (.cells #[.int .i64 1, .int .i64 (-1)] 69)).heap[d1 + 1]? = some (.cells #[.int .i64 1, .int .i64 (-1)] 69 (0, 0)) := by have q := heap_alloc_new (w1.alloc (.cells #[.float .f64 0, .slice none 0 0, .slice none 0 0] 35)) (.cells #[.int .i64 1, .int .i64 (-1)] 69); rw [show (w1.alloc (.cells #[.float .f64 0, .slice none 0 0, .slice none 0 0] 35)).heap.size = d1 + 1 by rw [← h_d1]; simp] at q; exact q
      have hs4 : ((w1.alloc (.cells #[.float .f64 0, .slice none 0 0, .slice none 0 0] 35)).alloc (.cells #[.int .i64 1, .int .i64 (-1)] 69)).heap.size = d1 + 2 := by rw [← h_d1]; simp
      have hb : Below w1.heap.size w1 ((w1.alloc (.cells #[.float .f64 0, .slice none 0 0, .slice none 0 0] 35)).alloc (.cells #[.int .i64 1, .int .i64 (-1)] 69)) := (bal w1 _).alloc (bal w1 _).size _
      obtain ⟨a1, h_a1⟩ : ∃ W, ((w1.alloc (.cells #[.float .f64 0, .slice none 0 0, .slice none 0 0] 35)).alloc (.cells #[.int .i64 1, .int .i64 (-1)] 69)) = W := ⟨_, rfl⟩
      rw [h_a1] at hs1 hs4 hb hs2
      have HO_a1 := hidS (And.intro hs1 (And.intro hs4 hs2))
      clear hs1 hs4 hs2
      have HL_a1 := hidS hb
      have HA_a1 := hidS (HA_w1.out.trans (hb.mono HA_w1.out.size))
      clear hb
      rw [h_d1]
      rw [h_a1]
      clear h_a1 h_d1
      refine (ph_refined_none (HN.out.below HA_a1.out) o).mono ?_
      rintro e2 w2 ⟨rfl, hb⟩
      have HL_w2 := hidS hb
      have HA_w2 := hidS (HA_a1.out.trans (hb.mono HA_a1.out.size))
      clear hb
      go_wp2_with fail
      obtain ⟨d2, h_d2⟩ : ∃ D, w2.heap.size = D := ⟨_, rfl⟩
      have hs1 : ((w2.alloc (.cells #[.float .f64 0, .slice none 0 0, .slice none 0 0] 35)).alloc (.cells #[.int .i64 1, .int .i64 (-1)] 69)).heap[d2]? = some (.cells #[.float .f64 0, .slice none 0 0, .slice none 0 0] 35 (0, 0)) := by rw [(bal _ _).block d2 (by rw [← h_d2]; simp), ← h_d2]; exact heap_alloc_new w2 _
      have hs2 : ((w2.alloc (.cells #[.float .f64 0, .slice none 0 0, .slice none 0 0] 35)).alloc (.cells #[.int .i64 1, .int .i64 (-1)] 69)).heap[d2 + 1]? = some (.cells #[.int .i64 1, .int .i64 (-1)] 69 (0, 0)) := by have q := heap_alloc_new (w2.alloc (.cells #[.float .f64 0, .slice none 0 0, .slice none 0 0] 35)) (.cells #[.int .i64 1, .int .i64 (-1)] 69); rw [show (w2.alloc (.cells #[.float .f64 0, .slice none 0 0, .slice none 0 0] 35)).heap.size = d2 + 1 by rw [← h_d2]; simp] at q; exact q
      have hs4 : ((w2.alloc (.cells #[.float .f64 0, .slice none 0 0, .slice none 0 0] 35)).alloc (.cells #[.int .i64 1, .int .i64 (-1)] 69)).heap.size = d2 + 2 := by rw [← h_d2]; simp
      have hb : Below w2.heap.size w2 ((w2.alloc (.cells #[.float .f64 0, .slice none 0 0, .slice none 0 0] 35)).alloc (.cells #[.int .i64 1, .int .i64 (-1)] 69)) := (bal w2 _).alloc (bal w2 _).size _
      obtain ⟨a2, h_a2⟩ : ∃ W, ((w2.alloc (.cells #[.float .f64 0, .slice none 0 0, .slice none 0 0] 35)).alloc (.cells #[.int .i64 1, .int .i64 (-1)] 69)) = W := ⟨_, rfl⟩
      rw [h_a2] at hs1 hs4 hb hs2
      have HO_a2 := hidS (And.intro hs1 (And.intro hs4 hs2))
      clear hs1 hs4 hs2
      have HL_a2 := hidS hb
      have HA_a2 := hidS (HA_w2.out.trans (hb.mono HA_w2.out.size))
      clear hb
      rw [h_d2]
      rw [h_a2]
      clear h_a2 h_d2
      refine (ph_with_none (HN.out.below HA_a2.out) o).mono ?_
      rintro e3 w3 ⟨rfl, hb⟩
      have HL_w3 := hidS hb
      have HA_w3 := hidS (HA_a2.out.trans (hb.mono HA_a2.out.size))
      clear hb
      have hq1 : ((w3.alloc (.cells #[.float .f64 0, .slice none 0 0, .slice none 0 0] 35)).alloc (.cells #[.int .i64 1, .int .i64 (-1)] 69)).heap[d1]? = some (.cells #[.float .f64 0, .slice none 0 0, .slice none 0 0] 35 (0, 0)) := by
        have z := HO_a1.out.2.1
        have z1 := HL_w2.out.size
        have z2 := HL_a2.out.size
        have z3 := HL_w3.out.size
        rw [(bal _ _).block d1 (by simp; omega), (bal _ _).block d1 (by omega), HL_w3.out.block d1 (by omega), HL_a2.out.block d1 (by omega), HL_w2.out.block d1 (by omega)]
        exact HO_a1.out.1
      obtain ⟨m0, m1, m2, -, -, -⟩ := th_c hq1
      clear hq1
      go_wp2_with fail
      clear m0 m1 m2
      obtain ⟨d3, h_d3⟩ : ∃ D, w3.heap.size = D := ⟨_, rfl⟩
      have hs1 : ((w3.alloc (.cells #[.float .f64 0, .slice none 0 0, .slice none 0 0] 35)).alloc (.cells #[.int .i64 1, .int .i64 (-1)] 69)).heap[d3]? = some (.cells #[.float .f64 0, .slice none 0 0, .slice none 0 0] 35 (0, 0)) := by rw [(bal _ _).block d3 (by rw [← h_d3]; simp), ← h_d3]; exact heap_alloc_new w3 _
      have hs2 : ((w3.alloc (.cells #[.float .f64 0, .slice none 0 0, .slice none 0 0] 35)).alloc (.cells #[.int .i64 1, .int .i64 (-1)] 69)).heap[d3 + 1]? = some (.cells #[.int .i64 1, .int .i64 (-1)] 69 (0, 0)) := by have q := heap_alloc_new (w3.alloc (.cells #[.float .f64 0, .slice none 0 0, .slice none 0 0] 35)) (.cells #[.int .i64 1, .int .i64 (-1)] 69); rw [show (w3.alloc (.cells #[.float .f64 0, .slice none 0 0, .slice none 0 0] 35)).heap.size = d3 + 1 by rw [← h_d3]; simp] at q; exact q
      have hs4 : ((w3.alloc (.cells #[.float .f64 0, .slice none 0 0, .slice none 0 0] 35)).alloc (.cells #[.int .i64 1, .int .i64 (-1)] 69)).heap.size = d3 + 2 := by rw [← h_d3]; simp
      have hb : Below w3.heap.size w3 ((w3.alloc (.cells #[.float .f64 0, .slice none 0 0, .slice none 0 0] 35)).alloc (.cells #[.int .i64 1, .int .i64 (-1)] 69)) := (bal w3 _).alloc (bal w3 _).size _
      obtain ⟨a3, h_a3⟩ : ∃ W, ((w3.alloc (.cells #[.float .f64 0, .slice none 0 0, .slice none 0 0] 35)).alloc (.cells #[.int .i64 1, .int .i64 (-1)] 69)) = W := ⟨_, rfl⟩
      rw [h_a3] at hs1 hs4 hb hs2
      have HO_a3 := hidS (And.intro hs1 (And.intro hs4 hs2))
      clear hs1 hs4 hs2
      have HL_a3 := hidS hb
      have HA_a3 := hidS (HA_w3.out.trans (hb.mono HA_w3.out.size))
      clear hb
      rw [h_d3]
      rw [h_a3]
      clear h_a3 h_d3
      refine (ph_volt_none (HN.out.below HA_a3.out) s).mono ?_
      rintro e4 w4 ⟨rfl, hb⟩
      have HL_w4 := hidS hb
      have HA_w4 := hidS (HA_a3.out.trans (hb.mono HA_a3.out.size))
      clear hb
      have hq1 : w4.heap[d1]? = some (.cells #[.float .f64 0, .slice none 0 0, .slice none 0 0] 35 (0, 0)) := by
        have z := HO_a1.out.2.1
        have z_w2 := HL_w2.out.size
        have z_a2 := HL_a2.out.size
        have z_w3 := HL_w3.out.size
        have z_a3 := HL_a3.out.size
        have z_w4 := HL_w4.out.size
        rw [HL_w4.out.block (d1) (by omega), HL_a3.out.block (d1) (by omega), HL_w3.out.block (d1) (by omega), HL_a2.out.block (d1) (by omega), HL_w2.out.block (d1) (by omega)]
        exact HO_a1.out.1
      obtain ⟨m0, m1, m2, -, -, -⟩ := th_c hq1
      clear hq1
      go_wp2_with fail
      clear m0 m1 m2
      refine (ph_across_none (HN.out.below HA_w4.out) s).mono ?_
      rintro e5 w5 ⟨rfl, hb⟩
      have HL_w5 := hidS hb
      have HA_w5 := hidS (HA_w4.out.trans (hb.mono HA_w4.out.size))
      clear hb
      have hq1 : w5.heap[d1]? = some (.cells #[.float .f64 0, .slice none 0 0, .slice none 0 0] 35 (0, 0)) := by
        have z := HO_a1.out.2.1
        have z_w2 := HL_w2.out.size
        have z_a2 := HL_a2.out.size
        have z_w3 := HL_w3.out.size
        have z_a3 := HL_a3.out.size
        have z_w4 := HL_w4.out.size
        have z_w5 := HL_w5.out.size
        rw [HL_w5.out.block (d1) (by omega), HL_w4.out.block (d1) (by omega), HL_a3.out.block (d1) (by omega), HL_w3.out.block (d1) (by omega), HL_a2.out.block (d1) (by omega), HL_w2.out.block (d1) (by omega)]
        exact HO_a1.out.1
      obtain ⟨m0, m1, m2, -, -, -⟩ := th_c hq1
      clear hq1
      go_wp2_with fail
      clear m0 m1 m2
      refine (ph_branch_none (HN.out.below HA_w5.out) s).mono ?_
      rintro e6 w6 ⟨rfl, hb⟩
      have HL_w6 := hidS hb
      have HA_w6 := hidS (HA_w5.out.trans (hb.mono HA_w5.out.size))
      clear hb
      go_wp2_with fail
      refine (ph_scaled_none (HN.out.below HA_w6.out) o).mono ?_
      rintro e7 w7 ⟨rfl, hb⟩
      have HL_w7 := hidS hb
      have HA_w7 := hidS (HA_w6.out.trans (hb.mono HA_w6.out.size))
      clear hb
      have HB7 := hidS (HB_wr.out.trans (HA_w7.out.mono HB_wr.out.size))
      obtain ⟨d7, h_d7⟩ : ∃ D, w7.heap.size = D := ⟨_, rfl⟩
      have hs1 : (w7.alloc (.cells #[.float .f64 0, .slice none 0 0, .slice none 0 0] 35)).heap[d7]? = some (.cells #[.float .f64 0, .slice none 0 0, .slice none 0 0] 35 (0, 0)) := by rw [← h_d7]; exact heap_alloc_new w7 _
      have hs4 : (w7.alloc (.cells #[.float .f64 0, .slice none 0 0, .slice none 0 0] 35)).heap.size = d7 + 1 := by rw [← h_d7]; simp
      have hb : Below w7.heap.size w7 (w7.alloc (.cells #[.float .f64 0, .slice none 0 0, .slice none 0 0] 35)) := bal w7 _
      have HO_a7 := hidS (And.intro hs1 (And.intro hs4 trivial))
      clear hs1 hs4
      have HL_a7 := hidS hb
      have HA_a7 := hidS (HA_w7.out.trans (hb.mono HA_w7.out.size))
      clear hb
      have hf : (w7.alloc (.cells #[.float .f64 0, .slice none 0 0, .slice none 0 0] 35)).heap[d1 + 1]? = some (.cells #[.int .i64 1, .int .i64 (-1)] 69 (0, 0)) := by
        have z := HO_a1.out.2.1
        have z_w2 := HL_w2.out.size
        have z_a2 := HL_a2.out.size
        have z_w3 := HL_w3.out.size
        have z_a3 := HL_a3.out.size
        have z_w4 := HL_w4.out.size
        have z_w5 := HL_w5.out.size
        have z_w6 := HL_w6.out.size
        have z_w7 := HL_w7.out.size
        have z_a7 := HL_a7.out.size
        rw [HL_a7.out.block (d1 + 1) (by omega), HL_w7.out.block (d1 + 1) (by omega), HL_w6.out.block (d1 + 1) (by omega), HL_w5.out.block (d1 + 1) (by omega), HL_w4.out.block (d1 + 1) (by omega), HL_a3.out.block (d1 + 1) (by omega), HL_w3.out.block (d1 + 1) (by omega), HL_a2.out.block (d1 + 1) (by omega), HL_w2.out.block (d1 + 1) (by omega)]
        exact HO_a1.out.2.2
      obtain ⟨f1a, f1b, -, -⟩ := tw_c hf
      clear hf
      have hf : (w7.alloc (.cells #[.float .f64 0, .slice none 0 0, .slice none 0 0] 35)).heap[d2 + 1]? = some (.cells #[.int .i64 1, .int .i64 (-1)] 69 (0, 0)) := by
        have z := HO_a2.out.2.1
        have z_w3 := HL_w3.out.size
        have z_a3 := HL_a3.out.size
        have z_w4 := HL_w4.out.size
        have z_w5 := HL_w5.out.size
        have z_w6 := HL_w6.out.size
        have z_w7 := HL_w7.out.size
        have z_a7 := HL_a7.out.size
        rw [HL_a7.out.block (d2 + 1) (by omega), HL_w7.out.block (d2 + 1) (by omega), HL_w6.out.block (d2 + 1) (by omega), HL_w5.out.block (d2 + 1) (by omega), HL_w4.out.block (d2 + 1) (by omega), HL_a3.out.block (d2 + 1) (by omega), HL_w3.out.block (d2 + 1) (by omega)]
        exact HO_a2.out.2.2
      obtain ⟨f2a, f2b, -, -⟩ := tw_c hf
      clear hf
      have hf : (w7.alloc (.cells #[.float .f64 0, .slice none 0 0, .slice none 0 0] 35)).heap[d3 + 1]? = some (.cells #[.int .i64 1, .int .i64 (-1)] 69 (0, 0)) := by
        have z := HO_a3.out.2.1
        have z_w4 := HL_w4.out.size
        have z_w5 := HL_w5.out.size
        have z_w6 := HL_w6.out.size
        have z_w7 := HL_w7.out.size
        have z_a7 := HL_a7.out.size
        rw [HL_a7.out.block (d3 + 1) (by omega), HL_w7.out.block (d3 + 1) (by omega), HL_w6.out.block (d3 + 1) (by omega), HL_w5.out.block (d3 + 1) (by omega), HL_w4.out.block (d3 + 1) (by omega)]
        exact HO_a3.out.2.2
      obtain ⟨f3a, f3b, -, -⟩ := tw_c hf
      clear hf
      have HB8 := hidS (HB7.out.trans (HL_a7.out.mono HB7.out.size))
      have hf : (w7.alloc (.cells #[.float .f64 0, .slice none 0 0, .slice none 0 0] 35)).heap[Z + 1 + 1]? = some (.cells #[.int .i64 1, .int .i64 (-1)] 69 (0, 0)) := by rw [HB8.out.block _ (Array.getElem?_eq_some_iff.1 HS.out.2.2.2).1]; exact HS.out.2.2.2
      obtain ⟨f4a, f4b, -, -⟩ := tw_c hf
      clear hf
      have hf : (w7.alloc (.cells #[.float .f64 0, .slice none 0 0, .slice none 0 0] 35)).heap[d1]? = some (.cells #[.float .f64 0, .slice none 0 0, .slice none 0 0] 35 (0, 0)) := by
        have z := HO_a1.out.2.1
        have z_w2 := HL_w2.out.size
        have z_a2 := HL_a2.out.size
        have z_w3 := HL_w3.out.size
        have z_a3 := HL_a3.out.size
        have z_w4 := HL_w4.out.size
        have z_w5 := HL_w5.out.size
        have z_w6 := HL_w6.out.size
        have z_w7 := HL_w7.out.size
        have z_a7 := HL_a7.out.size
        rw [HL_a7.out.block (d1) (by omega), HL_w7.out.block (d1) (by omega), HL_w6.out.block (d1) (by omega), HL_w5.out.block (d1) (by omega), HL_w4.out.block (d1) (by omega), HL_a3.out.block (d1) (by omega), HL_w3.out.block (d1) (by omega), HL_a2.out.block (d1) (by omega), HL_w2.out.block (d1) (by omega)]
        exact HO_a1.out.1
      obtain ⟨s1a, s1b, s1c, -, -, -⟩ := th_c hf
      clear hf
      have hf : (w7.alloc (.cells #[.float .f64 0, .slice none 0 0, .slice none 0 0] 35)).heap[d7]? = some (.cells #[.float .f64 0, .slice none 0 0, .slice none 0 0] 35 (0, 0)) := by
        have z := HO_a7.out.2.1
        exact HO_a7.out.1
      obtain ⟨s7a, s7b, s7c, -, -, -⟩ := th_c hf
      clear hf
      have HQU := hidS (ph_quiet_none (HN.out.below HA_a7.out))
      have q0 : FloatKind.f64.format.order 0 0 = some .eq := by kernel_rfl
      go_wp2_with (go_at_call 20; (with_reducible refine HQU.out.mono ?_); rintro e v ⟨rfl, hv⟩; subst v)
      clear f1a f1b f2a f2b f3a f3b f4a f4b s1a s1b s1c s7a s7b s7c HQU
      refine (ss_zero _).mono ?_
      rintro e8 w8 ⟨rfl, hb⟩
      have HL_w8 := hidS hb
      have HA_w8 := hidS (HA_a7.out.trans (hb.mono HA_a7.out.size))
      clear hb
      have hf : w8.heap[d2]? = some (.cells #[.float .f64 0, .slice none 0 0, .slice none 0 0] 35 (0, 0)) := by
        have z := HO_a2.out.2.1
        have z_w3 := HL_w3.out.size
        have z_a3 := HL_a3.out.size
        have z_w4 := HL_w4.out.size
        have z_w5 := HL_w5.out.size
        have z_w6 := HL_w6.out.size
        have z_w7 := HL_w7.out.size
        have z_a7 := HL_a7.out.size
        have z_w8 := HL_w8.out.size
        rw [HL_w8.out.block (d2) (by omega), HL_a7.out.block (d2) (by omega), HL_w7.out.block (d2) (by omega), HL_w6.out.block (d2) (by omega), HL_w5.out.block (d2) (by omega), HL_w4.out.block (d2) (by omega), HL_a3.out.block (d2) (by omega), HL_w3.out.block (d2) (by omega)]
        exact HO_a2.out.1
      obtain ⟨s2a, s2b, s2c, -, -, -⟩ := th_c hf
      clear hf
      have hf : w8.heap[d7]? = some (.cells #[.float .f64 0, .slice none 0 0, .slice none 0 0] 35 (0, 0)) := by
        have z := HO_a7.out.2.1
        have z_w8 := HL_w8.out.size
        rw [HL_w8.out.block (d7) (by omega)]
        exact HO_a7.out.1
      obtain ⟨s7a, s7b, s7c, -, -, -⟩ := th_c hf
      clear hf
      go_wp2_with fail
      clear s2a s2b s2c s7a s7b s7c
      refine (ss_zero _).mono ?_
      rintro e9 w9 ⟨rfl, hb⟩
      have HL_w9 := hidS hb
      have HA_w9 := hidS (HA_w8.out.trans (hb.mono HA_w8.out.size))
      clear hb
      have hf : w9.heap[d3]? = some (.cells #[.float .f64 0, .slice none 0 0, .slice none 0 0] 35 (0, 0)) := by
        have z := HO_a3.out.2.1
        have z_w4 := HL_w4.out.size
        have z_w5 := HL_w5.out.size
        have z_w6 := HL_w6.out.size
        have z_w7 := HL_w7.out.size
        have z_a7 := HL_a7.out.size
        have z_w8 := HL_w8.out.size
        have z_w9 := HL_w9.out.size
        rw [HL_w9.out.block (d3) (by omega), HL_w8.out.block (d3) (by omega), HL_a7.out.block (d3) (by omega), HL_w7.out.block (d3) (by omega), HL_w6.out.block (d3) (by omega), HL_w5.out.block (d3) (by omega), HL_w4.out.block (d3) (by omega)]
        exact HO_a3.out.1
      obtain ⟨s3a, s3b, s3c, -, -, -⟩ := th_c hf
      clear hf
      have hf : w9.heap[d7]? = some (.cells #[.float .f64 0, .slice none 0 0, .slice none 0 0] 35 (0, 0)) := by
        have z := HO_a7.out.2.1
        have z_w8 := HL_w8.out.size
        have z_w9 := HL_w9.out.size
        rw [HL_w9.out.block (d7) (by omega), HL_w8.out.block (d7) (by omega)]
        exact HO_a7.out.1
      obtain ⟨s7a, s7b, s7c, -, -, -⟩ := th_c hf
      clear hf
      go_wp2_with fail
      clear s3a s3b s3c s7a s7b s7c
      refine (ss_zero _).mono ?_
      rintro e10 w10 ⟨rfl, hb⟩
      have HL_w10 := hidS hb
      have HA_w10 := hidS (HA_w9.out.trans (hb.mono HA_w9.out.size))
      clear hb
      have HE := hidS (HB_wr.out.trans (HA_w10.out.mono HB_wr.out.size))
      go_wp2_with fail
      go_roundw
      case rel => exact ⟨k + 1, by omega, by go_num, HE⟩
      case measure => simp [intOf]; omega
    · obtain rfl : k = 2 := by omega
      go_wp2_with fail
      refine (lives20 (HW.out.kept HB_wr.out)).mono ?_
      rintro e v ⟨rfl, hb⟩
      have HE := hidS (HB_wr.out.trans (hb.mono HB_wr.out.size))
      clear hb
      go_wp2_with fail
      go_ret
      exact ⟨rfl, HBS.out.trans (HE.out.mono HBS.out.size)⟩
end Go.Proofs.YtmpkcioeodlbcaaGreatDoor
