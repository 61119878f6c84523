/-
  Several texts in one: Sla Lwf.
-/
import Derived.Test.YtmpkcioeodlbcaaGreatDoorK41
import Derived.Test.YtmpkcioeodlbcaaGreatDoorK42
import Derived.Test.YtmpkcioeodlbcaaGreatDoorK31
import Derived.Deep.RegionHeldLaw
import Derived.Deep.RegionLaw
namespace Go.Proofs.YtmpkcioeodlbcaaGreatDoor
open Fl RowKit
/-- a number less each entry times its unknown -/
def redS (s : Cn) (E K : Nat → Cn) : Nat → Cn
  | 0 => s
  | k + 1 => subZ (redS s E K k) (mulZ (E k) (K k))
theorem redS_congr {s : Cn} {E E' K K' : Nat → Cn} {n : Nat} (h1 : ∀ k, k < n → E k = E' k) (h2 : ∀ k, k < n → K k = K' k) : redS s E K n = redS s E' K' n := by
  induction n with
  | zero => rfl
  | succ n ih => unfold redS; rw [ih (fun k hk => h1 k (by omega)) (fun k hk => h2 k (by omega)), h1 n (by omega), h2 n (by omega)]
def upC (f : Nat → Cn) (k : Nat) (v : Cn) (j : Nat) : Cn := if j = k then v else f j
theorem upC_self (f : Nat → Cn) (k : Nat) (v : Cn) : upC f k v k = v := if_pos rfl
theorem upC_ne (f : Nat → Cn) {k j : Nat} (v : Cn) (h : j ≠ k) : upC f k v j = f j := if_neg h
/-- one unknown of a matrix with nothing right of its diagonal, in the place of the right side -/
def stF (m : Nat → Nat → Cn) (L : Cn → Cn → Cn) (i : Nat) (f : Nat → Cn) : Nat → Cn := upC f i (L (redS (f i) (m i) f i) (m i i))
def fwS (m : Nat → Nat → Cn) (L : Cn → Cn → Cn) (f : Nat → Cn) : Nat → (Nat → Cn)
  | 0 => f
  | i + 1 => stF m L i (fwS m L f i)
/-- the same with nothing left of it -/
def stB (n : Nat) (m : Nat → Nat → Cn) (L : Cn → Cn → Cn) (i : Nat) (f : Nat → Cn) : Nat → Cn := upC f i (L (redS (f i) (fun k => m i (i + 1 + k)) (fun k => f (i + 1 + k)) (n - 1 - i)) (m i i))
def bwS (n : Nat) (m : Nat → Nat → Cn) (L : Cn → Cn → Cn) (f : Nat → Cn) : Nat → (Nat → Cn)
  | 0 => f
  | t + 1 => stB n m L (n - 1 - t) (bwS n m L f t)
/-- a list that is read and lies below block b -/
def Rcb (b : Nat) (w : World) (ao : Option Addr) (xs : List Cw) : Prop :=
  ∀ k, k < xs.length → ∃ B off, ao = some ⟨B, off, none⟩ ∧ B < b ∧ w.cell? ⟨B, off + k, none⟩ = some (cx (zat xs k))
theorem Rcb.rc {b : Nat} {w : World} {ao : Option Addr} {xs : List Cw} (h : Rcb b w ao xs) (hb : b ≤ w.heap.size) : Rc w ao xs := fun k hk => by
  obtain ⟨B, off, h1, h2, h3⟩ := h k hk
  exact ⟨B, off, h1, by omega, h3⟩
theorem Rc.rcb {w : World} {ao : Option Addr} {xs : List Cw} (h : Rc w ao xs) : Rcb w.heap.size w ao xs := h
theorem Rcb.later {b : Nat} {w w' : World} {ao : Option Addr} {xs : List Cw} (h : Rcb b w ao xs) (hb : Below b w w') : Rcb b w' ao xs := fun k hk => by
  obtain ⟨B, off, h1, h2, h3⟩ := h k hk
  exact ⟨B, off, h1, h2, (hb.cell (p := ⟨B, off + k, none⟩) h2).trans h3⟩
theorem Rcb.mono {b b' : Nat} {w : World} {ao : Option Addr} {xs : List Cw} (h : Rcb b w ao xs) (hb : b ≤ b') : Rcb b' w ao xs := fun k hk => by
  obtain ⟨B, off, h1, h2, h3⟩ := h k hk
  exact ⟨B, off, h1, by omega, h3⟩
/-- what a function of two numbers says -/
def SaysF (F : FuncId) (f : Cn → Cn → Cn) : Prop :=
  ∀ (p q : Cw) (P : Cn) (W : World), repz P p → okz q → Calls Tryz.prog F #[.complex .f64 p.1 p.2, .complex .f64 q.1 q.2] W fun e W' => ∃ (r : Cw) (m : Nat), e = .returned (.complex .f64 r.1 r.2) ∧ repz (f P (anz q)) r ∧ W' = W.drewN m
theorem says_div : SaysF 188 divZ := fun _ _ _ W hp hq =>
  (div_any W hp.1 hp.2 (repz_anz hq).1 (repz_anz hq).2).mono (by rintro e w' ⟨re, im, n, rfl, h1, h2, rfl⟩; exact ⟨(re, im), n, rfl, ⟨h1, h2⟩, rfl⟩)
def fstZ (s _d : Cn) : Cn := s
theorem says_und : SaysF 186 fstZ := by
  intro p q P W hp hq
  have HP := hid_o hp
  clear hp
  go_enter Tryz.func186, Tryz.ntmps186
  go_wp2
  go_ret
  exact ⟨p, 0, rfl, HP.out, by first | rfl | simp⟩
theorem ent_div : Ent 188 := by unfold Ent; intro args w; go_simp
theorem ent_und : Ent 186 := by unfold Ent; intro args w; go_simp
theorem mul_zz {W : World} {x y : Cw} {X Y : Cn} (hx : repz X x) (hy : repz Y y) : Calls Tryz.prog 215 #[.complex .f64 x.1 x.2, .complex .f64 y.1 y.2] W fun e w' => ∃ (r : Cw) (n : Nat), e = .returned (.complex .f64 r.1 r.2) ∧ repz (mulZ X Y) r ∧ w' = W.drewN n :=
  (mul_any W hx.1 hx.2 hy.1 hy.2).mono (by rintro e w' ⟨re, im, n, rfl, h1, h2, rfl⟩; exact ⟨(re, im), n, rfl, ⟨h1, h2⟩, rfl⟩)
theorem sub_zz {W : World} {x y : Cw} {X Y : Cn} (hx : repz X x) (hy : repz Y y) : Calls Tryz.prog 47 #[.complex .f64 x.1 x.2, .complex .f64 y.1 y.2] W fun e w' => ∃ (r : Cw) (n : Nat), e = .returned (.complex .f64 r.1 r.2) ∧ repz (subZ X Y) r ∧ w' = W.drewN n :=
  (sub_any W hx.1 hx.2 hy.1 hy.2).mono (by rintro e w' ⟨re, im, n, rfl, h1, h2, rfl⟩; exact ⟨(re, im), n, rfl, ⟨h1, h2⟩, rfl⟩)
set_option maxHeartbeats 1000000 in
theorem reduced_any (s : Cw) (S : Cn) (ao bo : Option Addr) (ca cb n nk : Nat) (E K : Nat → Cn) (es ks : List Cw) (w : World) (hs : repz S s) (hl : es.length = n) (hk : ks.length = nk) (hnk : n ≤ nk) (h4 : nk ≤ 4096) (he : Rc w ao es) (hkn : Rc w bo ks) (hE : repl E n es) (hK : repl K n ks) :
    Calls Tryz.prog 216 #[.complex .f64 s.1 s.2, .slice ao n ca, .slice bo nk cb] w fun e w' => ∃ (r : Cw) (m : Nat), e = .returned (.complex .f64 r.1 r.2) ∧ repz (redS S E K n) r ∧ w' = w.drewN m := by
  have HS := hid_o hs
  have HE := hid_o hE
  have HK := hid_o hK
  have HEs := hid_o he
  have HKs := hid_o hkn
  clear hs hE hK he hkn
  go_enter Tryz.func216, Tryz.ntmps216
  go_wp2
  go_loopw [0, 11] (fun sv iv wr => ∃ (k m : Nat) (r : Cw), k ≤ n ∧ iv = .int .i64 k ∧ sv = .complex .f64 r.1 r.2 ∧ repz (redS S E K k) r ∧ wr = w.drewN m) (fun _ iv _ => n - (intOf iv).toNat)
  case atStart => exact ⟨0, 0, s, Nat.zero_le _, rfl, rfl, HS.out, rfl⟩
  case round =>
    obtain ⟨k, m, r, hkn, rfl, rfl, hr, rfl⟩ := hrel
    have HR := hid_o hr
    clear hr
    by_cases hlt : k < n
    · obtain ⟨b1, o1, rfl, hb1, hc1⟩ := (HEs.out.drewN m) k (by omega)
      obtain ⟨b2, o2, rfl, hb2, hc2⟩ := (HKs.out.drewN m) k (by omega)
      have HX := hid_o (HE.out k hlt)
      have HY := hid_o (HK.out k hlt)
      obtain ⟨x, hxe⟩ : ∃ x, x = zat es k := ⟨_, rfl⟩
      obtain ⟨y, hye⟩ : ∃ y, y = zat ks k := ⟨_, rfl⟩
      rw [← hxe] at hc1 HX
      rw [← hye] at hc2 HY
      clear hxe hye HE HK HEs HKs
      unfold cx at hc1 hc2
      go_wp2_with (first
        | (go_at_call 215; (with_reducible refine (mul_zz HX.out HY.out).mono ?_); rintro e w' ⟨t, m2, rfl, ht, rfl⟩; have HT := hid_o ht; clear ht)
        | (go_at_call 47; (with_reducible refine (sub_zz HR.out HT.out).mono ?_); rintro e w' ⟨u, m3, rfl, hu, rfl⟩; have HU := hid_o hu; clear hu))
      go_roundw
      case measure => simp [intOf]; omega
      case rel => exact ⟨k + 1, m + m2 + m3, u, by omega, by go_num, rfl, HU.out, by first | rfl | simp only [World.drewN_drewN]⟩
    · have e : k = n := by omega
      subst e
      clear HE HK HEs HKs
      go_wp2
      go_ret
      exact ⟨r, m, rfl, HR.out, rfl⟩
set_option maxHeartbeats 1000000 in
theorem allfin_any (ao : Option Addr) (cap n : Nat) (xs : List Cw) (w : World) (hn : xs.length = n) (hsz : n ≤ 1000000000000000) (hc : Rc w ao xs) (hx : okl xs) :
    Calls Tryz.prog 184 #[.slice ao n cap] w fun e w' => e = .returned (.bool (finL xs n)) ∧ w' = w := by
  have NT : Hid (∀ k, k < n → finL xs k = true → finZ (zat xs k) = false → finL xs n = false) := fun k hk a c => by
    cases e : finL xs n
    · rfl
    · rw [finL_iff.1 e k hk] at c; cases c
  obtain ⟨r, hr⟩ : ∃ r, r = finL xs n := ⟨_, rfl⟩
  rw [← hr] at NT ⊢
  have HR := hid_o hr
  clear hr
  go_enter Tryz.func184, Tryz.ntmps184
  go_wp2
  go_loopw [7] (fun i wr => ∃ (k : Nat), k ≤ n ∧ i = .int .i64 k ∧ finL xs k = true ∧ wr = w) (fun i _ => n - (intOf i).toNat)
  case atStart => exact ⟨0, Nat.zero_le _, rfl, rfl, rfl⟩
  case round =>
    obtain ⟨k, hk, rfl, hf, hw⟩ := hrel
    by_cases hlt : k < n
    · obtain ⟨b, off, rfl, hb, hcx⟩ := hc k (by omega)
      rw [← hw] at hb hcx
      have HW : Hid (wr = w) := hw
      have F2 : finL xs (k + 1) = (finL xs k && finZ (zat xs k)) := rfl
      rw [hf, Bool.true_and] at F2
      have ho := hx k
      have F1 := hid_o (NT.out k hlt hf)
      obtain ⟨x, hxe⟩ : ∃ x, x = zat xs k := ⟨_, rfl⟩
      rw [← hxe] at hcx F1 F2 ho
      unfold cx at hcx
      have G2 : Hid (finL xs (k + 1) = finZ x) := F2
      clear hxe hc hf hw F2 hx
      cases f1 : finZ x
      · have e1 : r = false := F1.out f1
        subst e1
        go_wp2_with (go_at_call 59; (with_reducible refine (fin_walk ho).mono ?_); rintro e w' ⟨rfl, rfl⟩; rw [f1])
        go_ret
        exact ⟨rfl, HW.out⟩
      · go_wp2_with (go_at_call 59; (with_reducible refine (fin_walk ho).mono ?_); rintro e w' ⟨rfl, rfl⟩; rw [f1])
        exact ⟨⟨k + 1, by omega, by go_num, by rw [G2.out]; exact f1, HW.out⟩, by simp [intOf]; omega⟩
    · have e : k = n := by omega
      subst e
      have HW : Hid (wr = w) := hw
      have e1 : r = true := HR.out.trans hf
      subst e1
      clear hx hc hf hw
      go_wp2
      go_ret
      exact ⟨rfl, HW.out⟩

end Go.Proofs.YtmpkcioeodlbcaaGreatDoor
namespace Go.Proofs.YtmpkcioeodlbcaaGreatDoor
open Fl RowKit
theorem Tryz.infoSl : (Tryz.prog.info? 32).map (fun i => (i.zero, i.size, i.bytes)) = some (some (.slice none 0 0), 1, 24) := by kernel_rfl
theorem Tryz.infoCs : (Tryz.prog.info? 39).map (·.size) = some 1 := by kernel_rfl
theorem run_mkS (n : Nat) (hn : n ≤ 65536) (w : World) : (Instr.makeSlice 210 (.int .i64 (n : Int)) (.int .i64 (n : Int))).run Tryz.prog w = .ok (.slice (some ⟨w.heap.size, 0, none⟩) n n) (w.alloc (.cells (madeCells #[.slice none 0 0] n) 32)) := by
  obtain ⟨i0, hi, hz0, hz1, hz2⟩ := info_parts Tryz.infoSl
  have h := run_make (P := Tryz.prog) w 210 32 i0 (.slice none 0 0) Tryz.underlying210 hi hz0 .i64 .i64 n n (by omega) (Int.le_refl _) (by rw [hz2]; omega) (by omega)
  simp only [Int.toNat_natCast, hz1, Nat.mul_one] at h
  exact h
theorem run_mkI (n : Nat) (hn : n ≤ 65536) (w : World) : (Instr.makeSlice 160 (.int .i64 (n : Int)) (.int .i64 (n : Int))).run Tryz.prog w = .ok (.slice (some ⟨w.heap.size, 0, none⟩) n n) (w.alloc (.cells (madeCells #[.int .i64 0] n) 3)) := by
  obtain ⟨i0, hi, hz0, hz1, hz2⟩ := info_parts Tryz.infoI
  have h := run_make (P := Tryz.prog) w 160 3 i0 (.int .i64 0) Tryz.underlying160 hi hz0 .i64 .i64 n n (by omega) (Int.le_refl _) (by rw [hz2]; omega) (by omega)
  simp only [Int.toNat_natCast, hz1, Nat.mul_one] at h
  exact h
theorem made_rep (n : Nat) (v : Value) : (madeCells #[v] n) = ((List.range n).map (fun _ => v)).toArray := by
  apply Array.ext'
  apply List.ext_getElem?
  intro i
  simp only [madeCells, Array.toList_map, List.getElem?_map, Array.toList_range]
  by_cases hi : i < n
  · simp [hi, Nat.mod_one]
  · simp [hi]
theorem own_made {w : World} {b g n : Nat} {e : TypeId} {xs : List Value} (hn : xs.length = n) (hm : n ≤ maxLen) (hb : b ≤ g) (h : w.heap[g]? = some (.cells xs.toArray e (0, 0))) : w.ownsRow b e 1 (.slice (some ⟨g, 0, none⟩) n n) n xs := by
  refine ⟨by simp [hn], .inr ⟨g, n, _, rfl, hb, h, Nat.le_refl _, hm, by simp [hn], ?_⟩⟩
  rw [List.toList_toArray, Nat.mul_one]
  exact List.take_of_length_le (by omega)
/-- a Lower under way: i rows are made -/
structure Bg (w : World) (b p n gr go i : Nat) (bl : Nat → Nat) (M : Nat → Nat → Cw) : Prop where
  v : V3 p (.slice (some ⟨gr, 0, none⟩) n n) (.slice (some ⟨go, 0, none⟩) n n) (.int .i64 1) w
  rows : w.ownsRow b 32 1 (.slice (some ⟨gr, 0, none⟩) n n) n ((List.range n).map fun j => if j < i then .slice (some ⟨bl j, 0, none⟩) n n else .slice none 0 0)
  row : ∀ j, j < i → Rw w b (.slice (some ⟨bl j, 0, none⟩) n n) n (ro n (M j))
  ord : Ir w b (.slice (some ⟨go, 0, none⟩) n n) n (ri n (fun j => if j < i then j else 0))
  ge : b ≤ p
  inj : ∀ j k, j < i → k < i → bl j = bl k → j = k
  ap : ∀ j, j < i → bl j ≠ p ∧ bl j ≠ gr ∧ bl j ≠ go
  ap2 : gr ≠ p ∧ go ≠ p ∧ gr ≠ go
theorem Bg.done {w : World} {b p n gr go : Nat} {bl : Nat → Nat} {M : Nat → Nat → Cw} (h : Bg w b p n gr go n bl M) : Lo w b p n gr go bl M (fun i => i) 1 := by
  have e1 : ((List.range n).map fun j => if j < n then (Value.slice (some ⟨bl j, 0, none⟩) n n) else .slice none 0 0) = (List.range n).map fun j => .slice (some ⟨bl j, 0, none⟩) n n :=
    List.map_congr_left (fun j hj => if_pos (List.mem_range.1 hj))
  have e2 : ri n (fun j => if j < n then j else 0) = ri n (fun j => j) := ri_congr (fun j hj => if_pos hj)
  exact ⟨h.v, by rw [← e1]; exact h.rows, h.row, by rw [← e2]; exact h.ord, h.ge, h.inj, h.ap, h.ap2⟩
theorem al_new (w : World) (o : Obj) : (w.alloc o).heap[w.heap.size]? = some o := heap_alloc_new w o
theorem al_old {w : World} {g : Nat} (o : Obj) (h : g < w.heap.size) : (w.alloc o).heap[g]? = w.heap[g]? := heap_alloc_old w o h
theorem bg0 {W w' : World} {b n gr go : Nat} {bl : Nat → Nat} {M : Nat → Nat → Cw} (hb : b ≤ gr) (hb2 : b ≤ go) (hne : gr ≠ go) (h1 : gr < W.heap.size) (h2 : go < W.heap.size) (hm : n ≤ 64)
    (hr : W.heap[gr]? = some (.cells (madeCells #[.slice none 0 0] n) 32 (0, 0))) (ho : W.heap[go]? = some (.cells (madeCells #[.int .i64 0] n) 3 (0, 0)))
    (hw : w' = W.alloc (.cells #[.slice (some ⟨gr, 0, none⟩) n n, .slice (some ⟨go, 0, none⟩) n n, .int .i64 1] 212)) : Bg w' b W.heap.size n gr go 0 bl M := by
  subst hw
  have hml : n ≤ maxLen := by unfold maxLen; omega
  refine ⟨v3_new W _ _ _ _, ?_, fun j hj => absurd hj (by omega), ⟨ri_len _ _, ?_⟩, by omega, fun j k hj => absurd hj (by omega), fun j hj => absurd hj (by omega), by omega, by omega, hne⟩
  · refine own_made (by simp) hml hb ?_
    rw [al_old _ h1, hr, made_rep]
    simp
  · refine own_made (by simp [ri_len]) hml hb2 ?_
    rw [al_old _ h2, ho, made_rep]
    simp [ri, ci]
theorem Bg.step {wr W w' : World} {b p n gr go i : Nat} {bl : Nat → Nat} {M : Nat → Nat → Cw} (h : Bg wr b p n gr go i bl M) (hi : i < n) (hb : b ≤ wr.heap.size) (hm : n ≤ 64)
    (hW : W = (((wr.setCell ⟨gr, i, none⟩ (.slice (some ⟨wr.heap.size, 0, none⟩) n n)).setCell ⟨go, i, none⟩ (.int .i64 i)).alloc (.cells (madeCells #[.complex .f64 0 0] n) 39)).drew)
    (hB : Below wr.heap.size W w') (hg : w'.heap[wr.heap.size]? = some (.cells ((ro n (M i)).map cx).toArray 39 (0, 0))) :
    Bg w' b p n gr go (i + 1) (fun j => if j = i then wr.heap.size else bl j) M := by
  subst hW
  have hp := h.v.lt
  have hgr := (h.rows.lt gr rfl).2
  have hgo := (h.ord.own.lt go rfl).2
  have hoth : ∀ g, g < wr.heap.size → g ≠ gr → g ≠ go → w'.heap[g]? = wr.heap[g]? := by
    intro g h1 h2 h3
    rw [hB.block g h1]
    show (((wr.setCell ⟨gr, i, none⟩ (.slice (some ⟨wr.heap.size, 0, none⟩) n n)).setCell ⟨go, i, none⟩ (.int .i64 i)).alloc (.cells (madeCells #[.complex .f64 0 0] n) 39)).heap[g]? = _
    rw [al_old _ (by simpa using h1), Below.heap_setCell _ _ _ _ h3, Below.heap_setCell _ _ _ _ h2]
  have hbl : ∀ j, j < i → bl j < wr.heap.size := fun j hj => ((h.row j hj).own.lt _ rfl).2
  have hpb := hoth p hp h.ap2.1.symm h.ap2.2.1.symm
  have hv : ∀ j, w'.cell? ⟨p, j, none⟩ = wr.cell? ⟨p, j, none⟩ := fun j => World.cell?_of_block hpb
  have hf : ∀ j, w'.frozen? ⟨p, j, none⟩ = wr.frozen? ⟨p, j, none⟩ := fun j => World.frozen?_of_block hpb
  have hsz : wr.heap.size ≤ w'.heap.size := by
    have := hB.size
    simp at this
    omega
  refine ⟨⟨by omega, (hv 0).trans h.v.c0, (hv 1).trans h.v.c1, (hv 2).trans h.v.c2, (hf 0).trans h.v.f0, (hf 1).trans h.v.f1, (hf 2).trans h.v.f2⟩, ?_, ?_, ?_, h.ge, ?_, ?_, h.ap2⟩
  · have h1 := (h.rows.stored i (.slice (some ⟨wr.heap.size, 0, none⟩) n n)).1
    rw [range_set] at h1
    have e : ((List.range n).map fun j => if j = i then (Value.slice (some ⟨wr.heap.size, 0, none⟩) n n) else if j < i then .slice (some ⟨bl j, 0, none⟩) n n else .slice none 0 0) = (List.range n).map fun j => if j < i + 1 then .slice (some ⟨if j = i then wr.heap.size else bl j, 0, none⟩) n n else .slice none 0 0 := by
      refine List.map_congr_left (fun j _ => ?_)
      by_cases h1 : j = i
      · subst h1; rw [if_pos rfl, if_pos (by omega), if_pos rfl]
      · rw [if_neg h1, if_neg h1]
        by_cases h2 : j < i
        · rw [if_pos h2, if_pos (by omega)]
        · rw [if_neg h2, if_neg (by omega)]
    rw [e] at h1
    refine own_at h1 (fun g hg => ?_)
    cases hg
    rw [hB.block gr hgr]
    show (((wr.setCell ⟨gr, i, none⟩ (.slice (some ⟨wr.heap.size, 0, none⟩) n n)).setCell ⟨go, i, none⟩ (.int .i64 i)).alloc (.cells (madeCells #[.complex .f64 0 0] n) 39)).heap[gr]? = _
    rw [al_old _ (by simpa using hgr), Below.heap_setCell _ _ _ _ h.ap2.2.2]
  · intro j hj
    by_cases e : j = i
    · subst e
      simp only [if_true]
      exact ⟨ro_len _ _, own_made (by simp [ro_len]) (by unfold maxLen; omega) hb hg⟩
    · have hji : j < i := by omega
      simp only [e, if_false]
      exact ⟨(h.row j hji).len, own_at (h.row j hji).own (fun g hg => by cases hg; exact hoth _ (hbl j hji) (h.ap j hji).2.1 (h.ap j hji).2.2)⟩
  · have o2 : Ir (wr.setCell ⟨gr, i, none⟩ (.slice (some ⟨wr.heap.size, 0, none⟩) n n)) b (.slice (some ⟨go, 0, none⟩) n n) n (ri n (fun j => if j < i then j else 0)) :=
      ⟨h.ord.len, own_at h.ord.own (fun g hg => by cases hg; exact Below.heap_setCell _ _ _ _ h.ap2.2.2.symm)⟩
    have o3 := o2.set i (i : Int)
    rw [ri_set] at o3
    have e : ri n (fun j => if j = i then i else if j < i then j else 0) = ri n (fun j => if j < i + 1 then j else 0) := by
      refine ri_congr (fun j _ => ?_)
      by_cases h1 : j = i
      · subst h1; rw [if_pos rfl, if_pos (by omega)]
      · rw [if_neg h1]
        by_cases h2 : j < i
        · rw [if_pos h2, if_pos (by omega)]
        · rw [if_neg h2, if_neg (by omega)]
    rw [e] at o3
    refine ⟨o3.len, own_at o3.own (fun g hg => ?_)⟩
    cases hg
    rw [hB.block go hgo]
    show (((wr.setCell ⟨gr, i, none⟩ (.slice (some ⟨wr.heap.size, 0, none⟩) n n)).setCell ⟨go, i, none⟩ (.int .i64 i)).alloc (.cells (madeCells #[.complex .f64 0 0] n) 39)).heap[go]? = _
    rw [al_old _ (by simpa using hgo)]
  · intro j k hj hk e
    by_cases a : j = i
    · by_cases c : k = i
      · omega
      · rw [if_pos a, if_neg c] at e; have := hbl k (by omega); omega
    · by_cases c : k = i
      · rw [if_neg a, if_pos c] at e; have := hbl j (by omega); omega
      · rw [if_neg a, if_neg c] at e; exact h.inj j k (by omega) (by omega) e
  · intro j hj
    by_cases a : j = i
    · simp only [a, if_true]; omega
    · simp only [a, if_false]; exact h.ap j (by omega)

theorem Bg.drewN {w : World} {b p n gr go i : Nat} {bl : Nat → Nat} {M : Nat → Nat → Cw} (h : Bg w b p n gr go i bl M) (m : Nat) : Bg (w.drewN m) b p n gr go i bl M :=
  ⟨h.v.drewN m, h.rows, fun j hj => (h.row j hj).drewN m, h.ord.drewN m, h.ge, h.inj, h.ap, h.ap2⟩
theorem begun0 {w : World} {n N c : Nat} {A : Option Addr} {M : Nat → Nat → Cw} (O1 O2 : Obj) (gr go : Nat) (hn : n ≤ 64)
    (h : gr = w.heap.size + 1 ∧ go = w.heap.size + 1 + 1 ∧ O1 = .cells (madeCells #[.slice none 0 0] n) 32 ∧ O2 = .cells (madeCells #[.int .i64 0] n) 3 ∨ go = w.heap.size + 1 ∧ gr = w.heap.size + 1 + 1 ∧ O2 = .cells (madeCells #[.slice none 0 0] n) 32 ∧ O1 = .cells (madeCells #[.int .i64 0] n) 3) :
    ∃ p gr' go', Value.pointer (some ⟨w.heap.size + 1 + 1 + 1, 0, none⟩) = Value.pointer (some ⟨p, 0, none⟩) ∧ Bg ((((w.alloc (.cells #[.int .i64 n, .int .i64 n, .slice A N c] 120)).alloc O1).alloc O2).alloc (.cells #[.slice (some ⟨gr, 0, none⟩) n n, .slice (some ⟨go, 0, none⟩) n n, .int .i64 1] 212)).drew w.heap.size p n gr' go' 0 (fun _ => 0) M ∧
      V3 w.heap.size (.int .i64 n) (.int .i64 n) (.slice A N c) ((((w.alloc (.cells #[.int .i64 n, .int .i64 n, .slice A N c] 120)).alloc O1).alloc O2).alloc (.cells #[.slice (some ⟨gr, 0, none⟩) n n, .slice (some ⟨go, 0, none⟩) n n, .int .i64 1] 212)).drew ∧
      Below w.heap.size w ((((w.alloc (.cells #[.int .i64 n, .int .i64 n, .slice A N c] 120)).alloc O1).alloc O2).alloc (.cells #[.slice (some ⟨gr, 0, none⟩) n n, .slice (some ⟨go, 0, none⟩) n n, .int .i64 1] 212)).drew ∧ gr' ≠ w.heap.size ∧ go' ≠ w.heap.size := by
  obtain ⟨X, hX⟩ : ∃ X, X = w.alloc (.cells #[.int .i64 n, .int .i64 n, .slice A N c] 120) := ⟨_, rfl⟩
  have hXs : X.heap.size = w.heap.size + 1 := by rw [hX]; simp
  have hB : Below w.heap.size w X := by rw [hX]; exact bal _ _
  have V0 : V3 w.heap.size (.int .i64 n) (.int .i64 n) (.slice A N c) X := by rw [hX]; exact v3_new w _ _ _ _
  rw [← hX]
  have hs1 : (X.alloc O1).heap.size = w.heap.size + 1 + 1 := by simp [hXs]
  have hs2 : ((X.alloc O1).alloc O2).heap.size = w.heap.size + 1 + 1 + 1 := by simp [hXs]
  have e1 : ((X.alloc O1).alloc O2).heap[w.heap.size + 1]? = some O1 := by
    rw [al_old _ (by rw [hs1]; omega)]
    have := al_new X O1
    rw [hXs] at this
    exact this
  have e2 : ((X.alloc O1).alloc O2).heap[w.heap.size + 1 + 1]? = some O2 := by
    have := al_new (X.alloc O1) O2
    rw [hs1] at this
    exact this
  refine ⟨w.heap.size + 1 + 1 + 1, gr, go, rfl, ?_, ((V0.below (bal _ _)).below (bal _ _)).below (bal _ _) |>.drewN 1, below_drewN (((hB.alloc (by omega) _).alloc (by rw [hs1]; omega) _).alloc (by rw [hs2]; omega) _) 1, ?_⟩
  · refine Bg.drewN ?_ 1
    have := fun (a1 : w.heap.size ≤ gr) (a2 : w.heap.size ≤ go) (a3 : gr ≠ go) (a4 : gr < ((X.alloc O1).alloc O2).heap.size) (a5 : go < ((X.alloc O1).alloc O2).heap.size) hr ho => bg0 (bl := fun _ => 0) (M := M) a1 a2 a3 a4 a5 hn hr ho rfl
    rw [hs2] at this
    rcases h with ⟨r1, r2, r3, r4⟩ | ⟨r1, r2, r3, r4⟩
    · subst r1 r2 r3 r4
      exact this (by omega) (by omega) (by omega) (by omega) (by omega) e1 e2
    · subst r1 r2 r3 r4
      exact this (by omega) (by omega) (by omega) (by omega) (by omega) e2 e1
  · omega
theorem wrap_mul1 {i n : Nat} (hi : i ≤ 64) (hn : n ≤ 64) : wrap64 (((i : Int) + 1) * (n : Int)) = ((i * n + n : Nat) : Int) := by
  have := wrap_mul (i := i + 1) (C := n) (by omega) (by omega)
  rw [Nat.succ_mul, Int.natCast_add, Int.natCast_one] at this
  exact this
theorem rc_src {w : World} {a off k n : Nat} {xs : List Cw} {M : Nat → Nat → Cw} {i : Nat} (hc : Rc w (some ⟨a, off, none⟩) xs) (hk : k = i * n) (hx : k + n ≤ xs.length) (hM : ∀ j, j < n → M i j = zat xs (k + j)) :
    ∀ j v, ((ro n (M i)).map cx)[j]? = some v → w.cell? ((⟨a, off + k, none⟩ : Addr).add j) = some v := by
  intro j v hj
  rw [List.getElem?_map] at hj
  by_cases hl : j < n
  · rw [zat_lt (by rw [ro_len]; exact hl), ro_at _ hl, hM j hl] at hj
    cases hj
    obtain ⟨b', off', h1, _, h3⟩ := hc (k + j) (by omega)
    cases h1
    unfold Addr.add
    split
    · rename_i e0
      rw [e0, Nat.add_zero] at h3
      rw [e0]; exact h3
    · rw [← Nat.add_assoc] at h3; exact h3
  · rw [List.getElem?_eq_none (by rw [ro_len]; omega)] at hj; cases hj
theorem one_cx {zs : List Cw} : ∀ v ∈ zs.map cx, v.oneCell' = true := by
  intro v hv
  obtain ⟨z, _, rfl⟩ := List.mem_map.1 hv
  rfl
set_option maxHeartbeats 4000000 in
theorem begun_any (n c : Nat) (A : Option Addr) (xs : List Cw) (M : Nat → Nat → Cw) (w : World) (hn : n ≤ 64) (hl : xs.length = n * n) (hcap : n * n ≤ c) (hc : Rc w A xs) (hM : ∀ i j, i < n → j < n → M i j = zat xs (i * n + j)) :
    Calls Tryz.prog 138 #[.agg #[.int .i64 n, .int .i64 n, .slice A (n * n) c]] w fun e w' => ∃ p gr go bl, e = .returned (.pointer (some ⟨p, 0, none⟩)) ∧ Lo w' w.heap.size p n gr go bl M (fun i => i) 1 ∧ Below w.heap.size w w' := by
  have h4 := le_4096 hn hn
  obtain ⟨N, hN⟩ : ∃ N, N = n * n := ⟨_, rfl⟩
  rw [← hN] at hl hcap h4 ⊢
  have HN := hid_o hN
  have HM := hid_o hM
  have HC := hid_o hc
  clear hN hM hc
  have V0 : V3 w.heap.size (.int .i64 n) (.int .i64 n) (.slice A N c) (w.alloc (.cells #[.int .i64 n, .int .i64 n, .slice A N c] 120)) := v3_new w _ _ _ _
  have B0 : Below w.heap.size w (w.alloc (.cells #[.int .i64 n, .int .i64 n, .slice A N c] 120)) := bal _ _
  have m1 := run_mkS n (by omega)
  have m2 := run_mkI n (by omega)
  go_enter Tryz.func138, Tryz.ntmps138
  go_wp2
  go_cut [4] (fun pv wc => ∃ p gr go, pv = .pointer (some ⟨p, 0, none⟩) ∧ Bg wc w.heap.size p n gr go 0 (fun _ => 0) M ∧ V3 w.heap.size (.int .i64 n) (.int .i64 n) (.slice A N c) wc ∧ Below w.heap.size w wc ∧ gr ≠ w.heap.size ∧ go ≠ w.heap.size)
  case first =>
    go_region
    all_goals
      go_wp2_with fail
      go_meet
      case rel =>
        first
        | exact begun0 _ _ _ _ hn (.inl ⟨rfl, rfl, rfl, rfl⟩)
        | exact begun0 _ _ _ _ hn (.inr ⟨rfl, rfl, rfl, rfl⟩)
  case rest =>
    clear V0 B0 m1 m2
    obtain ⟨p, gr, go, rfl, hBg, hV, hbel, hgr, hgo⟩ := hcut
    have m3 := run_mkC n (by omega)
    go_wp2
    go_loopw [15] (fun iv wr => ∃ (i : Nat) (bl : Nat → Nat), i ≤ n ∧ iv = .int .i64 i ∧ Bg wr w.heap.size p n gr go i bl M ∧ V3 w.heap.size (.int .i64 n) (.int .i64 n) (.slice A N c) wr ∧ Below w.heap.size w wr) (fun iv _ => n - (intOf iv).toNat)
    case atStart => exact ⟨0, _, Nat.zero_le _, rfl, hBg, hV, hbel⟩
    case round =>
      clear hBg hV hbel
      obtain ⟨i, bl, hin, rfl, hBg, hV, hbel⟩ := hrel
      by_cases hlt : i < n
      · have v0 := hBg.v.c0
        have v1 := hBg.v.c1
        have hpl := hBg.v.lt
        have gl1 := (hBg.rows.lt gr rfl).2
        have gl2 := (hBg.ord.own.lt go rfl).2
        have c1 : wr.cell? ⟨gr, i, none⟩ = some (.slice none 0 0) := by
          rw [hBg.rows.cellAt i (by omega)]
          simp [hlt]
        have c2 : wr.cell? ⟨go, i, none⟩ = some (.int .i64 0) := by
          obtain ⟨b', o', e1, _, e3⟩ := hBg.ord.qi i (by rw [ri_len]; exact hlt)
          cases e1; rw [Nat.zero_add, ri_at _ hlt, if_neg (by omega)] at e3; exact e3
        have f1 := hBg.rows.frozenAt i
        have f2 := hBg.ord.own.frozenAt i
        have hgo2 : go ≠ gr := hBg.ap2.2.2.symm
        have HBG := hid_o hBg
        have HV := hid_o hV
        have HB := hid_o hbel
        clear hBg hV hbel
        go_wp2
        go_cut [] (fun wc => wc = (((wr.setCell ⟨gr, i, none⟩ (.slice (some ⟨wr.heap.size, 0, none⟩) n n)).setCell ⟨go, i, none⟩ (.int .i64 i)).alloc (.cells (madeCells #[.complex .f64 0 0] n) 39)).drew)
        case first =>
          go_region
          all_goals
            go_wp2_with fail
            go_meet
            case rel => rfl
        case rest =>
          have hcut2 := hid_o hcut
          have hgl : gr ≠ go := Ne.symm hgo2
          have hpb : ∀ g, g < wr.heap.size → g ≠ gr → g ≠ go → wc.heap[g]? = wr.heap[g]? := by
            intro g h1 h2 h3
            rw [hcut]
            show (((wr.setCell ⟨gr, i, none⟩ (.slice (some ⟨wr.heap.size, 0, none⟩) n n)).setCell ⟨go, i, none⟩ (.int .i64 i)).alloc (.cells (madeCells #[.complex .f64 0 0] n) 39)).heap[g]? = _
            rw [al_old _ (by simpa using h1), Below.heap_setCell _ _ _ _ h3, Below.heap_setCell _ _ _ _ h2]
          have hsz : wc.heap.size = wr.heap.size + 1 := by rw [hcut]; simp
          have e0 : wc.cell? ⟨p, 0, none⟩ = some (.slice (some ⟨gr, 0, none⟩) n n) := (World.cell?_of_block (hpb p hpl HBG.out.ap2.1.symm HBG.out.ap2.2.1.symm)).trans v0
          have hb0 := HV.out.lt
          have e1 : wc.cell? ⟨w.heap.size, 2, none⟩ = some (.slice A N c) := (World.cell?_of_block (hpb _ hb0 (Ne.symm hgr) (Ne.symm hgo))).trans HV.out.c2
          have e2 : wc.cell? ⟨gr, i, none⟩ = some (.slice (some ⟨wr.heap.size, 0, none⟩) n n) := by
            rw [hcut]
            show (((wr.setCell ⟨gr, i, none⟩ (.slice (some ⟨wr.heap.size, 0, none⟩) n n)).setCell ⟨go, i, none⟩ (.int .i64 i)).alloc (.cells (madeCells #[.complex .f64 0 0] n) 39)).cell? ⟨gr, i, none⟩ = _
            rw [World.cell?_of_block (al_old _ (by simpa using gl1)), other_cell _ (by intro e; cases e; exact hgl rfl)]
            exact World.cell?_setCell_same _ _ _ c1
          have hcur : wc.heap[wr.heap.size]? = some (.cells ((ro n (fun _ => (0, 0))).map cx).toArray 39 (0, 0)) := by
            rw [hcut]
            show (((wr.setCell ⟨gr, i, none⟩ (.slice (some ⟨wr.heap.size, 0, none⟩) n n)).setCell ⟨go, i, none⟩ (.int .i64 i)).alloc (.cells (madeCells #[.complex .f64 0 0] n) 39)).heap[wr.heap.size]? = _
            have := al_new ((wr.setCell ⟨gr, i, none⟩ (.slice (some ⟨wr.heap.size, 0, none⟩) n n)).setCell ⟨go, i, none⟩ (.int .i64 i)) (.cells (madeCells #[.complex .f64 0 0] n) 39)
            rw [show ((wr.setCell ⟨gr, i, none⟩ (.slice (some ⟨wr.heap.size, 0, none⟩) n n)).setCell ⟨go, i, none⟩ (.int .i64 i)).heap.size = wr.heap.size by simp] at this
            rw [this, made_rep]
            simp [ro, cx]
          have hbw : Below w.heap.size w wc := by
            rw [hcut]
            exact below_drewN ((((HB.out).setCell (p := ⟨gr, i, none⟩) ((HBG.out.rows.lt gr rfl).1) _).setCell (p := ⟨go, i, none⟩) ((HBG.out.ord.own.lt go rfl).1) _).alloc (by simpa using HB.out.size) _) 1
          have HVC : Hid (V3 w.heap.size (.int .i64 n) (.int .i64 n) (.slice A N c) wc) := by
            rw [hcut]
            exact (((HV.out.other (q := ⟨gr, i, none⟩) hgr _).other (q := ⟨go, i, none⟩) hgo _).below (bal _ _)).drewN 1
          have hRc := HC.out.below hbw
          have h1 : (i + 1) * n ≤ n * n := Nat.mul_le_mul_right _ (by omega)
          rw [Nat.succ_mul, ← HN.out] at h1
          have HMi := hid_o (fun j hj => HM.out i j hlt hj)
          have M1 := hid_o (wrap_mul (i := i) (C := n) (by omega) (by omega))
          have M2 := hid_o (wrap_mul1 (i := i) (n := n) (by omega) (by omega))
          obtain ⟨k, hke⟩ : ∃ k, k = i * n := ⟨_, rfl⟩
          rw [← hke] at M1 M2 h1 HMi
          have HK := hid_o hke
          have hkx : k < xs.length := by omega
          have hkn : k + n ≤ xs.length := by omega
          have hA : ∃ a off, A = some ⟨a, off, none⟩ := by
            obtain ⟨b', off', h1', _, _⟩ := hRc k hkx
            exact ⟨b', off', h1'⟩
          obtain ⟨a, off, rfl⟩ := hA
          have HS := hid_o (rc_src hRc hke hkn HMi.out)
          have HBW := hid_o hbw
          have HWS : Hid (wr.heap.size < wc.heap.size) := by show wr.heap.size < wc.heap.size; omega
          have hge := HB.out.size
          have hkc : k + n ≤ c := by omega
          have hkN : k < c := by omega
          clear hcut v0 v1 c1 c2 f1 f2 hpb hke hRc hbw HM HMi hkx hkn
          have hw0 : IntKind.i64.wrap ((i : Int) + 1) = (i : Int) + 1 := by rw [IntKind.wrap_i64]; omega
          have hck : ¬ c = k := by omega
          have hw1 : IntKind.i64.wrap ((i : Int) * (n : Int)) = (k : Int) := by
            have e : (i : Int) * (n : Int) = (k : Int) := by rw [HK.out]; exact (Int.natCast_mul i n).symm
            rw [e, IntKind.wrap_i64]; omega
          have hw2 : IntKind.i64.wrap (((i : Int) + 1) * (n : Int)) = ((k + n : Nat) : Int) := by
            have e : ((i : Int) + 1) * (n : Int) = ((k + n : Nat) : Int) := by rw [Int.natCast_add, HK.out, Int.natCast_mul, Int.add_mul, Int.one_mul]
            rw [e, IntKind.wrap_i64]; omega
          obtain ⟨en, hen⟩ : ∃ en, en = k + n := ⟨_, rfl⟩
          rw [← hen] at hw2 hkc h1
          have hsub : en - k = n := by omega
          have hke2 : k ≤ en := by omega
          clear M1 M2 hen
          go_wp2
          go_region_law
            (refine step_copy_splice rfl _ _ 32 32 rfl 39 Tryz.underlying32 Tryz.infoCs _ _ _ _ _ _ rfl rfl wr.heap.size 0 ((ro n (fun _ => (0, 0))).map cx) 39 hcur ((ro n (M i)).map cx) (by simp [ro_len]) (fun _ => ⟨rfl, _, rfl, HS.out⟩) (by simp [ro_len]) one_cx wr.heap.size wc (below_drewN (Below.refl _ _) _) (Nat.le_refl _) ?_; intro w2 hb2 B2)
          all_goals
            rw [splice_all (by simp [ro_len])] at hb2
            go_wp2_with fail
            go_roundw
            case measure => simp [intOf]; omega
            case rel => exact ⟨i + 1, _, by omega, by go_num, HBG.out.step hlt hge hn hcut2.out B2 hb2.out, HVC.out.later B2 hb0, HBW.out.trans (B2.mono hge)⟩
      · have e : i = n := by omega
        subst e
        clear HM HC m3
        go_wp2
        go_ret
        exact ⟨p, gr, go, bl, rfl, hBg.done, hbel⟩

end Go.Proofs.YtmpkcioeodlbcaaGreatDoor
