/-
  GraphVolts: the walk.
-/
import Derived.Test.YtcakfclfggnmbaaBgb
namespace Go.Proofs.Ytcakfclfggnmbaa
open Go.Maps Go.RowKit
set_option linter.unusedVariables false
set_option maxRecDepth 100000

theorem netOf_long (w : World) (A : Option Addr) (c n : Nat) (l : List Elm) (hl : l.length = n) (hn : 256 < n) (hb : n ≤ 140737488351232) : Calls Try.prog 22 #[.slice A n c] w (OfP w l) := by
  have HN : Hid (l.length = n) := hl
  clear hl
  have hbi : (256 : Int) < (n : Int) := by omega
  go_enter Try.func22, Try.ntmps22
  go_wp2_with fail
  (try simp only [Exit.inBlock, Exit.then])
  refine bodyPost_ret (by simp [results, Try.results22, go_sem]; try rfl) rfl ?_
  have hA3 : ofA l = ((3, -1), Ns.nil) := if_pos (by have := HN.out; omega)
  exact ⟨(Below.refl _ w).alloc (Nat.le_refl _) _, .inr ⟨by rw [hA3]; simp, by rw [hA3]⟩⟩
theorem netOf_row (w : World) (base n : Nat) (v : Value) (l : List Elm) (hl : l.length = n) (hb : n ≤ 140737488351232) (hr : w.ownsRow base 56 8 v n (elCs l)) (hok : ∀ x ∈ l, x.ok) : Calls Try.prog 22 #[v] w (OfP w l) := by
  by_cases h : n ≤ 1000
  · subst hl
    exact netOf_any w v l (rdE_row hr h) hok
  · obtain ⟨A, c, rfl⟩ := row_slice hr
    exact netOf_long w A c n l hl (by omega) hb
theorem volL_take {es : List Elm} {k : Nat} {x : Elm} (hx : es[k]? = some x) : volL (es.take (k + 1)) = if isB x = true then volL (es.take k) ++ [volE x] else volL (es.take k) := by
  unfold volL
  rw [List.take_add_one, hx]
  show ((es.take k ++ [x]).filter isB).map volE = _
  rw [List.filter_append, List.map_append]
  split
  · rename_i h; rw [List.filter_cons_of_pos h]; rfl
  · rename_i h; rw [List.filter_cons_of_neg h]; simp
theorem volL_len (es : List Elm) : (volL es).length ≤ es.length := by
  unfold volL; rw [List.length_map]; exact List.length_filter_le _ _
theorem el_1 (n a b : ByteArray) (w : World) : Calls Try.prog 30 #[.int .u8 1, .string n, .string a, .string b] w fun e w' => e = .returned (.agg #[.int .u8 1, .string n, .string a, .string b, .string ⟨#[]⟩, .string ⟨#[]⟩, .float .f64 4607182418800017408, .int .i64 0]) ∧ Below w.heap.size w w' := exelem_any 1 n a b w
theorem el_2 (n a b : ByteArray) (w : World) : Calls Try.prog 30 #[.int .u8 2, .string n, .string a, .string b] w fun e w' => e = .returned (.agg #[.int .u8 2, .string n, .string a, .string b, .string ⟨#[]⟩, .string ⟨#[]⟩, .float .f64 4607182418800017408, .int .i64 0]) ∧ Below w.heap.size w w' := exelem_any 2 n a b w
theorem el_1e (n a b : ByteArray) (w : World) : Calls Try.prog 30 #[.int .u8 1, .string n, .string a, .string b] w fun e w' => e = .returned (.agg #[.int .u8 1, .string n, .string a, .string b, .string ⟨#[]⟩, .string ⟨#[]⟩, .float .f64 4607182418800017408, .int .i64 0]) ∧ w' = w.alloc (.cells #[.int .u8 1, .string n, .string a, .string b, .string ⟨#[]⟩, .string ⟨#[]⟩, .float .f64 4607182418800017408, .int .i64 0] 56) := by
  go_enter Try.func30, Try.ntmps30
  go_wp2_with fail
  refine bodyPost_ret (by simp [results, Try.results30, go_sem]; try rfl) rfl ?_
  exact ⟨rfl, rfl⟩
theorem el_2e (n a b : ByteArray) (w : World) : Calls Try.prog 30 #[.int .u8 2, .string n, .string a, .string b] w fun e w' => e = .returned (.agg #[.int .u8 2, .string n, .string a, .string b, .string ⟨#[]⟩, .string ⟨#[]⟩, .float .f64 4607182418800017408, .int .i64 0]) ∧ w' = w.alloc (.cells #[.int .u8 2, .string n, .string a, .string b, .string ⟨#[]⟩, .string ⟨#[]⟩, .float .f64 4607182418800017408, .int .i64 0] 56) := by
  go_enter Try.func30, Try.ntmps30
  go_wp2_with fail
  refine bodyPost_ret (by simp [results, Try.results30, go_sem]; try rfl) rfl ?_
  exact ⟨rfl, rfl⟩
theorem zero8 {w w1 : World} (hb : Below ((w.alloc (.cells #[.int .u8 0, .string ⟨#[]⟩, .string ⟨#[]⟩, .string ⟨#[]⟩, .string ⟨#[]⟩, .string ⟨#[]⟩, .float .f64 0, .int .i64 0] 56)).drew).heap.size ((w.alloc (.cells #[.int .u8 0, .string ⟨#[]⟩, .string ⟨#[]⟩, .string ⟨#[]⟩, .string ⟨#[]⟩, .string ⟨#[]⟩, .float .f64 0, .int .i64 0] 56)).drew) w1) : w1.heap[w.heap.size]? = some (.cells #[.int .u8 0, .string ⟨#[]⟩, .string ⟨#[]⟩, .string ⟨#[]⟩, .string ⟨#[]⟩, .string ⟨#[]⟩, .float .f64 0, .int .i64 0] 56 (0, 0)) := by
  rw [hb.block w.heap.size (by show _ < (w.alloc _).heap.size; simp)]; exact heap_alloc_new w _
theorem froz8 {w : World} {p : Nat} {cs : Array Value} {t : TypeId} (h : w.heap[p]? = some (.cells cs t (0, 0))) : w.frozen? ⟨p, 0, none⟩ = false ∧ w.frozen? ⟨p, 1, none⟩ = false ∧ w.frozen? ⟨p, 2, none⟩ = false ∧ w.frozen? ⟨p, 3, none⟩ = false ∧ w.frozen? ⟨p, 4, none⟩ = false ∧ w.frozen? ⟨p, 5, none⟩ = false ∧ w.frozen? ⟨p, 6, none⟩ = false ∧ w.frozen? ⟨p, 7, none⟩ = false :=
  ⟨frozen_of_row w _ _ _ _ h, frozen_of_row w _ _ _ _ h, frozen_of_row w _ _ _ _ h, frozen_of_row w _ _ _ _ h, frozen_of_row w _ _ _ _ h, frozen_of_row w _ _ _ _ h, frozen_of_row w _ _ _ _ h, frozen_of_row w _ _ _ _ h⟩
theorem below_s8 {n p : Nat} {w w' : World} (h : Below n w w') (hp : n ≤ p) (a b c d e f g i : Value) : Below n w ((((((((w'.setCell ⟨p, 0, none⟩ a).setCell ⟨p, 1, none⟩ b).setCell ⟨p, 2, none⟩ c).setCell ⟨p, 3, none⟩ d).setCell ⟨p, 4, none⟩ e).setCell ⟨p, 5, none⟩ f).setCell ⟨p, 6, none⟩ g).setCell ⟨p, 7, none⟩ i) := below_set8 h hp a b c d e f g i
theorem undrv {w w' : World} (h : Below w.drew.heap.size w.drew w') : Below w.heap.size w w' := (Below.refl _ w).drew.trans h
theorem undra {w w' : World} {o : Obj} (h : Below ((w.alloc o).drew).heap.size ((w.alloc o).drew) w') : Below w.heap.size w w' := bl3 (((Below.refl _ w).alloc (Nat.le_refl _) o).drew) h
theorem s3_of {w W : World} {g o : Nat} {x : Elm} (h : Below w.heap.size w W) (hg : g < w.heap.size) (c1 : w.cell? ⟨g, o + 1, none⟩ = some (.string x.n)) (c2 : w.cell? ⟨g, o + 2, none⟩ = some (.string x.a)) (c3 : w.cell? ⟨g, o + 3, none⟩ = some (.string x.b)) : W.cell? ⟨g, o + 1, none⟩ = some (.string x.n) ∧ W.cell? ⟨g, o + 2, none⟩ = some (.string x.a) ∧ W.cell? ⟨g, o + 3, none⟩ = some (.string x.b) :=
  ⟨(h.cell (p := ⟨g, o + 1, none⟩) hg).trans c1, (h.cell (p := ⟨g, o + 2, none⟩) hg).trans c2, (h.cell (p := ⟨g, o + 3, none⟩) hg).trans c3⟩
theorem gra_abs {Q : World → Prop} {wd : World} {P : World → Prop} (h : P wd) (k : ∀ we, P we → Q we) : Q wd := k wd h
theorem gra_st {wr wc : World} {pe : Nat} {t : TypeId} {a b c d e f g i : Value} (h : wc.heap[pe]? = some (.cells #[a, b, c, d, e, f, g, i] t (0, 0))) (hb : Below wr.heap.size wr wc) (hl : wr.heap.size ≤ pe) (o : Obj) (a' b' c' d' e' f' g' i' : Value) :
    ((st8 wc pe a' b' c' d' e' f' g' i').alloc o).drew.heap[pe]? = some (.cells #[a', b', c', d', e', f', g', i'] t (0, 0)) ∧ Below wr.heap.size wr ((st8 wc pe a' b' c' d' e' f' g' i').alloc o).drew ∧ wr.heap.size ≤ pe := by
  have b8 := st8_blk h a' b' c' d' e' f' g' i'
  have l8 : Below wr.heap.size wr (st8 wc pe a' b' c' d' e' f' g' i') := below_set8 hb hl _ _ _ _ _ _ _ _
  refine ⟨?_, (l8.alloc l8.size _).drew, hl⟩
  show ((st8 wc pe a' b' c' d' e' f' g' i').alloc o).heap[pe]? = _
  rw [Below.heap_alloc _ _ _ (Array.getElem?_eq_some_iff.1 b8).1]; exact b8
theorem gra_drw {w0 w : World} {p : Nat} (h : Below p w0 w) : Below p w0 w.drew := ⟨h.os, h.tape, h.output, h.size, h.block⟩
theorem two_1 (w : World) (cs ds : Array Value) (t u : TypeId) : ((w.alloc (.cells cs t)).alloc (.cells ds u)).drew.heap[w.heap.size]? = some (.cells cs t (0, 0)) := by
  show ((w.alloc (.cells cs t)).alloc (.cells ds u)).heap[w.heap.size]? = _
  rw [Below.heap_alloc _ _ _ (by simp)]; exact heap_alloc_new w _
theorem two_2 (w : World) (cs ds : Array Value) (t u : TypeId) : ((w.alloc (.cells cs t)).alloc (.cells ds u)).drew.heap[w.heap.size + 1]? = some (.cells ds u (0, 0)) := by
  have := heap_alloc_new (w.alloc (.cells cs t)) (.cells ds u)
  rw [show (w.alloc (.cells cs t)).heap.size = w.heap.size + 1 by simp] at this
  exact this
theorem two_b (w : World) (o1 o2 : Obj) : Below w.heap.size w ((w.alloc o1).alloc o2).drew := gra_drw (((Below.refl _ w).alloc (Nat.le_refl _) _).alloc (by simp) _)
set_option maxHeartbeats 4000000 in
theorem gvolts_walk (w : World) (A : Option Addr) (c n : Nat) (xs : List Elm) (hl : xs.length = n) (hsz : n * 104 ≤ 140737488351232) (hR : Re w A xs) (hok : ∀ x ∈ xs, x.ok) : Calls Try.prog 6 #[.slice A n c] w fun e w' => e = .returned (.bool true) ∧ Below w.heap.size w w' := by
  have haw := awake16 w
  obtain ⟨i0, hi0, hz0, hz1, hz2⟩ := info_parts Try.infoE
  have HR : Hid (Re w A xs) := hR
  have HL : Hid (xs.length = n ∧ (∀ x ∈ xs, x.ok) ∧ n * 104 ≤ 140737488351232) := ⟨hl, hok, hsz⟩
  clear hR hl hok hsz
  go_enter Try.func6, Try.ntmps6
  go_wp2_with fail
  refine haw.mono ?_
  rintro e1 w1 ⟨rfl, hb1⟩
  have hR1 : Re w1 A xs := fun k x hk => by
    obtain ⟨b, off, h1, h2, h3⟩ := HR.out k x hk
    exact ⟨b, off, h1, Nat.lt_of_lt_of_le h2 hb1.size, fun i v hi => (hb1.cell (p := ⟨b, off + k * 8 + i, none⟩) h2).trans (h3 i v hi)⟩
  have hE := elementsOf_any w1 A c n xs HL.out.1 HL.out.2.2 hR1
  have HB1 : Hid (Below w.heap.size w w1) := hb1
  clear haw hb1 HR hR1
  go_wp2_with fail
  refine hE.mono ?_
  rintro e2 w2 ⟨v2, rfl, hr2, hb2⟩
  have hO := netOf_row w2 _ n v2 xs HL.out.1 (by have := HL.out.2.2; omega) hr2 HL.out.2.1
  have HB2 : Hid (Below w.heap.size w w2) := bl3 HB1.out hb2
  clear hE hr2 hb2 HB1
  go_wp2_with fail
  refine hO.mono ?_
  rintro e3 w3 ⟨hb3, hcase⟩
  have HB3 : Hid (Below w.heap.size w w3) := bl3 HB2.out hb3
  clear hO hb3 HB2
  rcases hcase with ⟨h00, b0, p, b, rfl, hN3, _, _⟩ | ⟨hne, rfl⟩
  · obtain ⟨N, hN⟩ : ∃ N, N = (ofA xs).2 := ⟨_, rfl⟩
    rw [← hN] at hN3
    have HO : Hid (ofA xs = ((0, 0), N)) := by show ofA xs = _; rw [hN, ← h00]
    clear hN h00
    obtain ⟨w4, hw4⟩ : ∃ w4, w4 = w3.alloc (.cells #[.int .i64 0, .int .i64 0] 37) := ⟨_, rfl⟩
    have b34 : Below w3.heap.size w3 w4 := by rw [hw4]; exact (Below.refl _ w3).alloc (Nat.le_refl _) _
    have hN4 := hN3.below b34
    have HF := ofA_facts HO.out
    have hel := elements_made hN4 (by rw [HF.2.1]; have := HF.2.2.2; omega)
    have HN4 : Hid (Nt w4 b0 p N b ∧ Below w.heap.size w w4) := ⟨hN4, bl3 HB3.out b34⟩
    obtain ⟨m, hm⟩ : ∃ m, N.es.length = m := ⟨_, rfl⟩
    rw [hm] at hel
    have hm256 : m ≤ 256 := by rw [← hm, HF.2.1]; exact HF.2.2.2
    have HM : Hid (N.es.length = m) := hm
    have HCk : Hid (∀ x ∈ N.es, Cks x) := fun x hx => (HF.1.el x hx).2.2
    clear hm HF b34 hN4 hN3 HB3
    go_wp2_with fail
    rw [← hw4]
    refine hel.mono ?_
    rintro e5 w5 ⟨v5, rfl, hr5, hb5⟩
    obtain ⟨A5, c5, rfl⟩ := row_slice hr5
    have HN5 : Hid (Nt w5 b0 p N b ∧ Below w.heap.size w w5) := ⟨HN4.out.1.below hb5, bl3 HN4.out.2 hb5⟩
    have HR5 : Hid (w5.ownsRow w4.heap.size 56 8 (.slice A5 m c5) m (elCs N.es)) := hr5
    obtain ⟨L, hL⟩ : ∃ L, w5.heap.size = L := ⟨_, rfl⟩
    have HLL : Hid (w5.heap.size = L) := hL
    clear hw4 hel hr5 hb5 HN4 hL
    go_wp2_with fail
    go_loopw [8, 6] (fun iv ov wr => ∃ (k q : Nat), k ≤ m ∧ q ≤ k ∧ iv = .int .i64 k ∧ (∃ Ao co, ov = .slice Ao q co) ∧ Hid (q = (volL (N.es.take k)).length ∧ wr.ownsRow L 56 8 ov q (elCs (volL (N.es.take k))) ∧ Below L w5 wr)) (fun iv _ _ => m - (intOf iv).toNat)
    case atStart => exact ⟨0, 0, Nat.zero_le _, Nat.le_refl _, rfl, ⟨none, 0, rfl⟩, rfl, World.ownsRow_nil _ _ _ _, Below.refl _ _⟩
    case round =>
      obtain ⟨k, q, hle, hqk, rfl, ⟨Ao, co, rfl⟩, HI⟩ := hrel
      by_cases hp4 : k < m
      · have hpk : (k : Int) < (m : Int) := by omega
        obtain ⟨x, hx⟩ : ∃ x, N.es[k]? = some x := ⟨_, List.getElem?_eq_getElem (by have := HM.out; omega)⟩
        have HT := volL_take hx
        have ck := HCk.out x (List.mem_of_getElem? hx)
        obtain ⟨g5, hg5⟩ : ∃ g5, A5 = some ⟨g5, 0, none⟩ := by
          obtain ⟨_, ⟨h1, h2⟩ | ⟨g, cap, cur, h1, _⟩⟩ := HR5.out
          · omega
          · cases h1; exact ⟨g, rfl⟩
        subst hg5
        have hE5 := e8_row HR5.out hx hp4
        have hg5L : g5 < L := by have := hE5.lt; have := HLL.out; omega
        have hE := hE5.bel hg5L HI.out.2.2
        obtain ⟨s1, s2, s3, s4, s5, s6⟩ := ck.sh
        have c0 := hE.c0
        have c1 := hE.c1
        have c2 := hE.c2
        have c3 := hE.c3
        clear hE5 hE s3 s4 s5 s6 ck hx
        by_cases hk : x.k = 5
        · skip
          have h5i : ((x.k : Int) == 5) = true := by rw [beq_iff_eq]; omega
          have h7i : ((x.k : Int) == 7) = false := by rw [beq_eq_false_iff_ne]; omega
          have hB : isB x = true := by unfold isB; rw [show x.k = 5 from hk]; rfl
          have hgr : g5 < wr.heap.size := by have := HI.out.2.2.size; have := HLL.out; omega
          have hs1 : 1 ≤ x.n.size := by omega
          have hne0 : g5 ≠ wr.heap.size := by omega
          have hct1 : ¬ 9223372036854775807 < 1 + (x.n.size - 1) := by omega
          have hct2 : ¬ 9223372036854775807 < 1 + (x.n.extract 1 x.n.size).size := by rw [ext_size hs1]; omega
          have hct3 : ¬ 9223372036854775806 < x.n.size - 1 := by omega
          rw [if_pos hB] at HT
          have hVE : volE x = exE 1 (volN 82 x.n) x.a x.b := by unfold volE; rw [hk]; rfl
          rw [hVE] at HT
          have HTT : Hid _ := HT
          have HKM : Hid (q ≤ 256) := by have : q ≤ k := hqk; exact (by omega : q ≤ 256)
          clear HT hVE hB HN5 HR5 HO HL HCk
          go_wp2_with fail
          go_cut [9] from 49 to 67 (fun pv wc => ∃ pe, pv = .pointer (some ⟨pe, 0, none⟩) ∧ wc.heap[pe]? = some (.cells (elA (exE 1 (volN 82 x.n) x.a x.b)) 56 (0, 0)) ∧ Below wr.heap.size wr wc ∧ wr.heap.size ≤ pe)
          case first =>
            go_region_held_law (fun V => V.cell? ⟨g5, k * 8 + 1, none⟩ = some (.string x.n) ∧ V.cell? ⟨g5, k * 8 + 2, none⟩ = some (.string x.a) ∧ V.cell? ⟨g5, k * 8 + 3, none⟩ = some (.string x.b))
              (first | with_reducible exact ⟨c1, c2, c3⟩ | simp [go_sem, World.cell?_alloc_lt, hgr, c1, c2, c3] | (simp [go_sem, hgr, c1, c2, c3]; omega))
              (first | (go_at_call 30; (with_reducible refine (el_1e _ _ _ _).mono ?_); rintro e w1 ⟨rfl, hw⟩; subst w1))
            all_goals rename_i hHeld
            all_goals clear hHeld
            all_goals go_wp2_with fail
            all_goals go_meet
            all_goals first | exact ⟨_, rfl, two_2 _ _ _ _ _, two_b _ _ _, Nat.le_succ _⟩ | exact ⟨_, rfl, two_1 _ _ _ _ _, two_b _ _ _, Nat.le_refl _⟩
          case rest =>
            obtain ⟨pe, rfl, hpe, hbc, hle2⟩ := hcut
            have hE1 : elA (exE 1 (volN 82 x.n) x.a x.b) = #[.int .u8 1, .string (volN 82 x.n), .string x.a, .string x.b, .string ⟨#[]⟩, .string ⟨#[]⟩, .float .f64 4607182418800017408, .int .i64 0] := rfl
            rw [hE1] at hpe
            have HPE : Hid (wc.heap[pe]? = some (.cells #[.int .u8 1, .string (volN 82 x.n), .string x.a, .string x.b, .string ⟨#[]⟩, .string ⟨#[]⟩, .float .f64 4607182418800017408, .int .i64 0] 56 (0, 0)) ∧ Below wr.heap.size wr wc ∧ wr.heap.size ≤ pe) := ⟨hpe, hbc, hle2⟩
            have e0 := (hbc.cell (p := ⟨g5, k * 8, none⟩) hgr).trans c0
            clear hpe hbc hle2 hE1 c0 c1 c2 c3
            obtain ⟨⟨d0, d1, d2, d3, d4, d5, d6, d7⟩, -⟩ := eight HPE.out.1
            have r1 : wc.ownsRow L 56 8 (.slice Ao q co) q (elCs (volL (N.es.take k))) := row_block HI.out.2.1 fun g hg => HPE.out.2.1.block g (row_ge HI.out.2.1 hg).2
            have hLw : L ≤ wr.heap.size := by have := HI.out.2.2.size; have := HLL.out; omega
            have hL1 : L ≤ wc.heap.size := Nat.le_trans hLw HPE.out.2.1.size
            have HB1 : Hid (Below L w5 wc) := HI.out.2.2.trans (HPE.out.2.1.mono hLw)
            have HQ : Hid (q = (volL (N.es.take k)).length) := HI.out.1
            have hq256 := HKM.out
            clear HI
            go_wp2_with (at_builtin; refine wpList_append_lies _ (by rfl) _ _ 47 (by rfl) L 56 i0 _ 8 104 Try.underlying47 hi0 hz0 hz1 hz2 (by rfl) (by decide) _ _ _ (by rfl) (r1.alloc _) ⟨wc.heap.size, 0, none⟩ 1 1 (elC (exE 1 (volN 82 x.n) x.a x.b)) (by rfl) (by rfl) (World.news_of_block (fr := (0, 0)) (t := 56) (cs := (elC (exE 1 (volN 82 x.n) x.a x.b)).toArray) (heap_alloc_new _ _)) (fun u hu => by simp [elC] at hu; rcases hu with rfl | rfl | rfl | rfl | rfl | rfl | rfl | rfl <;> rfl) (by decide) (by unfold maxLen; omega) (by omega) (by simp; omega) _ rfl ?_; intro g4 cp4 w4 hown4 hgrow4 hat4 hlt4)
            go_roundw
            case rel =>
              have hT2 : elCs (volL (N.es.take (k + 1))) = elCs (volL (N.es.take k)) ++ elC (exE 1 (volN 82 x.n) x.a x.b) := by rw [HTT.out]; exact elCs_snoc _ _
              exact ⟨k + 1, q + 1, by omega, by omega, by go_num, ⟨_, _, rfl⟩, by rw [HTT.out, List.length_append, ← HQ.out]; rfl, by rw [hT2]; exact hown4, (HB1.out.alloc hL1 _).trans ⟨hgrow4.os, hgrow4.tape, hgrow4.output, hgrow4.size, fun j hj => hgrow4.block j (by simp; omega) (fun e => by have := (row_ge r1 e.symm).1; omega)⟩⟩
            case measure => simp [intOf]; omega
        · by_cases h7 : x.k = 7
          · have hk5 := hk
            have hk := h7
            have h5i : ((x.k : Int) == 5) = false := by rw [beq_eq_false_iff_ne]; omega
            have h7i : ((x.k : Int) == 7) = true := by rw [beq_iff_eq]; omega
            have hB : isB x = true := by unfold isB; rw [show x.k = 7 from hk]; rfl
            have hgr : g5 < wr.heap.size := by have := HI.out.2.2.size; have := HLL.out; omega
            have hs1 : 1 ≤ x.n.size := by omega
            have hne0 : g5 ≠ wr.heap.size := by omega
            have hct1 : ¬ 9223372036854775807 < 1 + (x.n.size - 1) := by omega
            have hct2 : ¬ 9223372036854775807 < 1 + (x.n.extract 1 x.n.size).size := by rw [ext_size hs1]; omega
            have hct3 : ¬ 9223372036854775806 < x.n.size - 1 := by omega
            rw [if_pos hB] at HT
            have hVE : volE x = exE 2 (volN 76 x.n) x.a x.b := by unfold volE; rw [hk]; rfl
            rw [hVE] at HT
            have HTT : Hid _ := HT
            have HKM : Hid (q ≤ 256) := by have : q ≤ k := hqk; exact (by omega : q ≤ 256)
            clear HT hVE hB HN5 HR5 HO HL HCk
            go_wp2_with fail
            go_cut [9] from 49 to 67 (fun pv wc => ∃ pe, pv = .pointer (some ⟨pe, 0, none⟩) ∧ wc.heap[pe]? = some (.cells (elA (exE 1 (volN 82 x.n) x.a x.b)) 56 (0, 0)) ∧ Below wr.heap.size wr wc ∧ wr.heap.size ≤ pe)
            case first =>
              go_region_held_law (fun V => V.cell? ⟨g5, k * 8 + 1, none⟩ = some (.string x.n) ∧ V.cell? ⟨g5, k * 8 + 2, none⟩ = some (.string x.a) ∧ V.cell? ⟨g5, k * 8 + 3, none⟩ = some (.string x.b))
                (first | with_reducible exact ⟨c1, c2, c3⟩ | simp [go_sem, World.cell?_alloc_lt, hgr, c1, c2, c3] | (simp [go_sem, hgr, c1, c2, c3]; omega))
                (first | (go_at_call 30; (with_reducible refine (el_1e _ _ _ _).mono ?_); rintro e w1 ⟨rfl, hw⟩; subst w1))
              all_goals rename_i hHeld
              all_goals clear hHeld
              all_goals go_wp2_with fail
              all_goals go_meet
              all_goals first | exact ⟨_, rfl, two_2 _ _ _ _ _, two_b _ _ _, Nat.le_succ _⟩ | exact ⟨_, rfl, two_1 _ _ _ _ _, two_b _ _ _, Nat.le_refl _⟩
            case rest =>
              obtain ⟨pe, rfl, hpe, hbc, hle2⟩ := hcut
              have hE1 : elA (exE 1 (volN 82 x.n) x.a x.b) = #[.int .u8 1, .string (volN 82 x.n), .string x.a, .string x.b, .string ⟨#[]⟩, .string ⟨#[]⟩, .float .f64 4607182418800017408, .int .i64 0] := rfl
              rw [hE1] at hpe
              have HPE : Hid (wc.heap[pe]? = some (.cells #[.int .u8 1, .string (volN 82 x.n), .string x.a, .string x.b, .string ⟨#[]⟩, .string ⟨#[]⟩, .float .f64 4607182418800017408, .int .i64 0] 56 (0, 0)) ∧ Below wr.heap.size wr wc ∧ wr.heap.size ≤ pe) := ⟨hpe, hbc, hle2⟩
              have e0 := (hbc.cell (p := ⟨g5, k * 8, none⟩) hgr).trans c0
              have e1 := (hbc.cell (p := ⟨g5, k * 8 + 1, none⟩) hgr).trans c1
              have e2 := (hbc.cell (p := ⟨g5, k * 8 + 2, none⟩) hgr).trans c2
              have e3 := (hbc.cell (p := ⟨g5, k * 8 + 3, none⟩) hgr).trans c3
              have hgw : g5 < wc.heap.size := Nat.lt_of_lt_of_le hgr hbc.size
              have hpw : pe < wc.heap.size := (Array.getElem?_eq_some_iff.1 hpe).1
              have hnep : ¬ g5 = pe := by omega
              have hnep2 : ¬ pe = g5 := by omega
              obtain ⟨⟨d0, d1, d2, d3, d4, d5, d6, d7⟩, ⟨f0, f1, f2, f3, f4, f5, f6, f7⟩⟩ := eight hpe
              clear hpe hbc hle2 hE1 c0 c1 c2 c3
              go_wp2_with fail
              go_region_held_law (fun V => V.cell? ⟨g5, k * 8 + 1, none⟩ = some (.string x.n) ∧ V.cell? ⟨g5, k * 8 + 2, none⟩ = some (.string x.a) ∧ V.cell? ⟨g5, k * 8 + 3, none⟩ = some (.string x.b))
                (first | with_reducible exact ⟨e1, e2, e3⟩ | simp [go_sem, World.cell?_alloc_lt, hgw, e1, e2, e3] | simp [go_sem, hgw, hnep, hnep2, e1, e2, e3])
                (first | (go_at_call 30; (with_reducible refine (el_2e _ _ _ _).mono ?_); rintro e w1 ⟨rfl, hw⟩; subst w1))
              all_goals rename_i hHeld
              all_goals clear hHeld
              all_goals refine gra_abs (P := fun we => we.heap[pe]? = some (.cells #[.int .u8 2, .string (volN 76 x.n), .string x.a, .string x.b, .string ⟨#[]⟩, .string ⟨#[]⟩, .float .f64 4607182418800017408, .int .i64 0] 56 (0, 0)) ∧ Below wr.heap.size wr we ∧ wr.heap.size ≤ pe) (gra_st HPE.out.1 HPE.out.2.1 HPE.out.2.2 _ _ _ _ _ _ _ _ _) ?_
              clear HPE d0 d1 d2 d3 d4 d5 d6 d7 f0 f1 f2 f3 f4 f5 f6 f7 hgw hpw hnep hnep2 e0 e1 e2 e3
              intro we HPE0
              have HPE : Hid _ := HPE0
              clear HPE0
              obtain ⟨⟨d0, d1, d2, d3, d4, d5, d6, d7⟩, -⟩ := eight HPE.out.1
              have r1 : we.ownsRow L 56 8 (.slice Ao q co) q (elCs (volL (N.es.take k))) := row_block HI.out.2.1 fun g hg => HPE.out.2.1.block g (row_ge HI.out.2.1 hg).2
              have hLw : L ≤ wr.heap.size := by have := HI.out.2.2.size; have := HLL.out; omega
              have hL1 : L ≤ we.heap.size := Nat.le_trans hLw HPE.out.2.1.size
              have HB1 : Hid (Below L w5 we) := HI.out.2.2.trans (HPE.out.2.1.mono hLw)
              have HQ : Hid (q = (volL (N.es.take k)).length) := HI.out.1
              have hq256 := HKM.out
              clear HI
              go_wp2_with (at_builtin; refine wpList_append_lies _ (by rfl) _ _ 47 (by rfl) L 56 i0 _ 8 104 Try.underlying47 hi0 hz0 hz1 hz2 (by rfl) (by decide) _ _ _ (by rfl) (r1.alloc _) ⟨we.heap.size, 0, none⟩ 1 1 (elC (exE 2 (volN 76 x.n) x.a x.b)) (by rfl) (by rfl) (World.news_of_block (fr := (0, 0)) (t := 56) (cs := (elC (exE 2 (volN 76 x.n) x.a x.b)).toArray) (heap_alloc_new _ _)) (fun u hu => by simp [elC] at hu; rcases hu with rfl | rfl | rfl | rfl | rfl | rfl | rfl | rfl <;> rfl) (by decide) (by unfold maxLen; omega) (by omega) (by simp; omega) _ rfl ?_; intro g4 cp4 w4 hown4 hgrow4 hat4 hlt4)
              go_roundw
              case rel =>
                have hT2 : elCs (volL (N.es.take (k + 1))) = elCs (volL (N.es.take k)) ++ elC (exE 2 (volN 76 x.n) x.a x.b) := by rw [HTT.out]; exact elCs_snoc _ _
                exact ⟨k + 1, q + 1, by omega, by omega, by go_num, ⟨_, _, rfl⟩, by rw [HTT.out, List.length_append, ← HQ.out]; rfl, by rw [hT2]; exact hown4, (HB1.out.alloc hL1 _).trans ⟨hgrow4.os, hgrow4.tape, hgrow4.output, hgrow4.size, fun j hj => hgrow4.block j (by simp; omega) (fun e => by have := (row_ge r1 e.symm).1; omega)⟩⟩
              case measure => simp [intOf]; omega
          · have h5 := hk
            have h5i : ((x.k : Int) == 5) = false := by rw [beq_eq_false_iff_ne]; omega
            have h7i : ((x.k : Int) == 7) = false := by rw [beq_eq_false_iff_ne]; omega
            have hB : ¬ isB x = true := fun h => by rcases isB_k h with h | h <;> contradiction
            rw [if_neg hB] at HT
            have HI2 : Hid (q = (volL (N.es.take (k + 1))).length ∧ wr.ownsRow L 56 8 (.slice Ao q co) q (elCs (volL (N.es.take (k + 1)))) ∧ Below L w5 wr) := by rw [HT]; exact HI
            clear hB HT HI h5 h7
            go_wp2_with fail
            go_roundw
            case rel => exact ⟨k + 1, q, by omega, by omega, by go_num, ⟨Ao, co, rfl⟩, HI2⟩
            case measure => simp [intOf]; omega
      · have hkm : k = m := by omega
        have hkk : ¬ ((k : Int) < (m : Int)) := by omega
        have htk : N.es.take k = N.es := by rw [hkm, ← HM.out, List.take_length]
        have hNr := HN5.out.1.below (w' := _) (by have := HI.out.2.2; rw [← HLL.out] at this; exact this)
        have hBr := bl3 HN5.out.2 (by have := HI.out.2.2; rw [← HLL.out] at this; exact this)
        obtain ⟨FB, hGB, hFB⟩ := gn_of wB hNr HO.out
        obtain ⟨hq, hrow, _⟩ := HI.out
        rw [htk] at hq hrow
        by_cases hq0 : q = 0
        · subst hq0
          have hv0 : volL N.es = [] := List.length_eq_zero_iff.1 hq.symm
          rw [vol_none hv0] at hFB
          have hV := volt_any hGB
          rw [hFB, show decide (0 < 0) = false by decide] at hV
          have HB : Hid _ := hBr
          clear hNr hBr hGB hFB hq hrow hv0 htk HI
          go_wp2_with fail
          refine hV.mono ?_
          rintro e6 w6 ⟨rfl, hb6⟩
          have HB6 : Hid _ := bl3 HB.out hb6
          clear hV hb6
          go_wp2_with fail
          go_ret
          exact ⟨rfl, HB6.out⟩
        · obtain ⟨N2, hN2, hsame⟩ := vol_of HO.out
          have hO2 := netOf_row wr L q _ (volL N.es) hq.symm (by omega) hrow (vol_ok HO.out)
          have hq0' : ((q : Int) == 0) = false := by rw [beq_eq_false_iff_ne]; omega
          have HB : Hid (Nt wr b0 p N b ∧ Below w.heap.size w wr) := ⟨hNr, hBr⟩
          have HS : Hid (ofA (volL N.es) = ((0, 0), N2) ∧ (labG wB ([48] :: N.nd) N.es id 0).2 = (labG wJ ([48] :: N2.nd) N2.es id 0).2) := ⟨hN2, hsame⟩
          clear hNr hBr hGB hFB hq hrow htk HI hN2 hsame
          go_wp2_with fail
          refine hO2.mono ?_
          rintro e6 w6 hp6
          obtain ⟨b6, p2, c0, c2, rfl, hM6⟩ := of_yes HS.out.1 hp6
          obtain ⟨w7, hw7⟩ : ∃ w7, w7 = w6.alloc (.cells #[.int .i64 0, .int .i64 0] 37) := ⟨_, rfl⟩
          have b67 : Below w6.heap.size w6 w7 := by rw [hw7]; exact (Below.refl _ w6).alloc (Nat.le_refl _) _
          have hN7 := (HB.out.1.below b6).below b67
          have hM7 := hM6.below b67
          have B7 := bl3 (bl3 HB.out.2 b6) b67
          obtain ⟨FB, hGB, hFB⟩ := gn_of wB hN7 HO.out
          have hV := volt_any hGB
          have HN7 : Hid (Nt w7 c0 p2 N2 c2 ∧ Below w.heap.size w w7) := ⟨hM7, B7⟩
          have HFB : Hid _ := hFB
          have k7 : w7.heap[w6.heap.size]? = some (.cells #[.int .i64 0, .int .i64 0] 37 (0, 0)) := by rw [hw7]; exact heap_alloc_new _ _
          obtain ⟨z0, z1, z2, z3⟩ := tw_c k7
          clear hO2 hp6 b6 hM6 b67 hN7 hM7 B7 hGB hFB HB k7
          go_wp2_with fail
          rw [← hw7]
          clear hw7
          go_wp2_with fail
          refine hV.mono ?_
          rintro e8 w8 ⟨rfl, hb8⟩
          obtain ⟨FJ, hGJ, hFJ⟩ := gn_of wJ (HN7.out.1.below hb8) HS.out.1
          have hLo := loops_any hGJ
          have HE : Hid (FB.lp.length = FJ.lp.length) := by show _ = _; rw [HFB.out, hFJ]; exact HS.out.2
          have HB8 : Hid _ := bl3 HN7.out.2 hb8
          clear hV hb8 hGJ hFJ HFB HS HN7
          go_wp2_with fail
          refine hLo.mono ?_
          rintro e9 w9 ⟨v9, lv9, rfl, hL9, hb9⟩
          obtain ⟨A9, c9, rfl⟩ := row_slice hL9.out
          rw [← hL9.len]
          have HB9 : Hid _ := bl3 HB8.out hb9
          clear hLo hL9 hb9 HB8
          rw [HE.out]
          go_wp2_with fail
          go_ret
          exact ⟨by simp, HB9.out⟩
  · obtain ⟨f, hf⟩ : ∃ f, f = (ofA xs).1.1 := ⟨_, rfl⟩
    obtain ⟨g, hg⟩ : ∃ g, g = (ofA xs).1.2 := ⟨_, rfl⟩
    rw [← hf] at hne ⊢
    rw [← hg]
    have k3 : (w3.alloc (.cells #[.int .i64 f, .int .i64 g] 37)).heap[w3.heap.size]? = some (.cells #[.int .i64 f, .int .i64 g] 37 (0, 0)) := heap_alloc_new _ _
    have hfb : (f == 0) = false := beq_eq_false_iff_ne.2 hne
    clear hf hg hi0 hz0 hz1 hz2
    go_wp2_with fail
    go_ret
    exact ⟨rfl, HB3.out.alloc HB3.out.size _⟩
end Go.Proofs.Ytcakfclfggnmbaa
