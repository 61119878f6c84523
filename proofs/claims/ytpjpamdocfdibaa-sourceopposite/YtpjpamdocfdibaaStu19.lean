/-
  The statement's turned: a row of elements, each source the other way round.
-/
import Derived.Test.YtpjpamdocfdibaaSoq
import Derived.Test.YtpjpamdocfdibaaBsd
namespace Go.Proofs.Ytpjpamdocfdibaa
open Go.ChangeShapes Go.WideShapes Go.ChangeAt Fl Go.Maps RowKit Joins Deep
set_option linter.unusedVariables false
set_option maxRecDepth 100000

theorem set7 {w : World} {q : Nat} {x : Elm} (h : w.heap[q]? = some (.cells (elA x) 57 (0, 0))) (p : Int) : (w.setCell ⟨q, 7, none⟩ (.int .i64 p)).heap[q]? = some (.cells (elA ⟨x.k, x.n, x.a, x.b, x.c, x.d, x.v, p⟩) 57 (0, 0)) := set_at h rfl
theorem set6e {w : World} {q : Nat} {x : Elm} (h : w.heap[q]? = some (.cells (elA x) 57 (0, 0))) (v : Nat) : (w.setCell ⟨q, 6, none⟩ (.float .f64 v)).heap[q]? = some (.cells (elA ⟨x.k, x.n, x.a, x.b, x.c, x.d, v, x.ph⟩) 57 (0, 0)) := set_at h rfl
set_option maxHeartbeats 4000000 in
theorem turned19_any (w : World) (B0 : Nat) (A : Option Addr) (c n : Nat) (ph : Bool) (xs : List Elm) (hl : xs.length = n) (hsz : n ≤ 1000) (hr : w.ownsRow B0 57 8 (.slice A n c) n (elCs xs)) (hv : ∀ x ∈ xs, x.v < 18446744073709551616) : Calls Try.prog 38 #[.slice A n c, .bool ph] w fun e w' => ∃ v, e = .returned v ∧ w'.ownsRow w.heap.size 57 8 v n (elCs (xs.map (tuE ph))) ∧ Below w.heap.size w w' := by
  obtain ⟨L, hL⟩ : ∃ L, w.heap.size = L := ⟨_, rfl⟩
  obtain ⟨i0, hi0, hz0, hz1, hz2⟩ := info_parts Try.infoE
  have HR := hidS (And.intro hr hv)
  have HL := hidS (And.intro hl hL)
  rw [hL]
  clear hr hv hl hL
  go_enter Try.func38, Try.ntmps38
  go_wp2_with fail
  go_loopw [6, 5] (fun iv ov wr => ∃ (k : Nat), k ≤ n ∧ iv = .int .i64 k ∧ Hid (wr.ownsRow L 57 8 ov k (elCs ((xs.map (tuE ph)).take k)) ∧ Below L w wr)) (fun iv _ _ => n - (intOf iv).toNat)
  case atStart => exact ⟨0, Nat.zero_le _, rfl, World.ownsRow_nil _ _ _ _, Below.refl _ _⟩
  case round =>
    obtain ⟨k, hle, rfl, HI⟩ := hrel
    obtain ⟨Ao, co, hov⟩ := row_slice HI.out.1
    subst hov
    by_cases hp4 : k < n
    · have hpk : (k : Int) < (n : Int) := by omega
      obtain ⟨x, hx⟩ : ∃ x, xs[k]? = some x := ⟨_, List.getElem?_eq_getElem (by have := HL.out.1; omega)⟩
      have hrw := own_below HR.out.1 (show Below w.heap.size w wr by rw [HL.out.2]; exact HI.out.2)
      obtain ⟨ga, ca, he, hE⟩ := de8_row hrw HL.out.1 hx
      injection he with he1 he2 he3
      subst he1 he3
      clear he2 hrw
      obtain ⟨c0, c1, c2, c3, c4, c5, c6, c7⟩ := hE
      have HX := hidS (And.intro hx (HR.out.2 x (List.mem_of_getElem? hx)))
      have HT : Hid (elCs ((xs.map (tuE ph)).take (k + 1)) = elCs ((xs.map (tuE ph)).take k) ++ elC (tuE ph x)) := by
        show elCs _ = _
        rw [List.take_add_one, List.getElem?_map, hx]
        exact elCs_snoc _ _
      clear hx
      have hLw : L ≤ wr.heap.size := by have := HI.out.2.size; have := HL.out.2; omega
      by_cases hk : x.k = 4 ∨ x.k = 5
      · cases ph
        · have htu : tuE false x = ⟨x.k, x.n, x.a, x.b, x.c, x.d, Op.negFloat .f64 x.v, x.ph⟩ := by
            unfold tuE
            rw [if_pos hk, if_neg (by decide), neg_ngW HX.out.2]
          rw [htu] at HT
          clear htu
          rcases hk with hk | hk
          · have b4 : ((x.k : Int) == 4) = true := by rw [hk]; rfl
            clear hk
            have hel := heap_alloc_new wr (.cells (elA ⟨x.k, x.n, x.a, x.b, x.c, x.d, Op.negFloat .f64 x.v, x.ph⟩) 57)
            have hbw := bal wr (.cells (elA ⟨x.k, x.n, x.a, x.b, x.c, x.d, Op.negFloat .f64 x.v, x.ph⟩) 57)
            obtain ⟨wS, hwS⟩ : ∃ wS, wr.alloc (.cells (elA ⟨x.k, x.n, x.a, x.b, x.c, x.d, Op.negFloat .f64 x.v, x.ph⟩) 57) = wS := ⟨_, rfl⟩
            obtain ⟨q, hq⟩ : ∃ q, wr.heap.size = q := ⟨_, rfl⟩
            rw [hwS] at hel hbw
            rw [hq] at hel
            obtain ⟨⟨d0, d1, d2, d3, d4, d5, d6, d7⟩, f0, f1, f2, f3, f4, f5, f6, f7⟩ := eight hel
            unfold elA at hwS
            have HQ := hidS (And.intro hbw hq)
            have r1 : wS.ownsRow L 57 8 (.slice Ao k co) k (elCs ((xs.map (tuE false)).take k)) := row_block HI.out.1 fun g hg => HQ.out.1.block g (row_ge HI.out.1 hg).2
            have hL1 : L ≤ wS.heap.size := Nat.le_trans hLw HQ.out.1.size
            have HB1 : Hid (Below L w wS) := HI.out.2.trans (HQ.out.1.mono hLw)
            clear hel hbw
            go_wp2_with (at_builtin; refine wpList_append_lies _ (by rfl) _ _ 24 (by rfl) L 57 i0 _ 8 104 Try.underlying24 hi0 hz0 hz1 hz2 (by rfl) (by decide) _ _ _ (by rfl) (r1.alloc _) ⟨wS.heap.size, 0, none⟩ 1 1 (elC ⟨x.k, x.n, x.a, x.b, x.c, x.d, Op.negFloat .f64 x.v, x.ph⟩) (by rfl) (by rfl) (World.news_of_block (fr := (0, 0)) (t := 57) (cs := (elC ⟨x.k, x.n, x.a, x.b, x.c, x.d, Op.negFloat .f64 x.v, x.ph⟩).toArray) (heap_alloc_new _ _)) (fun u hu => by simp [elC] at hu; rcases hu with rfl | rfl | rfl | rfl | rfl | rfl | rfl | rfl <;> rfl) (by decide) (by unfold maxLen; omega) (by omega) (by simp; omega) _ rfl ?_; intro gg4 cp4 w4 hown4 hgrow4 hat4 hlt4)
            go_roundw
            case rel => exact ⟨k + 1, by omega, by go_num, by rw [HT.out]; exact hown4, (HB1.out.alloc hL1 _).trans ⟨hgrow4.os, hgrow4.tape, hgrow4.output, hgrow4.size, fun j hj => hgrow4.block j (by simp; omega) (fun e => by have := (row_ge r1 e.symm).1; omega)⟩⟩
            case measure => simp [intOf]; omega
          · have b4 : ((x.k : Int) == 4) = false := by rw [hk]; rfl
            have b5 : ((x.k : Int) == 5) = true := by rw [hk]; rfl
            clear hk
            have hel := heap_alloc_new wr (.cells (elA ⟨x.k, x.n, x.a, x.b, x.c, x.d, Op.negFloat .f64 x.v, x.ph⟩) 57)
            have hbw := bal wr (.cells (elA ⟨x.k, x.n, x.a, x.b, x.c, x.d, Op.negFloat .f64 x.v, x.ph⟩) 57)
            obtain ⟨wS, hwS⟩ : ∃ wS, wr.alloc (.cells (elA ⟨x.k, x.n, x.a, x.b, x.c, x.d, Op.negFloat .f64 x.v, x.ph⟩) 57) = wS := ⟨_, rfl⟩
            obtain ⟨q, hq⟩ : ∃ q, wr.heap.size = q := ⟨_, rfl⟩
            rw [hwS] at hel hbw
            rw [hq] at hel
            obtain ⟨⟨d0, d1, d2, d3, d4, d5, d6, d7⟩, f0, f1, f2, f3, f4, f5, f6, f7⟩ := eight hel
            unfold elA at hwS
            have HQ := hidS (And.intro hbw hq)
            have r1 : wS.ownsRow L 57 8 (.slice Ao k co) k (elCs ((xs.map (tuE false)).take k)) := row_block HI.out.1 fun g hg => HQ.out.1.block g (row_ge HI.out.1 hg).2
            have hL1 : L ≤ wS.heap.size := Nat.le_trans hLw HQ.out.1.size
            have HB1 : Hid (Below L w wS) := HI.out.2.trans (HQ.out.1.mono hLw)
            clear hel hbw
            go_wp2_with (at_builtin; refine wpList_append_lies _ (by rfl) _ _ 24 (by rfl) L 57 i0 _ 8 104 Try.underlying24 hi0 hz0 hz1 hz2 (by rfl) (by decide) _ _ _ (by rfl) (r1.alloc _) ⟨wS.heap.size, 0, none⟩ 1 1 (elC ⟨x.k, x.n, x.a, x.b, x.c, x.d, Op.negFloat .f64 x.v, x.ph⟩) (by rfl) (by rfl) (World.news_of_block (fr := (0, 0)) (t := 57) (cs := (elC ⟨x.k, x.n, x.a, x.b, x.c, x.d, Op.negFloat .f64 x.v, x.ph⟩).toArray) (heap_alloc_new _ _)) (fun u hu => by simp [elC] at hu; rcases hu with rfl | rfl | rfl | rfl | rfl | rfl | rfl | rfl <;> rfl) (by decide) (by unfold maxLen; omega) (by omega) (by simp; omega) _ rfl ?_; intro gg4 cp4 w4 hown4 hgrow4 hat4 hlt4)
            go_roundw
            case rel => exact ⟨k + 1, by omega, by go_num, by rw [HT.out]; exact hown4, (HB1.out.alloc hL1 _).trans ⟨hgrow4.os, hgrow4.tape, hgrow4.output, hgrow4.size, fun j hj => hgrow4.block j (by simp; omega) (fun e => by have := (row_ge r1 e.symm).1; omega)⟩⟩
            case measure => simp [intOf]; omega
        · have htu : tuE true x = ⟨x.k, x.n, x.a, x.b, x.c, x.d, x.v, x.ph.tmod 24 + 12⟩ := by
            unfold tuE
            rw [if_pos hk, if_pos rfl]
          rw [htu] at HT
          have htm := tmod24 x.ph
          clear htu
          rcases hk with hk | hk
          · have b4 : ((x.k : Int) == 4) = true := by rw [hk]; rfl
            clear hk
            have hel := heap_alloc_new wr (.cells (elA ⟨x.k, x.n, x.a, x.b, x.c, x.d, x.v, x.ph.tmod 24 + 12⟩) 57)
            have hbw := bal wr (.cells (elA ⟨x.k, x.n, x.a, x.b, x.c, x.d, x.v, x.ph.tmod 24 + 12⟩) 57)
            obtain ⟨wS, hwS⟩ : ∃ wS, wr.alloc (.cells (elA ⟨x.k, x.n, x.a, x.b, x.c, x.d, x.v, x.ph.tmod 24 + 12⟩) 57) = wS := ⟨_, rfl⟩
            obtain ⟨q, hq⟩ : ∃ q, wr.heap.size = q := ⟨_, rfl⟩
            rw [hwS] at hel hbw
            rw [hq] at hel
            obtain ⟨⟨d0, d1, d2, d3, d4, d5, d6, d7⟩, f0, f1, f2, f3, f4, f5, f6, f7⟩ := eight hel
            unfold elA at hwS
            have HQ := hidS (And.intro hbw hq)
            have r1 : wS.ownsRow L 57 8 (.slice Ao k co) k (elCs ((xs.map (tuE true)).take k)) := row_block HI.out.1 fun g hg => HQ.out.1.block g (row_ge HI.out.1 hg).2
            have hL1 : L ≤ wS.heap.size := Nat.le_trans hLw HQ.out.1.size
            have HB1 : Hid (Below L w wS) := HI.out.2.trans (HQ.out.1.mono hLw)
            clear hel hbw
            go_wp2_with (at_builtin; refine wpList_append_lies _ (by rfl) _ _ 24 (by rfl) L 57 i0 _ 8 104 Try.underlying24 hi0 hz0 hz1 hz2 (by rfl) (by decide) _ _ _ (by rfl) (r1.alloc _) ⟨wS.heap.size, 0, none⟩ 1 1 (elC ⟨x.k, x.n, x.a, x.b, x.c, x.d, x.v, x.ph.tmod 24 + 12⟩) (by rfl) (by rfl) (World.news_of_block (fr := (0, 0)) (t := 57) (cs := (elC ⟨x.k, x.n, x.a, x.b, x.c, x.d, x.v, x.ph.tmod 24 + 12⟩).toArray) (heap_alloc_new _ _)) (fun u hu => by simp [elC] at hu; rcases hu with rfl | rfl | rfl | rfl | rfl | rfl | rfl | rfl <;> rfl) (by decide) (by unfold maxLen; omega) (by omega) (by simp; omega) _ rfl ?_; intro gg4 cp4 w4 hown4 hgrow4 hat4 hlt4)
            go_roundw
            case rel => exact ⟨k + 1, by omega, by go_num, by rw [HT.out]; exact hown4, (HB1.out.alloc hL1 _).trans ⟨hgrow4.os, hgrow4.tape, hgrow4.output, hgrow4.size, fun j hj => hgrow4.block j (by simp; omega) (fun e => by have := (row_ge r1 e.symm).1; omega)⟩⟩
            case measure => simp [intOf]; omega
          · have b4 : ((x.k : Int) == 4) = false := by rw [hk]; rfl
            have b5 : ((x.k : Int) == 5) = true := by rw [hk]; rfl
            clear hk
            have hel := heap_alloc_new wr (.cells (elA ⟨x.k, x.n, x.a, x.b, x.c, x.d, x.v, x.ph.tmod 24 + 12⟩) 57)
            have hbw := bal wr (.cells (elA ⟨x.k, x.n, x.a, x.b, x.c, x.d, x.v, x.ph.tmod 24 + 12⟩) 57)
            obtain ⟨wS, hwS⟩ : ∃ wS, wr.alloc (.cells (elA ⟨x.k, x.n, x.a, x.b, x.c, x.d, x.v, x.ph.tmod 24 + 12⟩) 57) = wS := ⟨_, rfl⟩
            obtain ⟨q, hq⟩ : ∃ q, wr.heap.size = q := ⟨_, rfl⟩
            rw [hwS] at hel hbw
            rw [hq] at hel
            obtain ⟨⟨d0, d1, d2, d3, d4, d5, d6, d7⟩, f0, f1, f2, f3, f4, f5, f6, f7⟩ := eight hel
            unfold elA at hwS
            have HQ := hidS (And.intro hbw hq)
            have r1 : wS.ownsRow L 57 8 (.slice Ao k co) k (elCs ((xs.map (tuE true)).take k)) := row_block HI.out.1 fun g hg => HQ.out.1.block g (row_ge HI.out.1 hg).2
            have hL1 : L ≤ wS.heap.size := Nat.le_trans hLw HQ.out.1.size
            have HB1 : Hid (Below L w wS) := HI.out.2.trans (HQ.out.1.mono hLw)
            clear hel hbw
            go_wp2_with (at_builtin; refine wpList_append_lies _ (by rfl) _ _ 24 (by rfl) L 57 i0 _ 8 104 Try.underlying24 hi0 hz0 hz1 hz2 (by rfl) (by decide) _ _ _ (by rfl) (r1.alloc _) ⟨wS.heap.size, 0, none⟩ 1 1 (elC ⟨x.k, x.n, x.a, x.b, x.c, x.d, x.v, x.ph.tmod 24 + 12⟩) (by rfl) (by rfl) (World.news_of_block (fr := (0, 0)) (t := 57) (cs := (elC ⟨x.k, x.n, x.a, x.b, x.c, x.d, x.v, x.ph.tmod 24 + 12⟩).toArray) (heap_alloc_new _ _)) (fun u hu => by simp [elC] at hu; rcases hu with rfl | rfl | rfl | rfl | rfl | rfl | rfl | rfl <;> rfl) (by decide) (by unfold maxLen; omega) (by omega) (by simp; omega) _ rfl ?_; intro gg4 cp4 w4 hown4 hgrow4 hat4 hlt4)
            go_roundw
            case rel => exact ⟨k + 1, by omega, by go_num, by rw [HT.out]; exact hown4, (HB1.out.alloc hL1 _).trans ⟨hgrow4.os, hgrow4.tape, hgrow4.output, hgrow4.size, fun j hj => hgrow4.block j (by simp; omega) (fun e => by have := (row_ge r1 e.symm).1; omega)⟩⟩
            case measure => simp [intOf]; omega
      · have b4 : ((x.k : Int) == 4) = false := by rw [beq_eq_false_iff_ne]; omega
        have b5 : ((x.k : Int) == 5) = false := by rw [beq_eq_false_iff_ne]; omega
        have htu : tuE ph x = x := by unfold tuE; rw [if_neg hk]
        rw [htu] at HT
        clear htu hk
        have hel := heap_alloc_new wr (.cells (elA x) 57)
        have hbw := bal wr (.cells (elA x) 57)
        obtain ⟨wS, hwS⟩ : ∃ wS, wr.alloc (.cells (elA x) 57) = wS := ⟨_, rfl⟩
        obtain ⟨q, hq⟩ : ∃ q, wr.heap.size = q := ⟨_, rfl⟩
        rw [hwS] at hel hbw
        rw [hq] at hel
        obtain ⟨⟨d0, d1, d2, d3, d4, d5, d6, d7⟩, f0, f1, f2, f3, f4, f5, f6, f7⟩ := eight hel
        unfold elA at hwS
        have HQ := hidS (And.intro hbw hq)
        have r1 : wS.ownsRow L 57 8 (.slice Ao k co) k (elCs ((xs.map (tuE ph)).take k)) := row_block HI.out.1 fun g hg => HQ.out.1.block g (row_ge HI.out.1 hg).2
        have hL1 : L ≤ wS.heap.size := Nat.le_trans hLw HQ.out.1.size
        have HB1 : Hid (Below L w wS) := HI.out.2.trans (HQ.out.1.mono hLw)
        clear hel hbw
        go_wp2_with (at_builtin; refine wpList_append_lies _ (by rfl) _ _ 24 (by rfl) L 57 i0 _ 8 104 Try.underlying24 hi0 hz0 hz1 hz2 (by rfl) (by decide) _ _ _ (by rfl) (r1.alloc _) ⟨wS.heap.size, 0, none⟩ 1 1 (elC x) (by rfl) (by rfl) (World.news_of_block (fr := (0, 0)) (t := 57) (cs := (elC x).toArray) (heap_alloc_new _ _)) (fun u hu => by simp [elC] at hu; rcases hu with rfl | rfl | rfl | rfl | rfl | rfl | rfl | rfl <;> rfl) (by decide) (by unfold maxLen; omega) (by omega) (by simp; omega) _ rfl ?_; intro gg4 cp4 w4 hown4 hgrow4 hat4 hlt4)
        go_roundw
        case rel => exact ⟨k + 1, by omega, by go_num, by rw [HT.out]; exact hown4, (HB1.out.alloc hL1 _).trans ⟨hgrow4.os, hgrow4.tape, hgrow4.output, hgrow4.size, fun j hj => hgrow4.block j (by simp; omega) (fun e => by have := (row_ge r1 e.symm).1; omega)⟩⟩
        case measure => simp [intOf]; omega
    · have hkn : k = n := by omega
      subst hkn
      have hkk : ¬ ((k : Int) < (k : Int)) := by omega
      go_wp2_with fail
      go_ret
      refine ⟨_, rfl, ?_, ?_⟩
      · have := HI.out.1
        rw [List.take_of_length_le (by rw [List.length_map]; have := HL.out.1; omega)] at this
        exact this
      · exact HI.out.2
end Go.Proofs.Ytpjpamdocfdibaa
