/-
  The document's Lower: its lower matrix.
-/
import Derived.Test.YtklbgibhbnijaaaLrg
namespace Go.Proofs.Ytklbgibhbnijaaa
open Fl RowKit

set_option maxRecDepth 4000 in
set_option maxHeartbeats 4000000 in
theorem r9l_any {w : World} {b p n gr go cr co : Nat} {bl cp : Nat → Nat} {M : Nat → Nat → Cw} {o : Nat → Nat} {odd ties : Bool} (hn : n ≤ 64) (h : Lr w b p n gr go cr co bl cp M o odd ties) :
    Calls Try.prog 69 #[.pointer (some ⟨p, 0, none⟩)] w fun e w' => ∃ v, e = .returned (.agg #[.int .i64 n, .int .i64 n, v]) ∧ Rw w' w.heap.size v (n * n) (ro (n * n) (flw n (lE M))) ∧ Below w.heap.size w w' := by
  obtain ⟨i0, hi, hz0, hz1, hz2⟩ := info_parts Try.infoC
  have h4 := le_4096 hn hn
  have B0 : Below w.heap.size w (w.alloc (.cells #[.int .i64 0, .int .i64 0, .slice none 0 0] 26)) := bal _ _
  have HL := hid_o h
  have HR := hid_o (h.below B0).hr
  clear h B0
  go_enter Try.func69, Try.ntmps69
  go_wp2_with (go_at_call 67; (with_reducible refine (r9size_any HR.out).mono ?_); rintro e w1 ⟨rfl, hw1⟩; subst hw1; simp only [if_true])
  clear HR
  go_loopw [4] (fun iv wr => ∃ (i t : Nat) (d : Value), i ≤ n ∧ t = i * n ∧ iv = .int .i64 i ∧ Gm w wr n t (flw n (lE M)) d) (fun iv _ => n - (intOf iv).toNat)
  case atStart => exact ⟨0, 0, _, Nat.zero_le _, by simp, rfl, gm_new _ _ _⟩
  case round =>
    obtain ⟨i, t, d, hin, ht, rfl, hg⟩ := hrel
    have HR := hid_o (HL.out.below hg.bel).hr
    have HT := hid_o ht
    have HG := hid_o hg
    clear ht hg
    by_cases hlt : i < n
    · go_wp2_with (go_at_call 67; (with_reducible refine (r9size_any HR.out).mono ?_); rintro e w1 ⟨rfl, hw1⟩; subst hw1; simp only [if_true])
      go_loopw [5, 6] (fun jv zv wr => ∃ (j t : Nat) (d : Value), j ≤ n ∧ t = i * n + j ∧ jv = .int .i64 j ∧ Gm w wr n t (flw n (lE M)) d) (fun jv _ _ => n - (intOf jv).toNat)
      case atStart => exact ⟨0, t, d, Nat.zero_le _, by simpa using HT.out, rfl, HG.out⟩
      case round =>
        clear HT HG HR
        obtain ⟨j, t, d, hjn, ht, rfl, hg⟩ := hrel
        have L2 := HL.out.below hg.bel
        have n0 := L2.v.c0
        have n1 := L2.v.c1
        have nl := L2.v.lt
        have HT := hid_o ht
        have HG := hid_o hg
        clear ht hg
        by_cases hlj : j < n
        · have d1 := L2.cell hlt
          have d2 : wr.cell? ⟨bl i, j, none⟩ = some (.complex .f64 (M i j).1 (M i j).2) := L2.cellM hlt hlj
          have q2 := HG.out.v.c2
          have ql := HG.out.v.lt
          have h1 : (i + 1) * n ≤ n * n := Nat.mul_le_mul_right _ (by omega)
          rw [Nat.succ_mul] at h1
          have ht4 : t + 1 ≤ 4096 := by rw [HT.out]; omega
          have hz : flw n (lE M) t = lF i j (M i j) := by rw [HT.out, flw_at hlj]; rfl
          clear h1 L2
          obtain ⟨z, hze⟩ : ∃ z, z = lF i j (M i j) := ⟨_, rfl⟩
          rw [← hze] at hz
          have HZ := hid_o hz
          clear hz
          by_cases hji : j < i
          · unfold lF at hze
            rw [if_pos hji] at hze
            have hne : ¬ j = i := by omega
            subst hze
            go_wp2_with (at_builtin; refine wpList_append_own _ rfl _ _ 24 rfl (w.heap.size + 2) 52 i0 (.complex .f64 0 0) 1 16 Try.underlying24 hi hz0 hz1 hz2 rfl (by decide) _ _ _ rfl (HG.out.row.alloc _) ⟨_, 0, none⟩ 1 1 [.complex .f64 (M i j).1 (M i j).2] rfl rfl ?c1 ?c2 ?c3 ?c4 ?c5 ?_)
            case c1 =>
              intro j u hj
              match j, hj with
              | 0, hj =>
                simp at hj; subst hj
                simp [Addr.add]
            case c2 => intro u hu; simp at hu; subst hu; rfl
            case c3 => unfold maxLen; omega
            case c4 => omega
            case c5 => simp; omega
            · intro v' w2 hown' hgrow _
              obtain ⟨A', C', rfl⟩ := own_form hown'
              have BB := HG.out.grown hgrow
              have G2 := hid_o (HG.out.push BB (M i j) HZ.out hown')
              have V2 := HG.out.v.later BB (by omega)
              have s2 := V2.c2
              have s5 := V2.f2
              have sl := V2.lt
              clear hown' hgrow BB V2 q2 ql d1 d2 n0 n1 nl
              go_wp2
              go_roundw
              case rel => exact ⟨j + 1, t + 1, _, by omega, by rw [HT.out]; rfl, by go_num, G2.out⟩
              case measure => simp [intOf]; omega
          by_cases hje : j = i
          · unfold lF at hze
            rw [if_neg hji, if_pos hje] at hze
            subst hze
            go_wp2_with (at_builtin; refine wpList_append_own _ rfl _ _ 24 rfl (w.heap.size + 2) 52 i0 (.complex .f64 0 0) 1 16 Try.underlying24 hi hz0 hz1 hz2 rfl (by decide) _ _ _ rfl (HG.out.row.alloc _) ⟨_, 0, none⟩ 1 1 [.complex .f64 4607182418800017408 0] rfl rfl ?c1 ?c2 ?c3 ?c4 ?c5 ?_)
            case c1 =>
              intro j u hj
              match j, hj with
              | 0, hj =>
                simp at hj; subst hj
                simp [Addr.add]
            case c2 => intro u hu; simp at hu; subst hu; rfl
            case c3 => unfold maxLen; omega
            case c4 => omega
            case c5 => simp; omega
            · intro v' w2 hown' hgrow _
              obtain ⟨A', C', rfl⟩ := own_form hown'
              have BB := HG.out.grown hgrow
              have G2 := hid_o (HG.out.push BB (4607182418800017408, 0) HZ.out hown')
              have V2 := HG.out.v.later BB (by omega)
              have s2 := V2.c2
              have s5 := V2.f2
              have sl := V2.lt
              clear hown' hgrow BB V2 q2 ql d1 d2 n0 n1 nl
              go_wp2
              go_roundw
              case rel => exact ⟨j + 1, t + 1, _, by omega, by rw [HT.out]; rfl, by go_num, G2.out⟩
              case measure => simp [intOf]; omega
          · unfold lF at hze
            rw [if_neg hji, if_neg hje] at hze
            subst hze
            go_wp2_with (at_builtin; refine wpList_append_own _ rfl _ _ 24 rfl (w.heap.size + 2) 52 i0 (.complex .f64 0 0) 1 16 Try.underlying24 hi hz0 hz1 hz2 rfl (by decide) _ _ _ rfl (HG.out.row.alloc _) ⟨_, 0, none⟩ 1 1 [.complex .f64 0 0] rfl rfl ?c1 ?c2 ?c3 ?c4 ?c5 ?_)
            case c1 =>
              intro j u hj
              match j, hj with
              | 0, hj =>
                simp at hj; subst hj
                simp [Addr.add]
            case c2 => intro u hu; simp at hu; subst hu; rfl
            case c3 => unfold maxLen; omega
            case c4 => omega
            case c5 => simp; omega
            · intro v' w2 hown' hgrow _
              obtain ⟨A', C', rfl⟩ := own_form hown'
              have BB := HG.out.grown hgrow
              have G2 := hid_o (HG.out.push BB (0, 0) HZ.out hown')
              have V2 := HG.out.v.later BB (by omega)
              have s2 := V2.c2
              have s5 := V2.f2
              have sl := V2.lt
              clear hown' hgrow BB V2 q2 ql d1 d2 n0 n1 nl
              go_wp2
              go_roundw
              case rel => exact ⟨j + 1, t + 1, _, by omega, by rw [HT.out]; rfl, by go_num, G2.out⟩
              case measure => simp [intOf]; omega
        · have e : j = n := by omega
          subst e
          go_wp2
          go_roundw
          case rel => exact ⟨i + 1, t, d, by omega, by rw [HT.out, Nat.succ_mul], by go_num, HG.out⟩
          case measure => simp [intOf]; omega
    · have e : i = n := by omega
      subst e
      obtain ⟨A', C', hd⟩ := own_form HG.out.row
      subst hd
      have q0 := HG.out.v.c0
      have q1 := HG.out.v.c1
      have q2 := HG.out.v.c2
      have ql := HG.out.v.lt
      have p0 := HG.out.r.c0
      have p1 := HG.out.r.c1
      have p2 := HG.out.r.c2
      have p3 := HG.out.r.f0
      have p4 := HG.out.r.f1
      have p5 := HG.out.r.f2
      have pl := HG.out.r.lt
      go_wp2_with (go_at_call 67; (with_reducible refine (r9size_any HR.out).mono ?_); rintro e w1 ⟨rfl, hw1⟩; subst hw1; simp only [if_true])
      obtain ⟨m0, m1, m2⟩ := HG.out.r.reads
      refine bodyPost_ret (by simp [results, Try.results69, go_sem, m0, m1, m2]; try rfl) rfl ?_
      have e2 := HT.out
      subst e2
      refine ⟨_, rfl, ⟨ro_len _ _, own_at (own_base HG.out.row (by omega)) (fun g hg => set3_block ?_)⟩, below_set3 HG.out.bel (Nat.le_refl _) _ _ _⟩
      have := own_ge HG.out.row hg
      omega
end Go.Proofs.Ytklbgibhbnijaaa
