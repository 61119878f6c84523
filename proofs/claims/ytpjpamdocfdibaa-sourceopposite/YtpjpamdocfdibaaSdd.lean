/-
  The document's Find; its right side of a port; what is told of no net.
-/
import Derived.Test.YtpjpamdocfdibaaSds
import Derived.Test.YtpjpamdocfdibaaSdr
namespace Go.Proofs.Ytpjpamdocfdibaa
open Fl Go.Maps RowKit Joins Deep
set_option linter.unusedVariables false
set_option maxRecDepth 20000

theorem fnd_step {l : List Elm} {i : Nat} {x : Elm} (hx : l[i]? = some x) (t : List UInt8) : fnd (l.drop i) t = if bl x.n = t then some x else fnd (l.drop (i + 1)) t := by
  obtain ⟨h1, h2⟩ := List.getElem?_eq_some_iff.1 hx
  rw [List.drop_eq_getElem_cons h1, h2]
  unfold fnd
  rw [List.find?_cons]
  by_cases e : bl x.n = t
  · rw [beq_iff_eq.2 e, if_pos e]
  · rw [beq_eq_false_iff_ne.2 e, if_neg e]
set_option maxHeartbeats 4000000 in
/-- what Find of the document's net tells -/
theorem dfind_any {w : World} {p : Nat} {l : List Elm} (h : Dn w p l) (s : ByteArray) : Calls Try.prog 71 #[.pointer (some ⟨p, 0, none⟩), .string s] w fun e w' => e = .returned (.tuple #[elV ((fnd l (bl s)).getD elZ), .bool (fnd l (bl s)).isSome]) ∧ Below w.heap.size w w' := by
  have HNT := hidS (h.below (bal w (.cells #[.int .u8 0, .string ⟨#[]⟩, .string ⟨#[]⟩, .string ⟨#[]⟩, .string ⟨#[]⟩, .string ⟨#[]⟩, .float .f64 0, .int .i64 0] 57)))
  obtain ⟨wF, hwF⟩ : ∃ wF, w.alloc (.cells #[.int .u8 0, .string ⟨#[]⟩, .string ⟨#[]⟩, .string ⟨#[]⟩, .string ⟨#[]⟩, .string ⟨#[]⟩, .float .f64 0, .int .i64 0] 57) = wF := ⟨_, rfl⟩
  obtain ⟨F, hF⟩ : ∃ F, w.heap.size = F := ⟨_, rfl⟩
  have HF : Hid (wF.heap[F]? = some (.cells #[.int .u8 0, .string ⟨#[]⟩, .string ⟨#[]⟩, .string ⟨#[]⟩, .string ⟨#[]⟩, .string ⟨#[]⟩, .float .f64 0, .int .i64 0] 57 (0, 0)) ∧ wF.heap.size = F + 1 ∧ Below F w wF ∧ w.heap.size = F) := by
    rw [← hwF, ← hF]
    exact ⟨heap_alloc_new w _, by simp, (Below.refl _ w).alloc (Nat.le_refl _) _, rfl⟩
  rw [hwF] at HNT
  go_enter Try.func71, Try.ntmps71
  go_wp2_with fail
  clear hwF hF h
  refine (delements HNT.out).mono ?_
  rintro e3 w3 ⟨v3, rfl, ho3, hb3⟩
  obtain ⟨A3, cA, rfl⟩ := drow_slice ho3
  have HR := hidS (And.intro ho3 hb3)
  have HLN := hidS HNT.out.len
  obtain ⟨n, hn⟩ : ∃ n, l.length = n := ⟨_, rfl⟩
  have HN := hidS hn
  rw [hn]
  have hn9 : n ≤ 256 := by have := HLN.out; omega
  clear hn ho3 hb3
  go_wp2_with fail
  go_loop [7] (fun iv => ∃ (i : Nat), i ≤ n ∧ iv = .int .i64 i ∧ Hid (fnd (l.drop i) (bl s) = fnd l (bl s))) (fun iv => n - (intOf iv).toNat)
  case atStart => exact ⟨0, Nat.zero_le _, rfl, rfl⟩
  case round =>
    obtain ⟨i, hle, rfl, HI⟩ := hrel
    by_cases hlt : i < n
    · have hli : (i : Int) < (n : Int) := by omega
      obtain ⟨x, hx⟩ : ∃ x, l[i]? = some x := ⟨_, List.getElem?_eq_getElem (by have := HN.out; omega)⟩
      have hel := HR.out.1
      rw [HN.out] at hel
      obtain ⟨ga, ca, he, hE⟩ := de8_row hel HN.out hx
      clear hel
      injection he with he1 he2 he3
      subst he1 he3
      clear he2
      obtain ⟨c0, c1, c2, c3, c4, c5, c6, c7⟩ := hE
      have HX := hidS hx
      clear hx
      have hF3 : w3.heap[F]? = some (.cells #[.int .u8 0, .string ⟨#[]⟩, .string ⟨#[]⟩, .string ⟨#[]⟩, .string ⟨#[]⟩, .string ⟨#[]⟩, .float .f64 0, .int .i64 0] 57 (0, 0)) := by rw [HR.out.2.block F (by have := HF.out.2.1; omega)]; exact HF.out.1
      cases hys : (x.n.toList == s.toList)
      · have HI1 : Hid (fnd (l.drop (i + 1)) (bl s) = fnd l (bl s)) := by
          show _ = _
          rw [← HI.out, fnd_step HX.out, if_neg]
          intro q
          rw [ByteArray.toList_eq, ByteArray.toList_eq] at hys
          rw [beq_iff_eq.2 q] at hys
          cases hys
        go_wp2_with fail
        go_round
        case rel => exact ⟨i + 1, by omega, by go_num, HI1⟩
        case measure => simp [intOf]; omega
      · have HE : Hid (fnd l (bl s) = some x) := by
          show _ = _
          rw [← HI.out, fnd_step HX.out, if_pos]
          rw [ByteArray.toList_eq, ByteArray.toList_eq] at hys
          exact beq_iff_eq.1 hys
        obtain ⟨⟨o0, o1, o2, o3, o4, o5, o6, o7⟩, o8, o9, oa, ob, oc, od, oe, og⟩ := eight hF3
        obtain ⟨⟨r0, r1, r2, r3, r4, r5, r6, r7⟩, z8⟩ := eight (st8_blk hF3 (.int .u8 (x.k : Int)) (.string x.n) (.string x.a) (.string x.b) (.string x.c) (.string x.d) (.float .f64 x.v) (.int .i64 x.ph))
        have hfw : Below F w w3 := HF.out.2.2.1.trans (HR.out.2.mono (by have := HF.out.2.1; omega))
        have HB := hidS (st8_bel hfw (.int .u8 (x.k : Int)) (.string x.n) (.string x.a) (.string x.b) (.string x.c) (.string x.d) (.float .f64 x.v) (.int .i64 x.ph))
        unfold st8 at r0 r1 r2 r3 r4 r5 r6 r7 HB
        clear z8 hfw
        go_wp2_with fail
        (try simp only [Exit.inBlock, Exit.then])
        refine bodyPost_ret (by simp [results, Try.results71, go_sem, r0, r1, r2, r3, r4, r5, r6, r7]; try rfl) rfl ?_
        rw [HE.out, HF.out.2.2.2]
        exact ⟨rfl, HB.out⟩
    · have ei : i = n := by omega
      subst ei
      have hnlt : ¬ ((i : Int) < (i : Int)) := by omega
      have HE : Hid (fnd l (bl s) = none) := by
        show _ = _
        rw [← HI.out, List.drop_eq_nil_of_le (by have := HN.out; omega)]; rfl
      have hF3 : w3.heap[F]? = some (.cells #[.int .u8 0, .string ⟨#[]⟩, .string ⟨#[]⟩, .string ⟨#[]⟩, .string ⟨#[]⟩, .string ⟨#[]⟩, .float .f64 0, .int .i64 0] 57 (0, 0)) := by rw [HR.out.2.block F (by have := HF.out.2.1; omega)]; exact HF.out.1
      obtain ⟨⟨o0, o1, o2, o3, o4, o5, o6, o7⟩, o8, o9, oa, ob, oc, od, oe, og⟩ := eight hF3
      obtain ⟨⟨r0, r1, r2, r3, r4, r5, r6, r7⟩, z8⟩ := eight (st8_blk hF3 (.int .u8 0) (.string ⟨#[]⟩) (.string ⟨#[]⟩) (.string ⟨#[]⟩) (.string ⟨#[]⟩) (.string ⟨#[]⟩) (.float .f64 0) (.int .i64 0))
      have hfw : Below F w w3 := HF.out.2.2.1.trans (HR.out.2.mono (by have := HF.out.2.1; omega))
      have HB := hidS (st8_bel hfw (.int .u8 0) (.string ⟨#[]⟩) (.string ⟨#[]⟩) (.string ⟨#[]⟩) (.string ⟨#[]⟩) (.string ⟨#[]⟩) (.float .f64 0) (.int .i64 0))
      unfold st8 at r0 r1 r2 r3 r4 r5 r6 r7 HB
      clear z8 hfw
      go_wp2_with fail
      (try simp only [Exit.inBlock, Exit.then])
      refine bodyPost_ret (by simp [results, Try.results71, go_sem, r0, r1, r2, r3, r4, r5, r6, r7]; try rfl) rfl ?_
      rw [HE.out, HF.out.2.2.2]
      exact ⟨rfl, HB.out⟩
end Go.Proofs.Ytpjpamdocfdibaa
