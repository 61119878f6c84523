/-
  The document's net in memory: Order, places.
-/
import Derived.Test.YtmhplaanpbpndaaDnc
namespace Go.Proofs.Ytmhplaanpbpndaa
open Go.Maps Go.RowKit
set_option linter.unusedVariables false
set_option maxRecDepth 100000

theorem dorder {w : World} {p : Nat} {l : List Elm} (h : Dn w p l) : Calls Try.prog 24 #[.pointer (some ⟨p, 0, none⟩)] w fun e w' => e = .returned (.int .i64 (((ndR l).length + (brR l).length : Nat) : Int)) ∧ Below w.heap.size w w' := by
  have hn := dnodes h
  have hl := h.len
  have h1 := ndR_len l
  have h2 := brR_len l
  have HD : Hid (Dn w p l) := h
  obtain ⟨a, ha⟩ : ∃ a, (ndR l).length = a := ⟨_, rfl⟩
  obtain ⟨c, hc⟩ : ∃ c, (brR l).length = c := ⟨_, rfl⟩
  have HBR : Hid (∀ W, Below w.heap.size w W → Calls Try.prog 34 #[.pointer (some ⟨p, 0, none⟩)] W fun e w' => ∃ A k, e = .returned (.slice A c k) ∧ Below W.heap.size W w') := fun W hW => (dbranches (HD.out.below hW)).mono (by
    rintro e w' ⟨v', rfl, ho, hb⟩
    obtain ⟨A, k, rfl⟩ := drow_slice ho
    rw [hc]
    exact ⟨A, k, rfl, hb⟩)
  have HND : Hid (Calls Try.prog 23 #[.pointer (some ⟨p, 0, none⟩)] w fun e w' => ∃ A k, e = .returned (.slice A a k) ∧ Below w.heap.size w w') := hn.mono (by
    rintro e w' ⟨v', rfl, ho, hb⟩
    obtain ⟨A, k, rfl⟩ := drow_slice ho
    rw [ha]
    exact ⟨A, k, rfl, hb⟩)
  rw [ha] at h1 ⊢
  rw [hc] at h2 ⊢
  have hw : wrap64 ((a : Int) + (c : Int)) = ((a + c : Nat) : Int) := by unfold wrap64; omega
  clear hn h ha hc
  go_enter Try.func24, Try.ntmps24
  go_wp2_with (first
    | (go_at_call 23; (with_reducible refine HND.out.mono ?_); rintro e w1 ⟨A, k, rfl, hb1⟩; (have HB1 : Hid (Below w.heap.size w w1) := hb1); clear hb1)
    | (go_at_call 34; (with_reducible refine (HBR.out _ HB1.out).mono ?_); rintro e w2 ⟨A2, k2, rfl, hb2⟩; (have HB2 : Hid (Below w.heap.size w w2) := HB1.out.trans (hb2.mono HB1.out.size)); clear hb2))
  go_ret
  exact ⟨by first | rfl | (simp), HB2.out⟩
theorem posL_step {xs : List (List UInt8)} {s y : List UInt8} {j : Nat} (h : s ∉ xs.take j) (hy : xs[j]? = some y) (hys : y = s) : posL xs s = j ∧ s ∈ xs := by
  obtain ⟨hj, hv⟩ := List.getElem?_eq_some_iff.1 hy
  have hm : s ∈ xs := by rw [← hys, ← hv]; exact List.getElem_mem hj
  refine ⟨?_, hm⟩
  unfold posL
  rw [if_pos hm]
  have e : xs = xs.take j ++ s :: xs.drop (j + 1) := by
    rw [← hys, ← hv]
    exact (List.take_append_drop j xs).symm.trans (by rw [List.drop_eq_getElem_cons hj])
  have hl : (xs.take j).length = j := by rw [List.length_take]; omega
  rw [e, List.idxOf_append, if_neg h, List.idxOf_cons_self, hl, Nat.zero_add]
set_option maxHeartbeats 4000000 in
theorem dplace (w : World) (base : Nat) (v : Value) (xs : List (List UInt8)) (t : ByteArray) (hr : w.ownsRow base 9 1 v xs.length (xs.map sv)) (hx : xs.length ≤ 100000) :
    Calls Try.prog 80 #[v, .string t] w fun e w' => e = .returned (.tuple #[.int .i64 (posL xs (bl t)), .bool (decide (bl t ∈ xs))]) ∧ w' = w := by
  obtain ⟨A, c, hv⟩ := drow_slice hr
  subst hv
  have HR : Hid _ := hr
  obtain ⟨m, hm⟩ : ∃ m, xs.length = m := ⟨_, rfl⟩
  have HM : Hid (xs.length = m) := hm
  rw [hm] at hx ⊢
  obtain ⟨s, hs⟩ : ∃ s, bl t = s := ⟨_, rfl⟩
  have HS : Hid (t = ⟨s.toArray⟩) := by show _ = _; rw [← hs]
  rw [hs, show t = ⟨s.toArray⟩ from HS.out]
  have HI0 : Hid (s ∉ xs.take 0) := by show s ∉ _; simp
  clear hm hr hs
  go_enter Try.func80, Try.ntmps80
  go_wp2_with fail
  go_loopw [6] (fun jv wr => ∃ (j : Nat), j ≤ m ∧ jv = .int .i64 j ∧ wr = w ∧ Hid (s ∉ xs.take j)) (fun jv _ => m - (intOf jv).toNat)
  case atStart => first | exact ⟨0, Nat.zero_le _, rfl, rfl, HI0⟩ | exact ⟨0, Nat.zero_le _, rfl, HI0⟩ | exact ⟨0, Nat.zero_le _, rfl, trivial, HI0⟩
  case round =>
    obtain ⟨j, hjm, rfl, hwr, HI⟩ := hrel
    subst hwr
    by_cases hjl : j < m
    · have hpj : (j : Int) < (m : Int) := by omega
      obtain ⟨y, hy⟩ : ∃ y, xs[j]? = some y := ⟨_, List.getElem?_eq_getElem (by have := HM.out; omega)⟩
      obtain ⟨gy, capy, hvy, cy⟩ := row_cellS HR.out hy
      rw [HM.out] at hvy
      cases hvy
      have HY : Hid (xs[j]? = some y) := hy
      clear hy
      cases hys : (y == s)
      · go_wp2_with fail
        go_roundw
        case rel =>
          have HI1 : Hid (s ∉ xs.take (j + 1)) := by
            show s ∉ _
            rw [List.take_add_one, HY.out]
            intro q
            rcases List.mem_append.1 q with q | q
            · exact HI.out q
            · simp at q
              rw [q] at hys
              simp at hys
          first | exact ⟨j + 1, by omega, by go_num, rfl, HI1⟩ | exact ⟨j + 1, by omega, by go_num, HI1⟩ | exact ⟨j + 1, by omega, by go_num, trivial, HI1⟩
        case measure => simp [intOf]; omega
      · obtain ⟨e1, e2⟩ := posL_step HI.out HY.out (by simpa using hys)
        have HE : Hid (posL xs s = j ∧ decide (s ∈ xs) = true) := ⟨e1, decide_eq_true e2⟩
        clear e1 e2
        go_wp2_with fail
        go_ret2
        rw [HE.out.1, HE.out.2]
        exact ⟨rfl, rfl⟩
    · have hjm2 : j = m := by omega
      subst hjm2
      have hnl : ¬ ((j : Int) < (j : Int)) := by omega
      have hn : s ∉ xs := by
        have := HI.out
        rw [List.take_of_length_le (by have := HM.out; omega)] at this
        exact this
      have HE : Hid (posL xs s = 0 ∧ decide (s ∈ xs) = false) := ⟨by unfold posL; rw [if_neg hn], decide_eq_false hn⟩
      clear hn
      go_wp2_with fail
      go_ret2
      rw [HE.out.1, HE.out.2]
      exact ⟨rfl, rfl⟩
theorem dplaceN {w : World} {p : Nat} {l : List Elm} (h : Dn w p l) (t : ByteArray) : Calls Try.prog 79 #[.pointer (some ⟨p, 0, none⟩), .string t] w fun e w' => e = .returned (.tuple #[.int .i64 (posL (ndR l) (bl t)), .bool (decide (bl t ∈ ndR l))]) ∧ Below w.heap.size w w' := by
  have hn := dnodes h
  have hl : (ndR l).length ≤ 100000 := by have := ndR_len l; have := h.len; omega
  have HP : Hid (∀ (W : World) (base : Nat) (v : Value), W.ownsRow base 9 1 v (ndR l).length ((ndR l).map sv) → Calls Try.prog 80 #[v, .string t] W fun e w' => e = .returned (.tuple #[.int .i64 (posL (ndR l) (bl t)), .bool (decide (bl t ∈ ndR l))]) ∧ w' = W) := fun W base v hr => dplace W base v (ndR l) t hr hl
  clear h
  go_enter Try.func79, Try.ntmps79
  go_wp2_with (first
    | (go_at_call 23; (with_reducible refine hn.mono ?_); rintro e w1 ⟨v1, rfl, ho1, hb1⟩; (have H1 : Hid _ := ho1); (have HB1 : Hid (Below w.heap.size w w1) := hb1); clear hb1)
    | (go_at_call 80; (with_reducible refine (HP.out _ _ _ ho1).mono ?_); rintro e w2 ⟨rfl, hw2⟩; subst w2))
  go_ret2
  exact ⟨rfl, HB1.out⟩
theorem dbranchN {w : World} {p : Nat} {l : List Elm} (h : Dn w p l) (t : ByteArray) : Calls Try.prog 60 #[.pointer (some ⟨p, 0, none⟩), .string t] w fun e w' => e = .returned (.tuple #[.int .i64 (posL (brR l) (bl t)), .bool (decide (bl t ∈ brR l))]) ∧ Below w.heap.size w w' := by
  have hn := dbranches h
  have hl : (brR l).length ≤ 100000 := by have := brR_len l; have := h.len; omega
  have HP : Hid (∀ (W : World) (base : Nat) (v : Value), W.ownsRow base 9 1 v (brR l).length ((brR l).map sv) → Calls Try.prog 80 #[v, .string t] W fun e w' => e = .returned (.tuple #[.int .i64 (posL (brR l) (bl t)), .bool (decide (bl t ∈ brR l))]) ∧ w' = W) := fun W base v hr => dplace W base v (brR l) t hr hl
  clear h
  go_enter Try.func60, Try.ntmps60
  go_wp2_with (first
    | (go_at_call 34; (with_reducible refine hn.mono ?_); rintro e w1 ⟨v1, rfl, ho1, hb1⟩; (have HB1 : Hid (Below w.heap.size w w1) := hb1); clear hb1)
    | (go_at_call 80; (with_reducible refine (HP.out _ _ _ ho1).mono ?_); rintro e w2 ⟨rfl, hw2⟩; subst w2))
  go_ret2
  exact ⟨rfl, HB1.out⟩
end Go.Proofs.Ytmhplaanpbpndaa
