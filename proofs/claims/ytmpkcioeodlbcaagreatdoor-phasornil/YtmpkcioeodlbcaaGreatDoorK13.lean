/-
  Kept of Npb.
-/
import Derived.Test.YtmpkcioeodlbcaaGreatDoorK10
import Derived.Test.YtmpkcioeodlbcaaGreatDoorK11
import Derived.Test.YtmpkcioeodlbcaaGreatDoorK12
namespace Go.Proofs.YtmpkcioeodlbcaaGreatDoor
open Go.Maps Go.RowKit Joins Deep
set_option linter.unusedVariables false
set_option maxRecDepth 100000
/-- the library's variables on the road -/
structure Wow (w : World) : Prop where
  mln : Mln w
  syn : ∃ ev, w.cell? ⟨2, 0, none⟩ = some ev ∧ (ev = .nilIface ∨ ∃ te pe, ev = .iface te pe)
  rng : ∃ ev, w.cell? ⟨3, 0, none⟩ = some ev ∧ (ev = .nilIface ∨ ∃ te pe, ev = .iface te pe)
  pw : Pw w
theorem Wow.kept {w w' : World} (h : Wow w) (hb : Below w.heap.size w w') : Wow w' := by
  obtain ⟨e1, h1, h2⟩ := h.syn
  obtain ⟨e2, h3, h4⟩ := h.rng
  exact ⟨h.mln.kept hb, ⟨e1, (hb.cell (World.block_lt_of_cell? w _ h1)).trans h1, h2⟩, ⟨e2, (hb.cell (World.block_lt_of_cell? w _ h3)).trans h3, h4⟩, h.pw.kept hb⟩
/-- what a text says as a number of steps, and whether it may stand -/
def phI (s : ByteArray) : Int := match Go.Lib.atoiAll s.data.toList with | .ok v => v | _ => 0
def phO (s : ByteArray) : Bool := match Go.Lib.atoiAll s.data.toList with | .ok v => Go.Lib.itoa v == s.data.toList | _ => false
theorem below_bytes {w w' : World} {t : TypeId} (h : w' = w ∨ ∃ u, w' = Go.Lib.bytesWorld w t u) : Below w.heap.size w w' := by
  rcases h with rfl | ⟨u, rfl⟩
  · exact Below.refl _ _
  · exact Go.Lib.bytesWorld_below _ _ _
theorem ret_ib {a b : Int} {c d : Bool} (h : a = b) (h2 : c = d) : Ending.returned (.tuple #[.int .i64 a, .bool c]) = .returned (.tuple #[.int .i64 b, .bool d]) := by rw [h, h2]
set_option maxHeartbeats 2000000 in
theorem phase_any (s : ByteArray) (w : World) (hw : Wow w) (hs : s.size ≤ 65536) :
    Calls Tryz.prog 195 #[.string s] w fun e w' => ∃ x, e = .returned (.tuple #[.int .i64 x, .bool (phO s)]) ∧ (phO s = true → x = phI s) ∧ Below w.heap.size w w' := by
  cases hA : Go.Lib.atoiAll s.data.toList with
  | ok v =>
    have hb := Go.Lib.atoiAll_bounds hA
    have h1 : Hid (phI s = v ∧ phO s = (Go.Lib.itoa v == s.data.toList)) := by
      refine ⟨?_, ?_⟩
      · unfold phI; rw [hA]
      · unfold phO; rw [hA]
    have hC : Hid (∀ W : World, Calls Tryz.prog 222 #[.string s] W fun e w' => e = .returned (.tuple #[.int .i64 v, .nilIface]) ∧ Below W.heap.size W w') := fun W => (Any.strconv_Atoi_ok saC172 s (by omega) v hA W).mono fun e w' h => ⟨h.1, below_bytes h.2⟩
    have hI : Hid (∀ W : World, Wow W → Calls Tryz.prog 196 #[.int .i64 v] W fun e w' => e = .returned (.string ⟨(Go.Lib.itoa v).toArray⟩) ∧ Below W.heap.size W w') := fun W h => itoa_any v hb.1 (by omega) W h.pw
    have HW : Hid (Wow w) := hw
    clear hA hb hw
    go_enter Tryz.func195, Tryz.ntmps195
    go_wp2_with (first
      | (go_at_call 222; (with_reducible refine (hC.out _).mono ?_); rintro e w1 ⟨rfl, hb⟩; (have B1 : Hid (Below w.heap.size w w1) := hb); clear hb)
      | (go_at_call 196; (with_reducible refine (hI.out _ (HW.out.kept B1.out)).mono ?_); rintro e w2 ⟨rfl, hb⟩; (have B2 : Hid (Below w.heap.size w w2) := B1.out.trans (hb.mono B1.out.size)); clear hb))
    go_ret2
    exact ⟨v, ret_ib rfl (by rw [h1.out.2, ByteArray.toList_eq]), fun _ => h1.out.1.symm, B2.out⟩
  | «syntax» =>
    obtain ⟨ev, he1, he2⟩ := hw.syn
    have h1 : phO s = false := by unfold phO; rw [hA]
    have hC : Hid (Calls Tryz.prog 222 #[.string s] w fun e w' => ∃ t N, e = .returned (.tuple #[.int .i64 0, .iface t (.pointer (some ⟨N, 0, none⟩))]) ∧ Below w.heap.size w w') := (Any.strconv_Atoi_syntax saC172 s (by omega) hA ev w he1 he2).mono fun e w' ⟨N, h, _, _, hb⟩ => ⟨_, N, h, hb⟩
    rw [h1]
    clear hA he1 he2 hw h1
    go_enter Tryz.func195, Tryz.ntmps195
    go_wp2_with (first
      | (go_at_call 222; (with_reducible refine (hC.out).mono ?_); rintro e w1 ⟨t, N, rfl, hb⟩; (have B1 : Hid (Below w.heap.size w w1) := hb); clear hb))
    go_ret2
    exact ⟨_, rfl, (fun h => by cases h), B1.out⟩
  | range =>
    obtain ⟨ev, he1, he2⟩ := hw.rng
    have h1 : phO s = false := by unfold phO; rw [hA]
    have hC : Hid (Calls Tryz.prog 222 #[.string s] w fun e w' => ∃ t N x, e = .returned (.tuple #[.int .i64 x, .iface t (.pointer (some ⟨N, 0, none⟩))]) ∧ Below w.heap.size w w') := (Any.strconv_Atoi_range saC172 s (by omega) hA ev w he1 he2).mono fun e w' ⟨N, h, _, _, hb⟩ => ⟨_, N, _, h, hb⟩
    rw [h1]
    clear hA he1 he2 hw h1
    go_enter Tryz.func195, Tryz.ntmps195
    go_wp2_with (first
      | (go_at_call 222; (with_reducible refine (hC.out).mono ?_); rintro e w1 ⟨t, N, x, rfl, hb⟩; (have B1 : Hid (Below w.heap.size w w1) := hb); clear hb))
    go_ret2
    exact ⟨_, rfl, (fun h => by cases h), B1.out⟩
end Go.Proofs.YtmpkcioeodlbcaaGreatDoor
