/-
  Kept of Tkb.
-/
import Derived.Test.YtmpkcioeodlbcaaGreatDoorK02
import Derived.Laws.OwnMore
import Derived.Deep.AppendLies
import Derived.Deep.RegionHeldLaw
import Derived.Deep.QuietTactic
import Derived.Lib.SmallJoins
namespace Go.Proofs.YtmpkcioeodlbcaaGreatDoor
open RowKit Joins
set_option linter.unusedVariables false
theorem Tryz.infoTok : (Tryz.prog.info? 225).map (fun i => (i.zero, i.size, i.bytes)) = some (some (.agg #[.string ByteArray.empty, .int .i64 0, .int .i64 0]), 3, 32) := by kernel_rfl
/-- tokens as cells -/
def tcs : List Tok → List Value
  | [] => []
  | p :: r => .string p.1 :: .int .i64 p.2.1 :: .int .i64 p.2.2 :: tcs r
theorem tcs_app (a b : List Tok) : tcs (a ++ b) = tcs a ++ tcs b := by
  induction a with
  | nil => rfl
  | cons p r ih => show _ :: _ :: _ :: tcs (r ++ b) = _; rw [ih]; rfl
theorem tcs_len (a : List Tok) : (tcs a).length = a.length * 3 := by
  induction a with
  | nil => rfl
  | cons p r ih => show (tcs r).length + 3 = (r.length + 1) * 3; rw [ih]; omega
theorem tcs_get {a : List Tok} : ∀ {k : Nat} {p : Tok}, a[k]? = some p → (tcs a)[k * 3]? = some (.string p.1) ∧ (tcs a)[k * 3 + 1]? = some (.int .i64 p.2.1) ∧ (tcs a)[k * 3 + 2]? = some (.int .i64 p.2.2) := by
  induction a with
  | nil => intro k p h; simp at h
  | cons q r ih =>
    intro k p h
    cases k with
    | zero => simp at h; subst h; exact ⟨rfl, rfl, rfl⟩
    | succ k =>
      have := ih (k := k) (p := p) (by simpa using h)
      exact ⟨by rw [show (k + 1) * 3 = k * 3 + 3 by omega]; exact this.1, by rw [show (k + 1) * 3 + 1 = k * 3 + 1 + 3 by omega]; exact this.2.1, by rw [show (k + 1) * 3 + 2 = k * 3 + 2 + 3 by omega]; exact this.2.2⟩
/-- the words so far (the newest first), as tokens of line n -/
def wtk (t : ByteArray) (n : Nat) (L : List (Nat × Nat)) : List Tok := L.reverse.map fun p => (t.extract p.1 p.2, (n : Int), (p.1 : Int))
theorem wtk_cons (t : ByteArray) (n : Nat) (p : Nat × Nat) (L : List (Nat × Nat)) : wtk t n (p :: L) = wtk t n L ++ [(t.extract p.1 p.2, (n : Int), (p.1 : Int))] := by
  unfold wtk; simp
theorem wtk_len (t : ByteArray) (n : Nat) (L : List (Nat × Nat)) : (wtk t n L).length = L.length := by unfold wtk; simp
theorem tkl_wtk (t : ByteArray) (n : Nat) : tkl n t = wtk t n (scn t t.size).2 := rfl

theorem sub_run (t : ByteArray) (a b : Nat) (B : Int) (hB : B = (b : Int)) (h1 : a ≤ b) (h2 : b ≤ t.size) : ∀ w : World, (Instr.slice 9 (.string t) (some (.int .i64 a)) (some (.int .i64 B)) none).run Tryz.prog w = .ok (.string (t.extract a b)) w := by
  intro w
  subst hB
  rw [run_slice_string (P := Tryz.prog) w 9 t .i64 .i64 a b Tryz.underlying9 (by omega) (by omega) (by omega)]
  simp
/-- nothing but the row itself, and new memory -/
theorem grown_set {w : World} {g j : Nat} {u : Value} : w.grownBy (w.setCell ⟨g, j, none⟩ u) (some g) :=
  ⟨rfl, rfl, rfl, by simp [World.setCell], fun k _ hk => Below.heap_setCell _ _ _ _ (fun e => hk (by simp [e]))⟩

theorem grown_al {w w2 : World} {o : Obj} {row : Option Nat} (h : (w.alloc o).drew.grownBy w2 row) : w.grownBy w2 row :=
  ⟨h.os, h.tape, h.output, Nat.le_trans (by simp) h.size, fun k hk hr => (h.block k (by simp; omega) hr).trans (Deep.blk_alloc_lt _ _ _ hk)⟩
theorem ob_or {v : Value} {g cap n H B : Nat} (h : v.ownBlock = some g ∨ g = H) (hH : B ≤ H) : (Value.slice (some ⟨g, 0, none⟩) n cap).ownBlock = v.ownBlock ∨ ∃ q, (Value.slice (some ⟨g, 0, none⟩) n cap).ownBlock = some q ∧ B ≤ q := by
  rcases h with h | h
  · exact .inl h.symm
  · exact .inr ⟨g, rfl, by omega⟩

set_option maxHeartbeats 4000000 in
set_option maxRecDepth 100000 in
/-- a word begins -/
theorem lay_new (w : World) (base : Nat) (v : Value) (t : ByteArray) (n i : Nat) (L : List (Nat × Nat)) (hb : base ≤ w.heap.size) (hn : n ≤ 65536) (hi : i < t.size) (ht : t.size ≤ 65536)
    (hwf : Wfw i L) (hL : ∀ a b r, L = (a, b) :: r → b < i) (hown : w.ownsRow base 225 3 v L.length (tcs (wtk t n L))) :
    Calls Tryz.prog 146 #[v, .string t, .int .i64 n, .int .i64 i] w fun e w' => ∃ v', e = .returned (.tuple #[v', .bool true]) ∧
      w'.ownsRow base 225 3 v' (L.length + 1) (tcs (wtk t n ((i, i + 1) :: L))) ∧ w.grownBy w' v.ownBlock ∧ (v'.ownBlock = v.ownBlock ∨ ∃ g, v'.ownBlock = some g ∧ w.heap.size ≤ g) := by
  have hlen := hwf.len
  obtain ⟨i0, hi0, hz0, hz1, hz2⟩ := info_parts Tryz.infoTok
  have e1 : tcs (wtk t n ((i, i + 1) :: L)) = tcs (wtk t n L) ++ [.string (t.extract i (i + 1)), .int .i64 n, .int .i64 i] := by rw [wtk_cons, tcs_app]; rfl
  rw [e1]
  rcases L with _ | ⟨⟨a, b⟩, r⟩
  · obtain ⟨A, cap, rfl⟩ : ∃ A cap, v = .slice A 0 cap := by
      rcases ownsRow_forms hown with ⟨rfl, _⟩ | ⟨g, cap, rfl⟩
      · exact ⟨_, _, rfl⟩
      · exact ⟨_, _, rfl⟩
    have hown0 : w.ownsRow base 225 3 (.slice A 0 cap) 0 [] := hown
    have hsl := sub_run t i (i + 1) ((i : Int) + 1) (by omega) (by omega) (by omega)
    go_enter Tryz.func146, Tryz.ntmps146
    go_wp2_with fail
    go_region
    go_wp2_with (at_builtin; refine wpList_append_lies _ (by rfl) _ _ 161 (by rfl) base 225 i0 (.agg #[.string ByteArray.empty, .int .i64 0, .int .i64 0]) 3 32 Tryz.underlying161 hi0 hz0 hz1 hz2 (by rfl) (by decide) _ _ _ (by rfl) (hown0.alloc _) ⟨_, 0, none⟩ 1 1 [.string (t.extract i (i + 1)), .int .i64 n, .int .i64 i] (by rfl) (by rfl) ?c1 ?c2 (by decide) ?c3 ?c4 ?c5 _ rfl ?next)
    case c1 => exact World.news_of_block (fr := (0, 0)) (t := 225) (cs := #[.string (t.extract i (i + 1)), .int .i64 n, .int .i64 i]) (heap_alloc_new _ _)
    case c2 => intro u hu; simp at hu; rcases hu with rfl | rfl | rfl <;> rfl
    case c3 => unfold maxLen; omega
    case c4 => omega
    case c5 => simp; omega
    case next =>
      intro g2 cap2 w2 hown2 hgrow hat hlt
      go_wp2_with fail
      go_ret2
      exact ⟨_, rfl, hown2, grown_al hgrow, ob_or hat (by simp)⟩
  · have hbi : b < i := hL a b r rfl
    simp only [List.length_cons] at hlen
    obtain ⟨g, cap, rfl, hgb, hglt⟩ := hown.form (by simp)
    have hown0 : w.ownsRow base 225 3 (.slice (some ⟨g, 0, none⟩) (r.length + 1) cap) (r.length + 1) (tcs (wtk t n ((a, b) :: r))) := hown
    have hgt : (wtk t n ((a, b) :: r))[r.length]? = some (t.extract a b, (n : Int), (a : Int)) := by
      rw [wtk_cons, List.getElem?_append_right (by rw [wtk_len]; omega), wtk_len]; simp
    obtain ⟨k0, k1, k2⟩ := tcs_get hgt
    rw [← hown0.cellAt _ (by omega)] at k0 k2
    have hwf1 := hwf.1
    have hwf2 := hwf.2.1
    have hsz : (t.extract a b).size = b - a := ex_size (by omega)
    have hsl := sub_run t i (i + 1) ((i : Int) + 1) (by omega) (by omega) (by omega)
    show Calls Tryz.prog 146 #[.slice (some ⟨g, 0, none⟩) (r.length + 1) cap, .string t, .int .i64 n, .int .i64 i] w fun e w' => ∃ v', e = .returned (.tuple #[v', .bool true]) ∧
      w'.ownsRow base 225 3 v' (r.length + 1 + 1) _ ∧ w.grownBy w' (Value.slice (some ⟨g, 0, none⟩) (r.length + 1) cap).ownBlock ∧ (v'.ownBlock = (Value.slice (some ⟨g, 0, none⟩) (r.length + 1) cap).ownBlock ∨ ∃ g, v'.ownBlock = some g ∧ w.heap.size ≤ g)
    have HO : Hid (w.ownsRow base 225 3 (.slice (some ⟨g, 0, none⟩) (r.length + 1) cap) (r.length + 1) (tcs (wtk t n ((a, b) :: r)))) := hown0
    clear hown hown0 hgt k1 e1 hwf hL
    generalize tcs (wtk t n ((a, b) :: r)) = XS at HO ⊢
    generalize r.length = m at HO k0 k2 hlen ⊢
    have hneg : decide ((m : Int) < 0) = false := by simp
    have hwr : IntKind.i64.wrap ((a : Int) + ((b - a : Nat) : Int)) = (b : Int) := by
      rw [show (a : Int) + ((b - a : Nat) : Int) = (b : Int) by omega, IntKind.wrap_i64]; omega
    have hix : (m : Int) < (m : Int) + 1 := by omega
    have hbi2 : decide ((b : Int) < (i : Int)) = true := by simp; omega
    go_enter Tryz.func146, Tryz.ntmps146
    go_wp2_with fail
    go_region_held_law (fun w' => w'.cell? ⟨g, m * 3, none⟩ = some (.string (t.extract a b)) ∧ w'.cell? ⟨g, m * 3 + 2, none⟩ = some (.int .i64 a)) (go_keep) (fail)
    go_wp2_with (at_builtin; refine wpList_append_lies _ (by rfl) _ _ 161 (by rfl) base 225 i0 (.agg #[.string ByteArray.empty, .int .i64 0, .int .i64 0]) 3 32 Tryz.underlying161 hi0 hz0 hz1 hz2 (by rfl) (by decide) _ _ _ (by rfl) (HO.out.alloc _) ⟨_, 0, none⟩ 1 1 [.string (t.extract i (i + 1)), .int .i64 n, .int .i64 i] (by rfl) (by rfl) ?c1 ?c2 (by decide) ?c3 ?c4 ?c5 _ rfl ?next)
    case c1 => exact World.news_of_block (fr := (0, 0)) (t := 225) (cs := #[.string (t.extract i (i + 1)), .int .i64 n, .int .i64 i]) (heap_alloc_new _ _)
    case c2 => intro u hu; simp at hu; rcases hu with rfl | rfl | rfl <;> rfl
    case c3 => unfold maxLen; omega
    case c4 => omega
    case c5 => simp; omega
    case next =>
      intro g2 cap2 w2 hown2 hgrow hat hlt
      go_wp2_with fail
      go_ret2
      exact ⟨_, rfl, hown2, grown_al hgrow, ob_or hat (by simp)⟩

set_option maxHeartbeats 4000000 in
set_option maxRecDepth 100000 in
/-- the last word goes on -/
theorem lay_ext (w : World) (base : Nat) (v : Value) (t : ByteArray) (n i a b : Nat) (r : List (Nat × Nat)) (hb : base ≤ w.heap.size) (hn : n ≤ 65536) (hi : i < t.size) (ht : t.size ≤ 65536)
    (hwf : Wfw i ((a, b) :: r)) (hL : ¬ b < i) (hown : w.ownsRow base 225 3 v (r.length + 1) (tcs (wtk t n ((a, b) :: r)))) :
    Calls Tryz.prog 146 #[v, .string t, .int .i64 n, .int .i64 i] w fun e w' => e = .returned (.tuple #[v, .bool (decide (i + 1 - a ≤ 80))]) ∧
      w'.ownsRow base 225 3 v (r.length + 1) (tcs (wtk t n ((a, i + 1) :: r))) ∧ w.grownBy w' v.ownBlock := by
  have hlen := hwf.len
  simp only [List.length_cons] at hlen
  obtain ⟨g, cap, rfl, hgb, hglt⟩ := hown.form (by simp)
  have hgt : (wtk t n ((a, b) :: r))[r.length]? = some (t.extract a b, (n : Int), (a : Int)) := by
    rw [wtk_cons, List.getElem?_append_right (by rw [wtk_len]; omega), wtk_len]; simp
  obtain ⟨k0, k1, k2⟩ := tcs_get hgt
  rw [← hown.cellAt _ (by omega)] at k0 k2
  have hwf1 := hwf.1
  have hwf2 := hwf.2.1
  obtain rfl : b = i := by omega
  have hfz := hown.frozenAt (r.length * 3)
  have HS : Hid (((w.setCell ⟨g, r.length * 3, none⟩ (.string (t.extract a (b + 1)))).ownsRow base 225 3 (.slice (some ⟨g, 0, none⟩) (r.length + 1) cap) (r.length + 1) (tcs (wtk t n ((a, b + 1) :: r)))) ∧ w.grownBy (w.setCell ⟨g, r.length * 3, none⟩ (.string (t.extract a (b + 1)))) (some g)) := by
    have hs := hown.stored (r.length * 3) (.string (t.extract a (b + 1)))
    refine ⟨?_, hs.2⟩
    have he : tcs (wtk t n ((a, b + 1) :: r)) = (tcs (wtk t n ((a, b) :: r))).set (r.length * 3) (.string (t.extract a (b + 1))) := by
      rw [wtk_cons, wtk_cons, tcs_app, tcs_app, List.set_append_right _ _ (by rw [tcs_len, wtk_len]; omega), tcs_len, wtk_len, Nat.sub_self]
      rfl
    rw [he]; exact hs.1
  have hsz : (t.extract a b).size = b - a := ex_size (by omega)
  have hsz2 : (t.extract a (b + 1)).size = b + 1 - a := ex_size (by omega)
  have hsl := sub_run t a (b + 1) ((b : Int) + 1) (by omega) (by omega) (by omega)
  clear hown hgt k1 hwf
  generalize tcs (wtk t n ((a, b + 1) :: r)) = XS at HS ⊢
  generalize r.length = m at HS k0 k2 hlen hfz ⊢
  have hneg : decide ((m : Int) < 0) = false := by simp
  have hwr : IntKind.i64.wrap ((a : Int) + ((b - a : Nat) : Int)) = (b : Int) := by
    rw [show (a : Int) + ((b - a : Nat) : Int) = (b : Int) by omega, IntKind.wrap_i64]; omega
  have hix : (m : Int) < (m : Int) + 1 := by omega
  have hbi2 : decide ((b : Int) < (b : Int)) = false := by simp
  go_enter Tryz.func146, Tryz.ntmps146
  go_wp2_with fail
  go_region_held_law (fun w' => w'.cell? ⟨g, m * 3, none⟩ = some (.string (t.extract a b)) ∧ w'.cell? ⟨g, m * 3 + 2, none⟩ = some (.int .i64 a)) (go_keep) (fail)
  have kc : (w.setCell ⟨g, m * 3, none⟩ (.string (t.extract a (b + 1)))).cell? ⟨g, m * 3, none⟩ = some (.string (t.extract a (b + 1))) := World.cell?_setCell_same _ _ _ k0
  have hle : decide (((b + 1 - a : Nat) : Int) ≤ 80) = decide (b + 1 - a ≤ 80) := by rw [decide_eq_decide]; omega
  clear k0 k2
  go_wp2_with fail
  go_region_held_law (fun w' => w'.cell? ⟨g, m * 3, none⟩ = some (.string (t.extract a (b + 1)))) (go_keep) (fail)
  go_wp2_with fail
  go_ret2
  refine ⟨congrArg (fun x => Ending.returned (Value.tuple #[Value.slice (some ⟨g, 0, none⟩) (m + 1) cap, Value.bool x])) (decide_eq_decide.2 (by omega : b + 1 ≤ 80 + a ↔ b + 1 - a ≤ 80)), HS.out.1, ⟨HS.out.2.os, HS.out.2.tape, HS.out.2.output, HS.out.2.size, HS.out.2.block⟩⟩
end Go.Proofs.YtmpkcioeodlbcaaGreatDoor
