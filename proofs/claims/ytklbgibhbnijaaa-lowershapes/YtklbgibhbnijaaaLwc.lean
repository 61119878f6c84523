/-
  What lower's reduce hands back.
-/
import Derived.Test.YtklbgibhbnijaaaLwb
import Derived.Deep.RegionHeldLaw
import Derived.Deep.RegionWith
import Derived.Deep.DeepCutAuto
namespace Go.Proofs.Ytklbgibhbnijaaa
open Fl RowKit

set_option maxHeartbeats 2000000 in
theorem reduce_any (b g h n k : Nat) (a p : Nat → Cw) (w : World) (hn : n ≤ 64) (hk : k < n) (hgh : h ≠ g) (hr : Rw w b (.slice (some ⟨g, 0, none⟩) n n) n (ro n a)) (hp : Rw w b (.slice (some ⟨h, 0, none⟩) n n) n (ro n p)) (ha : ∀ j, j < n → okz (a j)) (hpo : ∀ j, j < n → okz (p j)) :
    Calls Try.prog 86 #[.slice (some ⟨g, 0, none⟩) n n, .slice (some ⟨h, 0, none⟩) n n, .int .i64 k] w fun e w' => ∃ f : Nat → Cw, e = .returned (.tuple #[]) ∧ (∀ j, j < n → repz (redZ a p k j) (f j)) ∧ Rw w' b (.slice (some ⟨g, 0, none⟩) n n) n (ro n f) ∧ OnlyRow g w w' := by
  have c1 := rw_cell hr hk
  have c2 := rw_cell hp hk
  have fz := hr.own.frozenAt k
  have hgl := hr.lt.2
  have hhl := hp.lt.2
  have o1 := ha k hk
  have o2 := hpo k hk
  have HD := hid_o (redZ_eq a p k)
  have PS := hid_o (part_start (p := p) (k := k) ha)
  have HR := hid_o hr
  have HP := hid_o hp
  have HA := hid_o ha
  have HPO := hid_o hpo
  obtain ⟨x, hxe⟩ : ∃ x, x = a k := ⟨_, rfl⟩
  obtain ⟨y, hye⟩ : ∃ y, y = p k := ⟨_, rfl⟩
  have HF := hid_o (fun (j : Nat) (h : k < j) => redZ_gt (a := a) (p := p) h)
  rw [← hxe] at c1 o1 HD HF
  rw [← hye] at c2 o2 HD HF
  clear hxe hye hr hp ha hpo
  unfold cx at c1 c2
  go_enter Try.func86, Try.ntmps86
  go_wp2
  go_cut [6] (fun v wc => ∃ (q : Cw) (m : Nat), v = .complex .f64 q.1 q.2 ∧ repz (divZ (anz x) (anz y)) q ∧ wc = w.drewN m)
  case first =>
    go_region_with (go_at_call 93; (with_reducible refine (div_z o1 o2).mono ?_); rintro e w' ⟨q, m, rfl, hq, rfl⟩)
    all_goals
      go_wp2_with fail
      go_meet
      case rel => exact ⟨q, _, rfl, hq, by first | rfl | (simp only [World.drewN_drewN]; rfl)⟩
  case rest =>
    obtain ⟨q, m, rfl, hq, rfl⟩ := hcut
    have c3 : (w.drewN m).cell? ⟨g, k, none⟩ = some (.complex .f64 x.1 x.2) := c1
    have fz3 : (w.drewN m).frozen? ⟨g, k, none⟩ = false := fz
    have HQ := hid_o hq
    clear hq c1 c2 fz
    go_wp2
    go_loopw [7] (fun jv wr => ∃ (j : Nat) (f : Nat → Cw), k < j ∧ j ≤ n ∧ jv = .int .i64 j ∧ part a p k j n f ∧ Rw wr b (.slice (some ⟨g, 0, none⟩) n n) n (ro n f) ∧ OnlyRow g w wr) (fun jv _ => n - (intOf jv).toNat)
    case atStart => exact ⟨k + 1, upz a k q, by omega, by omega, by go_num, part_next PS.out (by rw [HD.out]; exact HQ.out), rw_set (HR.out.drewN m) k q, (only_drewN g w m).setCell _⟩
    case round =>
      clear c3 fz3
      obtain ⟨j, f, hkj, hjn, rfl, hpt, hrw, hon⟩ := hrel
      by_cases hlt : j < n
      · have d1 := rw_cell hrw hlt
        rw [hpt.2 j (Nat.le_refl _)] at d1
        have d2 : wr.cell? ⟨h, j, none⟩ = some (cx (p j)) := (World.cell?_of_block (hon.block h hgh)).trans (rw_cell HP.out hlt)
        have fz := hrw.own.frozenAt j
        have o3 := HA.out j hlt
        have o4 := HPO.out j hlt
        have hl2 := hrw.lt.2
        have hl3 : h < wr.heap.size := by rw [hon.size]; exact hhl
        have HE := hid_o (HF.out j hkj)
        have HPT := hid_o hpt
        have HRW := hid_o hrw
        have HON := hid_o hon
        obtain ⟨u, hue⟩ : ∃ u, u = a j := ⟨_, rfl⟩
        obtain ⟨v, hve⟩ : ∃ v, v = p j := ⟨_, rfl⟩
        rw [← hue] at d1 o3 HE
        rw [← hve] at d2 o4 HE
        clear hue hve hpt hrw hon
        unfold cx at d1 d2
        go_wp2
        go_region_with (first
          | (go_at_call 97; (with_reducible refine (mul_z HQ.out o4).mono ?_); rintro e w' ⟨t, m2, rfl, ht, rfl⟩)
          | (go_at_call 118; (with_reducible refine (sub_z o3 ht).mono ?_); rintro e w' ⟨r, m3, rfl, hr3, rfl⟩))
        all_goals
          go_wp2_with fail
          go_roundw
          case measure => simp [intOf]; omega
          case rel => exact ⟨j + 1, upz f j r, by omega, by omega, by go_num, part_next HPT.out (by rw [HE.out]; exact hr3), rw_set (HRW.out.drewN _) j r, only_trans HON.out ((only_drewN g wr _).setCell _)⟩
      · have e : j = n := by omega
        subst e
        clear HA HPO HF HP HR
        go_wp2
        go_end0
        exact ⟨f, rfl, fun i hi => hpt.1 i hi hi, hrw, hon⟩

end Go.Proofs.Ytklbgibhbnijaaa
