/-
  The walk of InverseNames.
-/
import Derived.Test.YtomllbpkjhoepaaInl
import Derived.Deep.RegionHeldLaw
namespace Go.Proofs.Ytomllbpkjhoepaa
open Fl RowKit

/-- cells that hold what they hold -/
def Cls (L : List (Addr × Value)) (W : World) : Prop := ∀ x, x ∈ L → W.cell? x.1 = some x.2
theorem Cls.below {L : List (Addr × Value)} {W W' : World} (h : Cls L W) (hb : Below W.heap.size W W') : Cls L W' := fun x hx => cell_below hb (h x hx)
theorem cls_cons {x : Addr × Value} {L : List (Addr × Value)} {W : World} : Cls (x :: L) W ↔ (W.cell? x.1 = some x.2 ∧ Cls L W) := by
  unfold Cls
  constructor
  · intro h
    exact ⟨h x (List.mem_cons_self ..), fun y hy => h y (List.mem_cons_of_mem _ hy)⟩
  · rintro ⟨h1, h2⟩ y hy
    rcases List.mem_cons.1 hy with rfl | hy
    · exact h1
    · exact h2 y hy
theorem cls_nil (W : World) : Cls [] W := fun _ h => by cases h
theorem Cls.v2 {L : List (Addr × Value)} {W : World} (h : Cls L W) (a b : Value) (t : TypeId) : Cls ((⟨W.heap.size, 0, none⟩, a) :: (⟨W.heap.size, 1, none⟩, b) :: L) (W.alloc (.cells #[a, b] t)) :=
  cls_cons.2 ⟨(v2_new W a b t).c0, cls_cons.2 ⟨(v2_new W a b t).c1, h.below (bal _ _)⟩⟩
theorem Cls.v3 {L : List (Addr × Value)} {W : World} (h : Cls L W) (a b c : Value) (t : TypeId) : Cls ((⟨W.heap.size, 0, none⟩, a) :: (⟨W.heap.size, 1, none⟩, b) :: (⟨W.heap.size, 2, none⟩, c) :: L) (W.alloc (.cells #[a, b, c] t)) :=
  cls_cons.2 ⟨(v3_new W a b c t).c0, cls_cons.2 ⟨(v3_new W a b c t).c1, cls_cons.2 ⟨(v3_new W a b c t).c2, h.below (bal _ _)⟩⟩⟩
set_option maxRecDepth 20000 in
set_option maxHeartbeats 16000000 in
theorem inam_walk (w : World) : Calls Try.prog 4 #[] w fun e w' => e = .returned (.bool true) ∧ Below w.heap.size w w' := by
  obtain ⟨k0, ki, kz0, kz1, kz2⟩ := info_parts Try.infoC
  have C : Hid (Cls [] w) := cls_nil w
  have B : Hid (Below w.heap.size w w) := Below.refl _ _
  have hoX : FloatKind.f64.format.order 4607182418800017408 4607182418800017408 = some .eq := by kernel_rfl
  have hoZ : FloatKind.f64.format.order 0 0 = some .eq := by kernel_rfl
  have st : Stg 0 := ⟨trivial⟩
  go_enter Try.func4, Try.ntmps4
  go_wp2_with (first
    | ((have _ := (st : Stg 0)); go_at_call 14; (with_reducible refine (sq12 0 0 4607182418800017408 0 4607182418800017408 0 0 0 _).mono ?_); rintro e w1 ⟨B1, rfl, hs, hb⟩; (replace C := hid_o (C.out.below hb)); (replace B := hid_o (bt B.out hb));(have S1 := hid_o hs); clear hs; clear hb st; (have st : Stg 1 := ⟨trivial⟩))
    | ((have _ := (st : Stg 1)); go_at_call 13; (with_reducible refine (of_tL S1.out).mono ?_); rintro e w2 ⟨B2, rfl, hr, hb⟩; (replace C := hid_o (C.out.below hb)); (replace B := hid_o (bt B.out hb));(have R2 := hid_o ((hr.below (bal _ (.cells #[.int .i64 2, .int .i64 2, .slice (some ⟨B2, 0, none⟩) 4 4] 28))).below (bal _ (.cells #[.int .i64 0, .int .i64 0] 39)))); clear hr S1; (replace C := hid_o (C.out.v3 (.int .i64 2) (.int .i64 2) (.slice (some ⟨B2, 0, none⟩) 4 4) 28)); (replace B := hid_o (ba B.out (.cells #[.int .i64 2, .int .i64 2, .slice (some ⟨B2, 0, none⟩) 4 4] 28)));(replace C := hid_o (C.out.v2 (.int .i64 0) (.int .i64 0) 39)); (replace B := hid_o (ba B.out (.cells #[.int .i64 0, .int .i64 0] 39)));(have BR := hid_o (Below.refl ((w2.alloc (.cells #[.int .i64 2, .int .i64 2, .slice (some ⟨B2, 0, none⟩) 4 4] 28)).alloc (.cells #[.int .i64 0, .int .i64 0] 39)).heap.size ((w2.alloc (.cells #[.int .i64 2, .int .i64 2, .slice (some ⟨B2, 0, none⟩) 4 4] 28)).alloc (.cells #[.int .i64 0, .int .i64 0] 39)))); clear hb st; (have st : Stg 2 := ⟨trivial⟩))
    | ((have _ := (st : Stg 2)); go_at_call 14; (with_reducible refine (sq12 0 0 4607182418800017408 0 4607182418800017408 0 0 0 _).mono ?_); rintro e w3 ⟨B3, rfl, hs, hb⟩; (replace C := hid_o (C.out.below hb)); (replace B := hid_o (bt B.out hb));(replace BR := hid_o (bt BR.out hb));(have S3 := hid_o hs); clear hs; clear hb st; (have st : Stg 3 := ⟨trivial⟩))
    | ((have _ := (st : Stg 3)); go_at_call 15; (with_reducible refine (ca_tL S3.out).mono ?_); rintro e w4 ⟨rfl, hb⟩; (replace C := hid_o (C.out.below hb)); (replace B := hid_o (bt B.out hb));(replace BR := hid_o (bt BR.out hb));clear S3; (replace C := hid_o (C.out.v2 (.int .i64 0) (.int .i64 0) 39)); (replace B := hid_o (ba B.out (.cells #[.int .i64 0, .int .i64 0] 39)));(replace BR := hid_o (ba BR.out (.cells #[.int .i64 0, .int .i64 0] 39))); clear hb st; (have st : Stg 4 := ⟨trivial⟩))
    | ((have _ := (st : Stg 4)); go_at_call 14; (with_reducible refine (sq12 4607182418800017408 0 4611686018427387904 0 4611686018427387904 0 4616189618054758400 0 _).mono ?_); rintro e w5 ⟨B5, rfl, hs, hb⟩; (replace C := hid_o (C.out.below hb)); (replace B := hid_o (bt B.out hb));(replace BR := hid_o (bt BR.out hb));(have S5 := hid_o hs); clear hs; clear hb st; (have st : Stg 5 := ⟨trivial⟩))
    | ((have _ := (st : Stg 5)); go_at_call 13; (with_reducible refine (of_sL S5.out).mono ?_); rintro e w6 ⟨rfl, hb⟩; (replace C := hid_o (C.out.below hb)); (replace B := hid_o (bt B.out hb));(replace BR := hid_o (bt BR.out hb));clear S5; (replace C := hid_o (C.out.v3 (.int .i64 0) (.int .i64 0) (.slice none 0 0) 28)); (replace B := hid_o (ba B.out (.cells #[.int .i64 0, .int .i64 0, .slice none 0 0] 28)));(replace C := hid_o (C.out.v2 (.int .i64 7) (.int .i64 1) 39)); (replace B := hid_o (ba B.out (.cells #[.int .i64 7, .int .i64 1] 39)));(replace BR := hid_o (ba BR.out (.cells #[.int .i64 0, .int .i64 0, .slice none 0 0] 28)));(replace BR := hid_o (ba BR.out (.cells #[.int .i64 7, .int .i64 1] 39))); clear hb st; (have st : Stg 6 := ⟨trivial⟩))
    | ((have _ := (st : Stg 6)); at_make; (refine wpList_make_full _ rfl _ _ 25 rfl _ 43 k0 (.complex .f64 0 0) 1 Try.underlying25 ki kz0 kz1 _ _ _ _ 3 rfl rfl rfl rfl (by rw [kz2]; decide) (by unfold maxLen; decide) (Nat.le_refl _) ?_); intro w7 hown hgrow; (have hb := (Below.refl _ _).grown hgrow (Nat.le_refl _) (by intro k hk; simp at hk)); clear hown hgrow; (replace C := hid_o (C.out.below hb)); (replace B := hid_o (bt B.out hb));(replace BR := hid_o (bt BR.out hb)); clear hb st; (have st : Stg 7 := ⟨trivial⟩))
    | ((have _ := (st : Stg 7)); go_at_call 13; (with_reducible refine (of_sh _ _ _).mono ?_); rintro e w8 ⟨rfl, hb⟩; (replace C := hid_o (C.out.below hb)); (replace B := hid_o (bt B.out hb));(replace BR := hid_o (bt BR.out hb));(replace C := hid_o (C.out.v3 (.int .i64 0) (.int .i64 0) (.slice none 0 0) 28)); (replace B := hid_o (ba B.out (.cells #[.int .i64 0, .int .i64 0, .slice none 0 0] 28)));(replace C := hid_o (C.out.v2 (.int .i64 4) (.int .i64 (-1)) 39)); (replace B := hid_o (ba B.out (.cells #[.int .i64 4, .int .i64 (-1)] 39)));(replace BR := hid_o (ba BR.out (.cells #[.int .i64 0, .int .i64 0, .slice none 0 0] 28)));(replace BR := hid_o (ba BR.out (.cells #[.int .i64 4, .int .i64 (-1)] 39))); clear hb st; (have st : Stg 8 := ⟨trivial⟩))
    | ((have _ := (st : Stg 8)); go_at_call 17; (with_reducible refine (ld_any _).mono ?_); rintro e w9 ⟨nd8, rfl, hw8⟩; subst w9; (replace C := hid_o (C.out.below (mk3 _ nd8))); (replace B := hid_o (bt B.out (mk3 _ nd8))); (replace BR := hid_o (bt BR.out (mk3 _ nd8))); clear st; (have st : Stg 9 := ⟨trivial⟩))
    | ((have _ := (st : Stg 9)); go_at_call 16; (with_reducible refine (one12 1 0 _).mono ?_); rintro e w10 ⟨B9, rfl, hs, hb⟩; (replace C := hid_o (C.out.below hb)); (replace B := hid_o (bt B.out hb));(replace BR := hid_o (bt BR.out hb));(have S9 := hid_o hs); clear hs; clear hb st; (have st : Stg 10 := ⟨trivial⟩))
    | ((have _ := (st : Stg 10)); go_at_call 13; (with_reducible refine (of_lL S9.out).mono ?_); rintro e w11 ⟨rfl, hb⟩; (replace C := hid_o (C.out.below hb)); (replace B := hid_o (bt B.out hb));(replace BR := hid_o (bt BR.out hb));clear S9; (replace C := hid_o (C.out.v3 (.int .i64 0) (.int .i64 0) (.slice none 0 0) 28)); (replace B := hid_o (ba B.out (.cells #[.int .i64 0, .int .i64 0, .slice none 0 0] 28)));(replace C := hid_o (C.out.v2 (.int .i64 6) (.int .i64 0) 39)); (replace B := hid_o (ba B.out (.cells #[.int .i64 6, .int .i64 0] 39)));(replace BR := hid_o (ba BR.out (.cells #[.int .i64 0, .int .i64 0, .slice none 0 0] 28)));(replace BR := hid_o (ba BR.out (.cells #[.int .i64 6, .int .i64 0] 39))); clear hb st; (have st : Stg 11 := ⟨trivial⟩))
    | ((have _ := (st : Stg 11)); go_at_call 17; (with_reducible refine (ld_any _).mono ?_); rintro e w12 ⟨nd11, rfl, hw11⟩; subst w12; (replace C := hid_o (C.out.below (mk3 _ nd11))); (replace B := hid_o (bt B.out (mk3 _ nd11))); (replace BR := hid_o (bt BR.out (mk3 _ nd11))); clear st; (have st : Stg 12 := ⟨trivial⟩))
    | ((have _ := (st : Stg 12)); go_at_call 16; (with_reducible refine (one12 1 0 _).mono ?_); rintro e w13 ⟨B12, rfl, hs, hb⟩; (replace C := hid_o (C.out.below hb)); (replace B := hid_o (bt B.out hb));(replace BR := hid_o (bt BR.out hb));(have S12 := hid_o hs); clear hs; clear hb st; (have st : Stg 13 := ⟨trivial⟩))
    | ((have _ := (st : Stg 13)); go_at_call 15; (with_reducible refine (ca_lL S12.out).mono ?_); rintro e w14 ⟨rfl, hb⟩; (replace C := hid_o (C.out.below hb)); (replace B := hid_o (bt B.out hb));(replace BR := hid_o (bt BR.out hb));clear S12; (replace C := hid_o (C.out.v2 (.int .i64 6) (.int .i64 0) 39)); (replace B := hid_o (ba B.out (.cells #[.int .i64 6, .int .i64 0] 39)));(replace BR := hid_o (ba BR.out (.cells #[.int .i64 6, .int .i64 0] 39))); clear hb st; (have st : Stg 14 := ⟨trivial⟩))
    | ((have _ := (st : Stg 14)); go_at_call 16; (with_reducible refine (one12 4611686018427387904 0 _).mono ?_); rintro e w15 ⟨Bax, rfl, hs, hb⟩; (replace C := hid_o (C.out.below hb)); (replace B := hid_o (bt B.out hb));(replace BR := hid_o (bt BR.out hb));(have Sa := hid_o hs); clear hs; clear hb st; (have st : Stg 15 := ⟨trivial⟩))
    | ((have _ := (st : Stg 15)); go_at_call 16; (with_reducible refine (one12 4602678819172646912 0 _).mono ?_); rintro e w16 ⟨Bbx, rfl, hs, hb⟩; (replace C := hid_o (C.out.below hb)); (replace B := hid_o (bt B.out hb));(replace BR := hid_o (bt BR.out hb));(replace Sa := hid_o (Sa.out.below hb)); (have Sb := hid_o hs); clear hs; clear hb st; (have st : Stg 16 := ⟨trivial⟩))
    | ((have _ := (st : Stg 16)); go_at_call 9; (with_reducible refine (of_2h Sa.out Sb.out).mono ?_); rintro e w17 ⟨rfl, hb⟩; (replace C := hid_o (C.out.below hb)); (replace B := hid_o (bt B.out hb));(replace BR := hid_o (bt BR.out hb));clear Sa Sb; clear hb st; (have st : Stg 17 := ⟨trivial⟩))
    | ((have _ := (st : Stg 17)); go_at_call 16; (with_reducible refine (one12 4611686018427387904 0 _).mono ?_); rintro e w18 ⟨Bay, rfl, hs, hb⟩; (replace C := hid_o (C.out.below hb)); (replace B := hid_o (bt B.out hb));(replace BR := hid_o (bt BR.out hb));(have Sa := hid_o hs); clear hs; clear hb st; (have st : Stg 18 := ⟨trivial⟩))
    | ((have _ := (st : Stg 18)); go_at_call 16; (with_reducible refine (one12 4607182418800017408 0 _).mono ?_); rintro e w19 ⟨Bby, rfl, hs, hb⟩; (replace C := hid_o (C.out.below hb)); (replace B := hid_o (bt B.out hb));(replace BR := hid_o (bt BR.out hb));(replace Sa := hid_o (Sa.out.below hb)); (have Sb := hid_o hs); clear hs; clear hb st; (have st : Stg 19 := ⟨trivial⟩))
    | ((have _ := (st : Stg 19)); go_at_call 9; (with_reducible refine (of_21 Sa.out Sb.out).mono ?_); rintro e w20 ⟨rfl, hb⟩; (replace C := hid_o (C.out.below hb)); (replace B := hid_o (bt B.out hb));(replace BR := hid_o (bt BR.out hb));clear Sa Sb; clear hb st; (have st : Stg 20 := ⟨trivial⟩))
    | ((have _ := (st : Stg 20)); go_at_call 16; (with_reducible refine (one12 4611686018427387904 0 _).mono ?_); rintro e w21 ⟨Baz, rfl, hs, hb⟩; (replace C := hid_o (C.out.below hb)); (replace B := hid_o (bt B.out hb));(replace BR := hid_o (bt BR.out hb));clear hs; clear hb st; (have st : Stg 21 := ⟨trivial⟩))
    | ((have _ := (st : Stg 21)); go_at_call 14; (with_reducible refine (sq12 4607182418800017408 0 0 0 0 0 4607182418800017408 0 _).mono ?_); rintro e w22 ⟨Bbz, rfl, hs, hb⟩; (replace C := hid_o (C.out.below hb)); (replace B := hid_o (bt B.out hb));(replace BR := hid_o (bt BR.out hb));clear hs; clear hb st; (have st : Stg 22 := ⟨trivial⟩))
    | ((have _ := (st : Stg 22)); go_at_call 9; (with_reducible refine (of_24 _ _ _).mono ?_); rintro e w23 ⟨rfl, hb⟩; (replace C := hid_o (C.out.below hb)); (replace B := hid_o (bt B.out hb));(replace BR := hid_o (bt BR.out hb)); clear hb st; (have st : Stg 23 := ⟨trivial⟩))
    | ((have _ := (st : Stg 23)); go_at_call 13; (with_reducible refine (of_nL _).mono ?_); rintro e w24 ⟨Bn, rfl, hb⟩; (replace C := hid_o (C.out.below hb)); (replace B := hid_o (bt B.out hb));(replace BR := hid_o (bt BR.out hb));(replace C := hid_o (C.out.v3 (.int .i64 0) (.int .i64 0) (.slice (some ⟨Bn, 0, none⟩) 0 0) 28)); (replace B := hid_o (ba B.out (.cells #[.int .i64 0, .int .i64 0, .slice (some ⟨Bn, 0, none⟩) 0 0] 28)));(replace C := hid_o (C.out.v2 (.int .i64 0) (.int .i64 0) 39)); (replace B := hid_o (ba B.out (.cells #[.int .i64 0, .int .i64 0] 39)));(replace BR := hid_o (ba BR.out (.cells #[.int .i64 0, .int .i64 0, .slice (some ⟨Bn, 0, none⟩) 0 0] 28)));(replace BR := hid_o (ba BR.out (.cells #[.int .i64 0, .int .i64 0] 39))); clear hb st; (have st : Stg 24 := ⟨trivial⟩))
    | ((have _ := (st : Stg 24)); go_at_call 15; (with_reducible refine (ca_nL _).mono ?_); rintro e w25 ⟨rfl, hb⟩; (replace C := hid_o (C.out.below hb)); (replace B := hid_o (bt B.out hb));(replace BR := hid_o (bt BR.out hb));(replace C := hid_o (C.out.v2 (.int .i64 0) (.int .i64 0) 39)); (replace B := hid_o (ba B.out (.cells #[.int .i64 0, .int .i64 0] 39)));(replace BR := hid_o (ba BR.out (.cells #[.int .i64 0, .int .i64 0] 39))); clear hb st; (have st : Stg 25 := ⟨trivial⟩)))
  obtain ⟨wz, hwz⟩ : ∃ wz, wz = w25.alloc (.cells #[.int .i64 0, .int .i64 0] 39) := ⟨_, rfl⟩
  rw [← hwz] at C B BR ⊢
  clear hwz
  have SA : Hid (∀ W : World, Below wz.heap.size wz W → W.cell? ⟨w2.heap.size + 1, 0, none⟩ = some (.int .i64 0) ∧ W.cell? ⟨w2.heap.size + 1, 1, none⟩ = some (.int .i64 0) ∧ W.cell? ⟨w4.heap.size, 0, none⟩ = some (.int .i64 0) ∧ W.cell? ⟨w4.heap.size, 1, none⟩ = some (.int .i64 0) ∧ W.cell? ⟨w2.heap.size, 0, none⟩ = some (.int .i64 2) ∧ W.cell? ⟨w2.heap.size, 1, none⟩ = some (.int .i64 2) ∧ W.cell? ⟨w2.heap.size, 2, none⟩ = some (.slice (some ⟨B2, 0, none⟩) 4 4)) := fun W hW => by
    have h := C.out.below hW
    simp only [cls_cons, size_al] at h
    obtain ⟨zi0, zi1, zhf0, zhf1, zhm0, zhm1, zhm2, zg0, zg1, zff0, zff1, zfm0, zfm1, zfm2, zef0, zef1, zem0, zem1, zem2, zdf0, zdf1, zdm0, zdm1, zdm2, zc0, zc1, zbf0, zbf1, zbm0, zbm1, zbm2, _⟩ := h
    exact ⟨zbf0, zbf1, zc0, zc1, zbm0, zbm1, zbm2⟩
  have RZ := hid_o (R2.out.below BR.out)
  have D0 : Hid (Below wz.heap.size wz wz.drew) := (Below.refl _ _).drew
  clear R2 BR st
  go_region_held_law (fun W => W.cell? ⟨w2.heap.size + 1, 0, none⟩ = some (.int .i64 0) ∧ W.cell? ⟨w2.heap.size + 1, 1, none⟩ = some (.int .i64 0) ∧ W.cell? ⟨w4.heap.size, 0, none⟩ = some (.int .i64 0) ∧ W.cell? ⟨w4.heap.size, 1, none⟩ = some (.int .i64 0) ∧ W.cell? ⟨w2.heap.size, 0, none⟩ = some (.int .i64 2) ∧ W.cell? ⟨w2.heap.size, 1, none⟩ = some (.int .i64 2) ∧ W.cell? ⟨w2.heap.size, 2, none⟩ = some (.slice (some ⟨B2, 0, none⟩) 4 4))
    (first | with_reducible exact SA.out _ HB4.out | with_reducible exact SA.out _ HB3.out | with_reducible exact SA.out _ D0.out)
    (first
    | (go_at_call 14; (with_reducible refine (sq12 0 0 4607182418800017408 0 4607182418800017408 0 0 0 _).mono ?_); rintro e w3 ⟨B3, rfl, hr, hb⟩; (have HR3 := hid_o hr); (have HB3 := hid_o (bt D0.out hb)); clear hr hb)
    | (go_at_call 18; (with_reducible refine (keqM 2 2 (ro_len 4 _) (ro_len 4 _) (RZ.out.below HB3.out) HR3.out.rd (Nat.le_of_ble_eq_true rfl) tL_4).mono ?_); rintro e w4 ⟨rfl, hb⟩; (have HB4 := hid_o (bt HB3.out hb)); clear hb))
  all_goals
    (have h := C.out.below HB4.out)
    simp only [cls_cons, size_al] at h
    obtain ⟨zi0, zi1, zhf0, zhf1, zhm0, zhm1, zhm2, zg0, zg1, zff0, zff1, zfm0, zfm1, zfm2, zef0, zef1, zem0, zem1, zem2, zdf0, zdf1, zdm0, zdm1, zdm2, zc0, zc1, zbf0, zbf1, zbm0, zbm1, zbm2, _⟩ := h
    clear SA C
    go_wp2_with (go_at_call 19; (with_reducible refine (awake12 _).mono ?_); rintro e w5 ⟨rfl, hb⟩; (have HB5 := hid_o (bt HB4.out hb)); clear hb)
    go_ret
    exact ⟨rfl, bt B.out HB5.out⟩

end Go.Proofs.Ytomllbpkjhoepaa
