/-
  Several texts in one: Gob Goc God Goe Gof Gog Dnb.
-/
import Derived.Test.YtmpkcioeodlbcaaGreatDoorK27
namespace Go.Proofs.YtmpkcioeodlbcaaGreatDoor
open Go.Maps Go.RowKit
set_option linter.unusedVariables false
set_option maxRecDepth 100000
@[go_sem] theorem run_store_funcN {P : Program} (w : World) (a : Addr) (m : Mode) (f : Fn) (x y : Array Value) : (store a (.func f x y) m).run P w = stored P w a (.func f x y) m := run_store P w a _ m rfl
theorem row_le {w : World} {base b2 : Nat} {e : TypeId} {sz : Nat} {v : Value} {n : Nat} {xs : List Value} (h : w.ownsRow base e sz v n xs) (hb : b2 ≤ base) : w.ownsRow b2 e sz v n xs := by
  obtain ⟨h0, h1 | ⟨g, cap, cur, h1, h2, h3⟩⟩ := h
  · exact ⟨h0, .inl h1⟩
  · exact ⟨h0, .inr ⟨g, cap, cur, h1, by omega, h3⟩⟩
theorem sk_start (w : World) (fp b L : Nat) (tw : List (List Tw)) (hL : w.heap.size = L) (ht : TwR w fp L tw) :
    Sk ((((w.alloc (.cells #[.pointer (some ⟨fp, 0, none⟩)] 194)).alloc (.cells #[.int .i64 (b : Int)] 3)).alloc (.cells #[.slice none 0 0] 61)).alloc (.cells #[.func (.func 228) #[] #[.pointer (some ⟨L + 1, 0, none⟩), .pointer (some ⟨L, 0, none⟩), .pointer (some ⟨L + 3, 0, none⟩), .pointer (some ⟨L + 2, 0, none⟩)]] 279)) L fp b tw [] ∧
    Below L w ((((w.alloc (.cells #[.pointer (some ⟨fp, 0, none⟩)] 194)).alloc (.cells #[.int .i64 (b : Int)] 3)).alloc (.cells #[.slice none 0 0] 61)).alloc (.cells #[.func (.func 228) #[] #[.pointer (some ⟨L + 1, 0, none⟩), .pointer (some ⟨L, 0, none⟩), .pointer (some ⟨L + 3, 0, none⟩), .pointer (some ⟨L + 2, 0, none⟩)]] 279)) := by
  obtain ⟨w1, h1⟩ : ∃ w1, w1 = w.alloc (.cells #[.pointer (some ⟨fp, 0, none⟩)] 194) := ⟨_, rfl⟩
  rw [← h1]
  obtain ⟨w2, h2⟩ : ∃ w2, w2 = w1.alloc (.cells #[.int .i64 (b : Int)] 3) := ⟨_, rfl⟩
  rw [← h2]
  obtain ⟨w3, h3⟩ : ∃ w3, w3 = w2.alloc (.cells #[.slice none 0 0] 61) := ⟨_, rfl⟩
  rw [← h3]
  obtain ⟨w4, h4⟩ : ∃ w4, w4 = w3.alloc (.cells #[.func (.func 228) #[] #[.pointer (some ⟨L + 1, 0, none⟩), .pointer (some ⟨L, 0, none⟩), .pointer (some ⟨L + 3, 0, none⟩), .pointer (some ⟨L + 2, 0, none⟩)]] 279) := ⟨_, rfl⟩
  rw [← h4]
  have s1 : w1.heap.size = L + 1 := by rw [h1, ← hL]; simp
  have s2 : w2.heap.size = L + 2 := by rw [h2]; simp [s1]
  have s3 : w3.heap.size = L + 3 := by rw [h3]; simp [s2]
  have s4 : w4.heap.size = L + 4 := by rw [h4]; simp [s3]
  have b1 : Below L w w1 := by rw [h1]; exact (Below.refl _ _).alloc (by omega) _
  have b2 : Below (L + 1) w1 w2 := by rw [h2]; exact (Below.refl _ _).alloc (by omega) _
  have b3 : Below (L + 2) w2 w3 := by rw [h3]; exact (Below.refl _ _).alloc (by omega) _
  have b4 : Below (L + 3) w3 w4 := by rw [h4]; exact (Below.refl _ _).alloc (by omega) _
  have k1 : w1.heap[L]? = some (.cells #[.pointer (some ⟨fp, 0, none⟩)] 194 (0, 0)) := by rw [h1, ← hL]; exact heap_alloc_new _ _
  have k2 : w2.heap[L + 1]? = some (.cells #[.int .i64 (b : Int)] 3 (0, 0)) := by rw [h2, ← s1]; exact heap_alloc_new _ _
  have k3 : w3.heap[L + 2]? = some (.cells #[.slice none 0 0] 61 (0, 0)) := by rw [h3, ← s2]; exact heap_alloc_new _ _
  have k4 : w4.heap[L + 3]? = some (.cells #[.func (.func 228) #[] #[.pointer (some ⟨L + 1, 0, none⟩), .pointer (some ⟨L, 0, none⟩), .pointer (some ⟨L + 3, 0, none⟩), .pointer (some ⟨L + 2, 0, none⟩)]] 279 (0, 0)) := by rw [h4]; have := heap_alloc_new w3 (.cells #[.func (.func 228) #[] #[.pointer (some ⟨L + 1, 0, none⟩), .pointer (some ⟨L, 0, none⟩), .pointer (some ⟨L + 3, 0, none⟩), .pointer (some ⟨L + 2, 0, none⟩)]] 279); rw [s3] at this; exact this
  have q1 : w4.heap[L]? = some (.cells #[.pointer (some ⟨fp, 0, none⟩)] 194 (0, 0)) := by rw [b4.block _ (by omega), b3.block _ (by omega), b2.block _ (by omega)]; exact k1
  have q2 : w4.heap[L + 1]? = some (.cells #[.int .i64 (b : Int)] 3 (0, 0)) := by rw [b4.block _ (by omega), b3.block _ (by omega)]; exact k2
  have q3 : w4.heap[L + 2]? = some (.cells #[.slice none 0 0] 61 (0, 0)) := by rw [b4.block _ (by omega)]; exact k3
  have hB : Below L w w4 := b1.trans ((b2.mono (by omega)).trans ((b3.mono (by omega)).trans (b4.mono (by omega))))
  refine ⟨⟨by rw [cell_of_row w4 L 0 _ _ (0, 0) q1]; rfl, by rw [cell_of_row w4 (L + 1) 0 _ _ (0, 0) q2]; rfl, ⟨.slice none 0 0, by rw [cell_of_row w4 (L + 2) 0 _ _ (0, 0) q3]; rfl, frozen_of_row w4 (L + 2) 0 _ _ q3, World.ownsRow_nil _ _ _ _⟩, by rw [cell_of_row w4 (L + 3) 0 _ _ (0, 0) k4]; rfl, ht.kept hB, by omega⟩, hB⟩
/-- back: the way from b back to a -/
theorem back_any (w : World) (fp a b f : Nat) (tw : List (List Tw)) (r : Option (List Nm)) (ht : TwR w fp w.heap.size tw) (hf : f ≤ 100000) (hr : skF tw b f a (-1) = some r) :
    Calls Tryz.prog 205 #[.pointer (some ⟨fp, 0, none⟩), .int .i64 (a : Int), .int .i64 (b : Int)] w fun e w' => ∃ v, e = .returned (.tuple #[v, .bool r.isSome]) ∧ w'.ownsRow w.heap.size 9 1 v (r.getD []).length ((r.getD []).map sv) ∧ Below w.heap.size w w' := by
  obtain ⟨L, hL⟩ : ∃ L, w.heap.size = L := ⟨_, rfl⟩
  rw [hL] at ht
  have hs := sk_start w fp b L tw hL ht
  have hcall := seek_any L fp b tw f a (-1) [] r _ hs.1 (by simpa using hf) hr
  have HB : Hid _ := hs.2
  clear hs
  go_enter Tryz.func205, Tryz.ntmps205
  go_wp2_with fail
  refine hcall.mono ?_
  rintro e5 w5 ⟨rfl, S5, B5, K5⟩
  obtain ⟨v, cw, fw, ow⟩ := S5.cw
  have HO : Hid (w5.ownsRow (L + 4) 9 1 v (r.getD []).length ((r.getD []).map sv) ∧ Below L w w5) := ⟨by simpa using ow, HB.out.trans B5⟩
  clear S5 B5 K5 ow hcall
  go_wp2_with fail
  go_ret2
  refine ⟨v, rfl, row_le HO.out.1 (by omega), ?_⟩
  rw [hL]; exact HO.out.2

end Go.Proofs.YtmpkcioeodlbcaaGreatDoor
namespace Go.Proofs.YtmpkcioeodlbcaaGreatDoor
open Go.Maps Go.RowKit
set_option linter.unusedVariables false
set_option maxRecDepth 100000
theorem eql_sl (t e : TypeId) (ht : Tryz.prog.underlying t = some (.slice e)) (w : World) (a : Option Addr) (n c n' c' : Nat) : (binOp .eql t (.slice a n c) (.slice none n' c')).run Tryz.prog w = .ok (.bool a.isNone) w := Lib.run_eql_slice_nil w _ _ a n c n' c' ht
/-- a list of names, copied -/
theorem clone_s (w : World) (base : Nat) (v : Value) (xs : List Nm) (h : w.ownsRow base 9 1 v xs.length (xs.map sv)) (hn : xs.length ≤ 1000000) :
    Calls Tryz.prog 117 #[v] w fun e w' => ∃ v', e = .returned v' ∧ w'.ownsRow w.heap.size 9 1 v' xs.length (xs.map sv) ∧ Below w.heap.size w w' := by
  have q29 := eql_sl 61 9 Tryz.underlying61
  obtain ⟨i0, hi0, hz0, hz1, hz2⟩ := info_parts Tryz.infoS
  obtain ⟨hxl, ⟨rfl, hx0⟩ | ⟨g, cap, cur, rfl, hg, hcur, hcap, hcm, hcs, htk⟩⟩ := h
  · go_enter Tryz.func117, Tryz.ntmps117
    go_wp2_with fail
    go_ret
    have hxe : xs = [] := List.length_eq_zero_iff.1 hx0
    subst hxe
    exact ⟨.slice none 0 0, rfl, World.ownsRow_nil _ _ _ _, Below.refl _ _⟩
  · have HC : Hid (∀ j u, (xs.map sv)[j]? = some u → w.cell? ⟨g, j, none⟩ = some u) := fun j u hj => by
      have hrow : w.ownsRow base 9 1 (.slice (some ⟨g, 0, none⟩) xs.length cap) xs.length (xs.map sv) := ⟨hxl, .inr ⟨g, cap, cur, rfl, hg, hcur, hcap, hcm, hcs, htk⟩⟩
      rw [hrow.cellAt j (by have := (List.getElem?_eq_some_iff.1 hj).1; simp at this; omega)]; exact hj
    obtain ⟨m, hm⟩ : ∃ m, xs.length = m := ⟨_, rfl⟩
    rw [hm] at hn ⊢
    have HM : Hid (xs.length = m) := hm
    clear hm hxl hcur hcap hcm hcs htk hg
    go_enter Tryz.func117, Tryz.ntmps117
    go_wp2_with (at_builtin; refine wpList_append_own _ rfl _ _ 61 rfl w.heap.size 9 i0 (.string ByteArray.empty) 1 16 Tryz.underlying61 hi0 hz0 hz1 hz2 (by rfl) (by decide) _ _ _ rfl (World.ownsRow_made w #[] 0 (Nat.le_refl _) (Nat.zero_le _) rfl) ⟨g, 0, none⟩ m cap (xs.map sv) rfl ?qc1 ?qc2 ?qc3 ?qc4 ?qc5 ?qc6 ?_)
    case qc1 => simp [HM.out]
    case qc2 =>
      intro j u hj
      rw [Addr.add_lit]
      have := HC.out j u hj
      simp only [Nat.zero_add]
      rw [World.cell?_alloc_lt _ _ _ (World.block_lt_of_cell? w _ this)]; exact this
    case qc3 => intro u hu; obtain ⟨x, _, rfl⟩ := List.mem_map.1 hu; rfl
    case qc4 => unfold maxLen; omega
    case qc5 => omega
    case qc6 => simp
    intro v' w1 hown hgrow hnil
    go_wp2
    go_ret
    refine ⟨v', rfl, by simpa using hown, ?_⟩
    exact ((Below.refl _ w).alloc (Nat.le_refl _) _).grown hgrow (by simp) (by intro k hk; simp [Value.ownBlock] at hk; omega)
theorem elC_one (l : List Elm) : ∀ u ∈ elCs l, u.oneCell' = true := by
  intro u hu
  unfold elCs at hu
  obtain ⟨x, _, hx⟩ := List.mem_flatMap.1 hu
  simp [elC] at hx
  rcases hx with rfl | rfl | rfl | rfl | rfl | rfl | rfl | rfl <;> rfl
/-- a list of elements, copied -/
theorem clone_e (w : World) (base : Nat) (v : Value) (l : List Elm) (h : w.ownsRow base 96 8 v l.length (elCs l)) (hn : l.length ≤ 1000000) :
    Calls Tryz.prog 67 #[v] w fun e w' => ∃ v', e = .returned v' ∧ w'.ownsRow w.heap.size 96 8 v' l.length (elCs l) ∧ Below w.heap.size w w' := by
  have q29 := eql_sl 54 96 Tryz.underlying54
  obtain ⟨i0, hi0, hz0, hz1, hz2⟩ := info_parts Tryz.infoE
  obtain ⟨hxl, ⟨rfl, hx0⟩ | ⟨g, cap, cur, rfl, hg, hcur, hcap, hcm, hcs, htk⟩⟩ := h
  · go_enter Tryz.func67, Tryz.ntmps67
    go_wp2_with fail
    go_ret
    have hxe : l = [] := List.length_eq_zero_iff.1 hx0
    subst hxe
    exact ⟨.slice none 0 0, rfl, World.ownsRow_nil _ _ _ _, Below.refl _ _⟩
  · have HC : Hid (∀ j u, (elCs l)[j]? = some u → w.cell? ⟨g, j, none⟩ = some u) := fun j u hj => by
      have hrow : w.ownsRow base 96 8 (.slice (some ⟨g, 0, none⟩) l.length cap) l.length (elCs l) := ⟨hxl, .inr ⟨g, cap, cur, rfl, hg, hcur, hcap, hcm, hcs, htk⟩⟩
      rw [hrow.cellAt j (by have := (List.getElem?_eq_some_iff.1 hj).1; omega)]; exact hj
    obtain ⟨m, hm⟩ : ∃ m, l.length = m := ⟨_, rfl⟩
    rw [hm] at hn ⊢
    have HM : Hid ((elCs l).length = m * 8 ∧ l.length = m) := ⟨by rw [elCs_len, hm], hm⟩
    clear hm hxl hcur hcap hcm hcs htk hg
    go_enter Tryz.func67, Tryz.ntmps67
    go_wp2_with (at_builtin; refine wpList_append_own _ rfl _ _ 54 rfl w.heap.size 96 i0 _ 8 104 Tryz.underlying54 hi0 hz0 hz1 hz2 (by rfl) (by decide) _ _ _ rfl (World.ownsRow_made w #[] 0 (Nat.le_refl _) (Nat.zero_le _) rfl) ⟨g, 0, none⟩ m cap (elCs l) rfl ?qc1 ?qc2 ?qc3 ?qc4 ?qc5 ?qc6 ?_)
    case qc1 => exact HM.out.1
    case qc2 =>
      intro j u hj
      rw [Addr.add_lit]
      have := HC.out j u hj
      simp only [Nat.zero_add]
      rw [World.cell?_alloc_lt _ _ _ (World.block_lt_of_cell? w _ this)]; exact this
    case qc3 => exact elC_one l
    case qc4 => unfold maxLen; omega
    case qc5 => omega
    case qc6 => simp
    intro v' w1 hown hgrow hnil
    go_wp2
    go_ret
    refine ⟨v', rfl, by simpa using hown, ?_⟩
    exact ((Below.refl _ w).alloc (Nat.le_refl _) _).grown hgrow (by simp) (by intro k hk; simp [Value.ownBlock] at hk; omega)
theorem nodes_made {w : World} {base p : Nat} {N : Ns} {b : Nb} (h : Nt w base p N b) (hn : N.nd.length ≤ 1000000) : Calls Tryz.prog 87 #[.pointer (some ⟨p, 0, none⟩)] w fun e w' => ∃ v', e = .returned v' ∧ w'.ownsRow w.heap.size 9 1 v' N.nd.length (N.nd.map sv) ∧ Below w.heap.size w w' := by
  have c2 := h.nm.c1
  have c3 := h.nd.c0
  have hcl := clone_s w base b.v3 N.nd h.nd.row hn
  go_enter Tryz.func87, Tryz.ntmps87
  go_wp2_with (first | (go_at_call 66; (with_reducible refine (made_yes c2).mono ?_); rintro e1 w1 ⟨rfl, rfl⟩) | (go_at_call 117; (with_reducible refine hcl.mono ?_); rintro e2 w2 ⟨v2, rfl, ho2, hb2⟩))
  go_ret
  exact ⟨v2, rfl, ho2, hb2⟩
theorem elements_made {w : World} {base p : Nat} {N : Ns} {b : Nb} (h : Nt w base p N b) (hn : N.es.length ≤ 1000000) : Calls Tryz.prog 27 #[.pointer (some ⟨p, 0, none⟩)] w fun e w' => ∃ v', e = .returned v' ∧ w'.ownsRow w.heap.size 96 8 v' N.es.length (elCs N.es) ∧ Below w.heap.size w w' := by
  have c2 := h.nm.c1
  have c0 := h.c0
  have hcl := clone_e w base b.v0 N.es h.es hn
  go_enter Tryz.func27, Tryz.ntmps27
  go_wp2_with (first | (go_at_call 66; (with_reducible refine (made_yes c2).mono ?_); rintro e1 w1 ⟨rfl, rfl⟩) | (go_at_call 67; (with_reducible refine hcl.mono ?_); rintro e2 w2 ⟨v2, rfl, ho2, hb2⟩))
  go_ret
  exact ⟨v2, rfl, ho2, hb2⟩
theorem without_no {w : World} {base p : Nat} {N : Ns} {b : Nb} (h : Nt w base p N b) (hn : [] ∉ N.nm) : Calls Tryz.prog 92 #[.pointer (some ⟨p, 0, none⟩), .string ⟨#[]⟩] w fun e w' => e = .returned (.tuple #[.pointer none, .int .i64 10]) ∧ w' = w := by
  have c2 := h.nm.c1
  have hpl := place_s w p 1 b.B2 N.nm ⟨#[]⟩ (by decide) c2 h.nm.mp
  rw [show decide (bl ⟨#[]⟩ ∈ N.nm) = false from decide_eq_false hn] at hpl
  go_enter Tryz.func92, Tryz.ntmps92
  go_wp2_with (first | (go_at_call 66; (with_reducible refine (made_yes c2).mono ?_); rintro e1 w1 ⟨rfl, rfl⟩) | (go_at_call 82; (with_reducible refine hpl.mono ?_); rintro e2 w2 ⟨rfl, rfl⟩))
  go_ret2
  exact ⟨rfl, rfl⟩

end Go.Proofs.YtmpkcioeodlbcaaGreatDoor
namespace Go.Proofs.YtmpkcioeodlbcaaGreatDoor
open Go.Maps Go.RowKit
set_option linter.unusedVariables false
set_option maxRecDepth 100000
/-- a list of lists: the row of slices v, its slices vals, each a row of its own -/
structure LL {α : Type} (w : World) (base : Nat) (To Ti : TypeId) (sz : Nat) (enc : α → List Value) (v : Value) (vals : List Value) (ls : List (List α)) : Prop where
  ty : To ≠ Ti
  out : w.ownsRow base To 1 v vals.length vals
  len : ls.length = vals.length
  inn : ∀ (j : Nat) (u : Value) (l : List α), vals[j]? = some u → ls[j]? = some l → w.ownsRow base Ti sz u l.length (l.flatMap enc)
  apart : ∀ (i j : Nat) (u u' : Value), vals[i]? = some u → vals[j]? = some u' → i ≠ j → Sep u u'
theorem LL.inn' {α : Type} {w : World} {base : Nat} {To Ti : TypeId} {sz : Nat} {enc : α → List Value} {v : Value} {vals : List Value} {ls : List (List α)} (h : LL w base To Ti sz enc v vals ls) {j : Nat} {u : Value} (hj : vals[j]? = some u) : ∃ l, ls[j]? = some l ∧ w.ownsRow base Ti sz u l.length (l.flatMap enc) := by
  have hlt := (List.getElem?_eq_some_iff.1 hj).1
  obtain ⟨l, hl⟩ : ∃ l, ls[j]? = some l := ⟨_, List.getElem?_eq_getElem (by rw [h.len]; exact hlt)⟩
  exact ⟨l, hl, h.inn j u l hj hl⟩
theorem LL.kept {α : Type} {w w' : World} {base : Nat} {To Ti : TypeId} {sz : Nat} {enc : α → List Value} {v : Value} {vals : List Value} {ls : List (List α)} (h : LL w base To Ti sz enc v vals ls) (h1 : ∀ g, v.ownBlock = some g → w'.heap[g]? = w.heap[g]?) (h2 : ∀ u ∈ vals, ∀ g, u.ownBlock = some g → w'.heap[g]? = w.heap[g]?) : LL w' base To Ti sz enc v vals ls :=
  ⟨h.ty, row_block h.out h1, h.len, fun j u l hj hl => row_block (h.inn j u l hj hl) (h2 u (List.mem_of_getElem? hj)), h.apart⟩
theorem LL.lt {α : Type} {w : World} {base : Nat} {To Ti : TypeId} {sz : Nat} {enc : α → List Value} {v : Value} {vals : List Value} {ls : List (List α)} (h : LL w base To Ti sz enc v vals ls) {u : Value} (hu : u ∈ vals) {g : Nat} (hg : u.ownBlock = some g) : base ≤ g ∧ g < w.heap.size := by
  obtain ⟨j, hj⟩ := List.mem_iff_getElem?.1 hu
  obtain ⟨l, _, hr⟩ := h.inn' hj
  exact row_ge hr hg
theorem LL.below {α : Type} {w w' : World} {base : Nat} {To Ti : TypeId} {sz : Nat} {enc : α → List Value} {v : Value} {vals : List Value} {ls : List (List α)} (h : LL w base To Ti sz enc v vals ls) (hb : Below w.heap.size w w') : LL w' base To Ti sz enc v vals ls :=
  h.kept (fun g hg => hb.block g (row_ge h.out hg).2) (fun u hu g hg => hb.block g (h.lt hu hg).2)
theorem LL.nil {α : Type} (w : World) (base : Nat) {To Ti : TypeId} (ht : To ≠ Ti) (sz : Nat) (enc : α → List Value) : LL w base To Ti sz enc (.slice none 0 0) [] [] :=
  ⟨ht, World.ownsRow_nil _ _ _ _, rfl, fun j u l h => by simp at h, fun i j u u' h => by simp at h⟩
/-- one of the lists has grown -/
theorem LL.store {α : Type} {w w1 : World} {base BL n cap j : Nat} {To Ti : TypeId} {sz : Nat} {enc : α → List Value} {vals : List Value} {ls : List (List α)} {u u' : Value} {l' : List α} (h : LL w base To Ti sz enc (.slice (some ⟨BL, 0, none⟩) n cap) vals ls) (hj : vals[j]? = some u)
    (hg : w.grownBy w1 u.ownBlock) (hr : w1.ownsRow base Ti sz u' l'.length (l'.flatMap enc)) (hv : ∀ g, u'.ownBlock = some g → u.ownBlock = some g ∨ w.heap.size ≤ g) :
    LL (w1.setCell ⟨BL, j, none⟩ u') base To Ti sz enc (.slice (some ⟨BL, 0, none⟩) n cap) (vals.set j u') (ls.set j l') := by
  obtain ⟨l, hl, hru⟩ := h.inn' hj
  have hlt := (List.getElem?_eq_some_iff.1 hj).1
  have hBL : BL < w.heap.size := (row_ge h.out (g := BL) rfl).2
  have hn : vals.length = n := by
    obtain ⟨_, ⟨q, _⟩ | ⟨g, c2, cur, q, _⟩⟩ := h.out
    · cases q
    · cases q; rfl
  have o1 : w1.ownsRow base To 1 (.slice (some ⟨BL, 0, none⟩) n cap) vals.length vals := h.out.kept hg (Or.inr (fun e => row_type h.out hru h.ty (g := BL) rfl e.symm))
  have o2 := o1
  rw [hn] at o2
  have hnb : ∀ x : Value, ∀ l2 : List α, w.ownsRow base Ti sz x l2.length (l2.flatMap enc) → x.ownBlock ≠ some BL := fun x l2 hx e => row_type h.out hx h.ty (g := BL) rfl e
  have hub : u'.ownBlock ≠ some BL := fun e => by
    rcases hv BL e with q | q
    · exact hnb u l hru q
    · omega
  refine ⟨h.ty, ?_, by simp [h.len], fun i x m hi hm => ?_, fun i k x y hi hk hik => ?_⟩
  · rw [List.length_set, hn]; exact (o2.stored j u').1
  · rw [List.getElem?_set] at hi hm
    by_cases e : j = i
    · subst e
      rw [if_pos rfl, if_pos hlt] at hi
      rw [if_pos rfl, if_pos (by rw [h.len]; exact hlt)] at hm
      cases hi; cases hm
      exact row_block hr fun g hg2 => heap_setCell_other w1 ⟨BL, j, none⟩ g u' (fun e => hub (by rw [hg2]; simpa using e))
    · rw [if_neg e] at hi hm
      have h3 := h.inn i x m hi hm
      have h4 := h3.kept hg (by
        cases q : x.ownBlock with
        | none => exact .inl rfl
        | some g => exact .inr (fun q2 => h.apart i j x u hi hj (fun e2 => e e2.symm) g q q2.symm))
      exact row_block h4 fun g hg2 => heap_setCell_other w1 ⟨BL, j, none⟩ g u' (fun e2 => hnb x m h3 (by rw [hg2]; simpa using e2))
  · rw [List.getElem?_set] at hi hk
    by_cases e : j = i
    · subst e
      rw [if_pos rfl, if_pos hlt] at hi
      cases hi
      rw [if_neg hik] at hk
      intro g q1 q2
      rcases hv g q1 with q3 | q3
      · exact h.apart j k u y hj hk hik g q3 q2
      · have := (h.lt (List.mem_of_getElem? hk) q2).2; omega
    · rw [if_neg e] at hi
      by_cases e2 : j = k
      · subst e2
        rw [if_pos rfl, if_pos hlt] at hk
        cases hk
        intro g q1 q2
        rcases hv g q2 with q3 | q3
        · exact h.apart i j x u hi hj hik g q1 q3
        · have := (h.lt (List.mem_of_getElem? hi) q1).2; omega
      · rw [if_neg e2] at hk
        exact h.apart i k x y hi hk hik
/-- a list more -/
theorem LL.push {α : Type} {w w1 : World} {base : Nat} {To Ti : TypeId} {sz : Nat} {enc : α → List Value} {v v' : Value} {vals : List Value} {ls : List (List α)} {u : Value} {l : List α} (h : LL w base To Ti sz enc v vals ls) (hu : w.ownsRow base Ti sz u l.length (l.flatMap enc)) (hs : ∀ x ∈ vals, Sep x u)
    (hg : w.grownBy w1 v.ownBlock) (hr : w1.ownsRow base To 1 v' (vals.length + 1) (vals ++ [u])) : LL w1 base To Ti sz enc v' (vals ++ [u]) (ls ++ [l]) := by
  have hne : ∀ x : Value, ∀ l2 : List α, w.ownsRow base Ti sz x l2.length (l2.flatMap enc) → w1.ownsRow base Ti sz x l2.length (l2.flatMap enc) := fun x l2 hx => hx.kept hg (by
    cases q : x.ownBlock with
    | none => exact .inl rfl
    | some g => exact .inr (fun q2 => row_type hx h.out (fun e => h.ty e.symm) q q2.symm))
  refine ⟨h.ty, by rw [List.length_append]; exact hr, by simp [h.len], fun i x m hi hm => ?_, fun i k x y hi hk hik => ?_⟩
  · by_cases e : i < vals.length
    · rw [List.getElem?_append_left e] at hi
      rw [List.getElem?_append_left (by rw [h.len]; exact e)] at hm
      exact hne x m (h.inn i x m hi hm)
    · rw [List.getElem?_append_right (by omega)] at hi
      rw [List.getElem?_append_right (by rw [h.len]; omega)] at hm
      have e0 : i - vals.length = 0 := by
        have := (List.getElem?_eq_some_iff.1 hi).1; simp at this; omega
      rw [e0] at hi
      rw [h.len, e0] at hm
      cases hi; cases hm
      exact hne _ _ hu
  · have hs2 : ∀ x ∈ vals, Sep u x := fun x hx => (hs x hx).symm
    by_cases e : i < vals.length
    · rw [List.getElem?_append_left e] at hi
      by_cases e2 : k < vals.length
      · rw [List.getElem?_append_left e2] at hk
        exact h.apart i k x y hi hk hik
      · rw [List.getElem?_append_right (by omega)] at hk
        have e0 : k - vals.length = 0 := by
          have := (List.getElem?_eq_some_iff.1 hk).1; simp at this; omega
        rw [e0] at hk
        cases hk
        exact hs x (List.mem_of_getElem? hi)
    · rw [List.getElem?_append_right (by omega)] at hi
      have e0 : i - vals.length = 0 := by
        have := (List.getElem?_eq_some_iff.1 hi).1; simp at this; omega
      rw [e0] at hi
      cases hi
      by_cases e2 : k < vals.length
      · rw [List.getElem?_append_left e2] at hk
        exact hs2 y (List.mem_of_getElem? hk)
      · rw [List.getElem?_append_right (by omega)] at hk
        have e1 : k - vals.length = 0 := by
          have := (List.getElem?_eq_some_iff.1 hk).1; simp at this; omega
        exfalso; omega
def twE (t : Tw) : List Value := [sv t.1, .int .i64 (t.2 : Int)]
def nmE (s : Nm) : List Value := [sv s]
theorem nmE_map (l : List Nm) : l.flatMap nmE = l.map sv := by
  induction l with
  | nil => rfl
  | cons x t ih => rw [List.flatMap_cons, ih]; rfl
theorem twE_get {l : List Tw} {k : Nat} {t : Tw} (h : l[k]? = some t) : (l.flatMap twE)[k * 2]? = some (sv t.1) ∧ (l.flatMap twE)[k * 2 + 1]? = some (.int .i64 (t.2 : Int)) := by
  induction l generalizing k with
  | nil => cases h
  | cons y r ih =>
    rw [List.flatMap_cons]
    have hy : (twE y).length = 2 := rfl
    cases k with
    | zero => cases h; exact ⟨rfl, rfl⟩
    | succ k =>
      rw [List.getElem?_append_right (by rw [hy]; omega), List.getElem?_append_right (by rw [hy]; omega), hy, show (k + 1) * 2 - 2 = k * 2 by omega, show (k + 1) * 2 + 1 - 2 = k * 2 + 1 by omega]
      exact ih (by simpa using h)
/-- the values of a forest's fields -/
structure Fb where
  vn : Value
  BL : Nat
  vt : Value
  vl : Value
  tv : List Value
  lv : List Value
/-- a forest -/
structure Fr_God where
  nd : List Nm
  tw : List (List Tw)
  tr : List Nm
  lp : List (List Nm)
/-- a forest in memory, at fp; all of it lies from base on -/
structure Fo (w : World) (base fp : Nat) (F : Fr_God) (b : Fb) : Prop where
  blk : w.heap[fp]? = some (.cells #[b.vn, .slice (some ⟨b.BL, 0, none⟩) F.tw.length F.tw.length, b.vt, b.vl] 241 (0, 0))
  lo : base ≤ fp
  nd : w.ownsRow base 9 1 b.vn F.nd.length (F.nd.map sv)
  tws : LL w base 245 247 2 twE (.slice (some ⟨b.BL, 0, none⟩) F.tw.length F.tw.length) b.tv F.tw
  tr : w.ownsRow base 9 1 b.vt F.tr.length (F.tr.map sv)
  lps : LL w base 61 9 1 nmE b.vl b.lv F.lp
  s1 : Sep b.vt b.vn
  s2 : ∀ u ∈ b.lv, Sep u b.vt
theorem Fo.lt {w : World} {base fp : Nat} {F : Fr_God} {b : Fb} (h : Fo w base fp F b) : fp < w.heap.size := (Array.getElem?_eq_some_iff.1 h.blk).1
theorem Fo.below {w w' : World} {base fp : Nat} {F : Fr_God} {b : Fb} (h : Fo w base fp F b) (hb : Below w.heap.size w w') : Fo w' base fp F b :=
  ⟨by rw [hb.block fp h.lt]; exact h.blk, h.lo, row_block h.nd fun g hg => hb.block g (row_ge h.nd hg).2, h.tws.below hb, row_block h.tr fun g hg => hb.block g (row_ge h.tr hg).2, h.lps.below hb, h.s1, h.s2⟩
theorem Fo.c {w : World} {base fp : Nat} {F : Fr_God} {b : Fb} (h : Fo w base fp F b) : w.cell? ⟨fp, 0, none⟩ = some b.vn ∧ w.cell? ⟨fp, 1, none⟩ = some (.slice (some ⟨b.BL, 0, none⟩) F.tw.length F.tw.length) ∧ w.cell? ⟨fp, 2, none⟩ = some b.vt ∧ w.cell? ⟨fp, 3, none⟩ = some b.vl := by
  refine ⟨?_, ?_, ?_, ?_⟩ <;> rw [cell_of_row w fp _ _ _ (0, 0) h.blk] <;> rfl
/-- how great a forest may be -/
structure Fr_God.ok (F : Fr_God) : Prop where
  n : F.tw.length ≤ 100000
  t : ∀ ts ∈ F.tw, ts.length ≤ 100000
  r : F.tr.length ≤ 100000
  l : F.lp.length ≤ 100000
theorem Fo.twR {w : World} {base fp : Nat} {F : Fr_God} {b : Fb} (h : Fo w base fp F b) (hk : F.ok) : TwR w fp w.heap.size F.tw := by
  refine ⟨h.lt, by have := hk.n; omega, fun ts ht => by have := hk.t ts ht; omega, b.BL, F.tw.length, h.c.2.1, (row_ge h.tws.out (g := b.BL) rfl).2, fun j ts hj => ?_⟩
  have hlt := (List.getElem?_eq_some_iff.1 hj).1
  have hn := h.tws.len
  obtain ⟨u, hu⟩ : ∃ u, b.tv[j]? = some u := ⟨_, List.getElem?_eq_getElem (by omega)⟩
  have hr := h.tws.inn j _ ts hu hj
  have o := h.tws.out
  rw [← hn] at o
  refine ⟨u, by rw [o.cellAt j (by omega)]; exact hu, ?_⟩
  obtain ⟨_, ⟨q1, q2⟩ | ⟨g, cap, cur, q1, q2, q3, q4⟩⟩ := hr
  · exact ⟨none, 0, by rw [q1, q2], .inl (List.length_eq_zero_iff.1 q2)⟩
  · refine ⟨_, cap, q1, .inr ⟨g, rfl, (Array.getElem?_eq_some_iff.1 q3).1, fun k t hkt => ?_⟩⟩
    have hr2 := h.tws.inn j _ ts hu hj
    rw [q1] at hr2
    have hl2 := (List.getElem?_eq_some_iff.1 hkt).1
    exact ⟨by rw [hr2.cellAt (k * 2) (by omega)]; exact (twE_get hkt).1, by rw [hr2.cellAt (k * 2 + 1) (by omega)]; exact (twE_get hkt).2⟩

end Go.Proofs.YtmpkcioeodlbcaaGreatDoor
namespace Go.Proofs.YtmpkcioeodlbcaaGreatDoor
open Go.Maps Go.RowKit
set_option linter.unusedVariables false
set_option maxRecDepth 100000
def pushT (tw : List (List Tw)) (a : Nat) (t : Tw) : List (List Tw) := tw.set a (tw.getD a [] ++ [t])
/-- take, without memory; none: seek did not come to an end -/
def Fr_God.take (f : Nat) (F : Fr_God) (nm : Nm) (a b : Nat) : Option Fr_God := match skF F.tw b f a (-1) with
  | none => none
  | some (some way) => some { F with lp := F.lp ++ [nm :: way] }
  | some none => some { F with tr := F.tr ++ [nm], tw := pushT (pushT F.tw a (nm, b)) b (nm, a) }
theorem row_slice {w : World} {base : Nat} {e : TypeId} {sz : Nat} {v : Value} {n : Nat} {xs : List Value} (h : w.ownsRow base e sz v n xs) : ∃ A cap, v = .slice A n cap := by
  obtain ⟨_, ⟨h1, h2⟩ | ⟨g, cap, cur, h1, _⟩⟩ := h
  · exact ⟨none, 0, by rw [h1, h2]⟩
  · exact ⟨_, _, h1⟩
theorem row_some {w : World} {base : Nat} {e : TypeId} {sz : Nat} {v : Value} {n : Nat} {xs : List Value} (h : w.ownsRow base e sz v n xs) (hn : 0 < n) : ∃ g cap, v = .slice (some ⟨g, 0, none⟩) n cap := by
  obtain ⟨_, ⟨h1, h2⟩ | ⟨g, cap, cur, h1, _⟩⟩ := h
  · omega
  · exact ⟨_, _, h1⟩
theorem skF_ne {tw : List (List Tw)} {b f a : Nat} {bef : Int} {l : List Nm} (h : skF tw b f a bef = some (some l)) (hab : a ≠ b) : 0 < l.length := by
  cases f with
  | zero => cases h
  | succ f =>
    unfold skF at h
    rw [if_neg hab] at h
    cases q : tw[a]? with
    | none => rw [q] at h; cases h
    | some ts =>
      rw [q] at h
      simp only at h
      clear q
      induction ts with
      | nil => cases h
      | cons t r ih =>
        unfold skL at h
        split at h
        · exact ih h
        · cases q : skF tw b f t.2 a with
          | none => rw [q] at h; cases h
          | some o =>
            cases o with
            | none => rw [q] at h; exact ih h
            | some m => rw [q] at h; cases h; simp
theorem Tryz.infoSS : (Tryz.prog.info? 61).map (fun i => (i.zero, i.size, i.bytes)) = some (some (.slice none 0 0), 1, 24) := by kernel_rfl
theorem Tryz.infoTW : (Tryz.prog.info? 247).map (fun i => (i.zero, i.size, i.bytes)) = some (some (.agg #[.string ⟨#[]⟩, .int .i64 0]), 2, 24) := by kernel_rfl
theorem fo_set {w : World} {fp : Nat} {c c' : Array Value} {T : TypeId} {i : Nat} {v : Value} (h : w.heap[fp]? = some (.cells c T (0, 0))) (hc : c.setIfInBounds i v = c') : (w.setCell ⟨fp, i, none⟩ v).heap[fp]? = some (.cells c' T (0, 0)) := by rw [← hc]; exact heap_setCell_same w fp i c T v h
theorem row_cells {w : World} {base : Nat} {e : TypeId} {sz : Nat} {v : Value} {n : Nat} {xs : List Value} (h : w.ownsRow base e sz v n xs) {k : Nat} {c : Array Value} {t : TypeId} {fz : Nat × Nat} (hk : w.heap[k]? = some (.cells c t fz)) (hne : t ≠ e) : v.ownBlock ≠ some k := by
  intro hv
  obtain ⟨_, ⟨rfl, _⟩ | ⟨g, cap, cur, rfl, _, h4, _⟩⟩ := h
  · cases hv
  · cases hv
    rw [h4] at hk
    injection hk with hk; injection hk with _ hk
    exact hne hk.symm
/-- elements and maps in memory stay -/
def Kq (w w' : World) : Prop := ∀ (k : Nat) (o : Obj), w.heap[k]? = some o → ((∃ es c, o = .map es c) ∨ ∃ c fz, o = .cells c 96 fz) → w'.heap[k]? = some o
theorem Kq.refl (w : World) : Kq w w := fun _ _ h _ => h
theorem Kq.trans {w w1 w2 : World} (h : Kq w w1) (h2 : Kq w1 w2) : Kq w w2 := fun k o hk ho => h2 k o (h k o hk ho) ho
theorem Kq.bel {w w' : World} (h : Below w.heap.size w w') : Kq w w' := fun k o hk _ => by rw [h.block k (Array.getElem?_eq_some_iff.1 hk).1]; exact hk
theorem Kq.row {w w1 : World} {base : Nat} {e : TypeId} {sz : Nat} {v : Value} {n : Nat} {xs : List Value} (h : w.ownsRow base e sz v n xs) (he : e ≠ 96) (hg : w.grownBy w1 v.ownBlock) : Kq w w1 := by
  intro k o hk ho
  rw [hg.block k (Array.getElem?_eq_some_iff.1 hk).1 ?_]
  · exact hk
  · intro q
    obtain ⟨_, ⟨rfl, _⟩ | ⟨g, cap, cur, rfl, _, h4, _⟩⟩ := h
    · cases q
    · cases q
      rw [h4] at hk
      cases hk
      rcases ho with ⟨es, c, q⟩ | ⟨c, fz, q⟩
      · cases q
      · cases q; exact he rfl
theorem Kq.set {w : World} {p j : Nat} {u : Value} {c0 : Array Value} {t : TypeId} {f0 : Nat × Nat} (hp : w.heap[p]? = some (.cells c0 t f0)) (ht : t ≠ 96) : Kq w (w.setCell ⟨p, j, none⟩ u) := by
  intro k o hk ho
  rw [heap_setCell_other w ⟨p, j, none⟩ k u ?_]
  · exact hk
  · rintro rfl
    rw [hp] at hk
    cases hk
    rcases ho with ⟨es, c, q⟩ | ⟨c, fz, q⟩
    · cases q
    · cases q; exact ht rfl
/-- a loop more: inner its list, the row of loops has grown -/
theorem Fo.pushLp {w w1 : World} {base fp : Nat} {F : Fr_God} {b : Fb} {u v' : Value} {l : List Nm} (h : Fo w base fp F b) (hu : w.ownsRow base 9 1 u l.length (l.map sv)) (hs : ∀ x ∈ b.lv, Sep x u) (ht : Sep u b.vt) (hg : w.grownBy w1 b.vl.ownBlock) (hr : w1.ownsRow base 61 1 v' (F.lp.length + 1) (b.lv ++ [u])) :
    Fo (w1.setCell ⟨fp, 3, none⟩ v') base fp { F with lp := F.lp ++ [l] } { b with vl := v', lv := b.lv ++ [u] } ∧ Below base w (w1.setCell ⟨fp, 3, none⟩ v') ∧ Kq w (w1.setCell ⟨fp, 3, none⟩ v') := by
  have hf : b.vl.ownBlock ≠ some fp := row_cells h.lps.out h.blk (by decide)
  have hb1 : w1.heap[fp]? = w.heap[fp]? := hg.block fp h.lt (fun e => hf e.symm)
  have hk : ∀ k, k < w.heap.size → k ≠ fp → b.vl.ownBlock ≠ some k → (w1.setCell ⟨fp, 3, none⟩ v').heap[k]? = w.heap[k]? := fun k h1 h2 h3 => (heap_setCell_other w1 ⟨fp, 3, none⟩ k v' (by simpa using h2)).trans (hg.block k h1 (fun e => h3 e.symm))
  have hrow : ∀ {e sz v n xs}, e ≠ 241 → e ≠ 61 → w.ownsRow base e sz v n xs → (w1.setCell ⟨fp, 3, none⟩ v').ownsRow base e sz v n xs := fun h1 h2 q => row_block q fun g hg2 => hk g (row_ge q hg2).2 (fun e => row_cells q h.blk (Ne.symm h1) (by rw [hg2, e])) (row_type q h.lps.out h2 hg2)
  have hfz : ∀ {e sz v n xs}, e ≠ 241 → w1.ownsRow base e sz v n xs → (w1.setCell ⟨fp, 3, none⟩ v').ownsRow base e sz v n xs := fun h1 q => row_block q fun g hg2 => heap_setCell_other w1 ⟨fp, 3, none⟩ g v' (fun e => row_cells q (hb1.trans h.blk) (Ne.symm h1) (by rw [hg2]; simpa using e))
  have hL := h.lps.push (v' := v') (l := l) (by rw [nmE_map]; exact hu) hs hg (by rw [← h.lps.len]; exact hr)
  refine ⟨⟨fo_set (hb1.trans h.blk) rfl, h.lo, hrow (by decide) (by decide) h.nd, ⟨h.tws.ty, hrow (by decide) (by decide) h.tws.out, h.tws.len, fun j x m h1 h2 => hrow (by decide) (by decide) (h.tws.inn j x m h1 h2), h.tws.apart⟩, hrow (by decide) (by decide) h.tr, ⟨hL.ty, hfz (by decide) hL.out, hL.len, fun j x m h1 h2 => hfz (by decide) (hL.inn j x m h1 h2), hL.apart⟩, h.s1, fun x hx => ?_⟩, ⟨hg.os, hg.tape, hg.output, by have := hg.size; simpa [World.setCell] using this, fun k hk2 => ?_⟩, (Kq.row h.lps.out (by decide) hg).trans (Kq.set (hb1.trans h.blk) (by decide))⟩
  · rcases List.mem_append.1 hx with q | q
    · exact h.s2 x q
    · simp at q; subst q; exact ht
  · have hlo := h.lo
    have hlt := h.lt
    exact hk k (by omega) (by omega) (fun e => by have := (row_ge h.lps.out e).1; omega)
/-- the tree has grown by a name -/
theorem Fo.pushTr {w w1 : World} {base fp : Nat} {F : Fr_God} {b : Fb} {v' : Value} {l : List Nm} (h : Fo w base fp F b) (hg : w.grownBy w1 b.vt.ownBlock) (hr : w1.ownsRow base 9 1 v' l.length (l.map sv)) (hv : ∀ g, v'.ownBlock = some g → b.vt.ownBlock = some g ∨ w.heap.size ≤ g) :
    Fo (w1.setCell ⟨fp, 2, none⟩ v') base fp { F with tr := l } { b with vt := v' } ∧ Below base w (w1.setCell ⟨fp, 2, none⟩ v') ∧ Kq w (w1.setCell ⟨fp, 2, none⟩ v') := by
  have hf : b.vt.ownBlock ≠ some fp := row_cells h.tr h.blk (by decide)
  have hb1 : w1.heap[fp]? = w.heap[fp]? := hg.block fp h.lt (fun e => hf e.symm)
  have hk : ∀ k, k < w.heap.size → k ≠ fp → b.vt.ownBlock ≠ some k → (w1.setCell ⟨fp, 2, none⟩ v').heap[k]? = w.heap[k]? := fun k h1 h2 h3 => (heap_setCell_other w1 ⟨fp, 2, none⟩ k v' (by simpa using h2)).trans (hg.block k h1 (fun e => h3 e.symm))
  have hrow : ∀ {e sz v n xs}, e ≠ 241 → (e ≠ 9 ∨ Sep v b.vt) → w.ownsRow base e sz v n xs → (w1.setCell ⟨fp, 2, none⟩ v').ownsRow base e sz v n xs := fun h1 h2 q => row_block q fun g hg2 => hk g (row_ge q hg2).2 (fun e => row_cells q h.blk (Ne.symm h1) (by rw [hg2, e])) (by
    rcases h2 with h2 | h2
    · exact row_type q h.tr h2 hg2
    · exact h2 g hg2)
  have hnew : ∀ {u : Value}, Sep u b.vt → (∀ g, u.ownBlock = some g → g < w.heap.size) → Sep u v' := fun h1 h2 => sep_new h1 hv h2
  refine ⟨⟨fo_set (hb1.trans h.blk) rfl, h.lo, hrow (by decide) (.inr h.s1.symm) h.nd, ⟨h.tws.ty, hrow (by decide) (.inl (by decide)) h.tws.out, h.tws.len, fun j x m h1 h2 => hrow (by decide) (.inl (by decide)) (h.tws.inn j x m h1 h2), h.tws.apart⟩, row_block hr fun g hg2 => heap_setCell_other w1 ⟨fp, 2, none⟩ g v' (fun e => row_cells hr (hb1.trans h.blk) (by decide) (by rw [hg2]; simpa using e)), ⟨h.lps.ty, hrow (by decide) (.inl (by decide)) h.lps.out, h.lps.len, fun j x m h1 h2 => hrow (by decide) (.inr (h.s2 x (List.mem_of_getElem? h1))) (h.lps.inn j x m h1 h2), h.lps.apart⟩, (hnew h.s1.symm fun g hg2 => (row_ge h.nd hg2).2).symm, fun x hx => hnew (h.s2 x hx) fun g hg2 => (h.lps.lt hx hg2).2⟩, ⟨hg.os, hg.tape, hg.output, by have := hg.size; simpa [World.setCell] using this, fun k hk2 => ?_⟩, (Kq.row h.tr (by decide) hg).trans (Kq.set (hb1.trans h.blk) (by decide))⟩
  have hlo := h.lo
  have hlt := h.lt
  exact hk k (by omega) (by omega) (fun e => by have := (row_ge h.tr e).1; omega)
theorem kq_BL {w w1 : World} {base BL n cap j : Nat} {u u' : Value} {vals xs : List Value} {m : Nat} (h : w.ownsRow base 245 1 (.slice (some ⟨BL, 0, none⟩) n cap) vals.length vals) (hu : w.ownsRow base 247 2 u m xs) (hg : w.grownBy w1 u.ownBlock) : Kq w1 (w1.setCell ⟨BL, j, none⟩ u') := by
  have hne : u.ownBlock ≠ some BL := fun e => row_type h hu (by decide) (g := BL) rfl e
  obtain ⟨_, ⟨q, _⟩ | ⟨g, c2, cur, q, _, h4, _⟩⟩ := h
  · cases q
  · cases q
    exact Kq.set ((hg.block _ (Array.getElem?_eq_some_iff.1 h4).1 (fun e => hne e.symm)).trans h4) (by decide)
/-- a twig more at a node -/
theorem Fo.pushTw {w w1 : World} {base fp : Nat} {F : Fr_God} {b : Fb} {u u' : Value} {a : Nat} {t : Tw} (h : Fo w base fp F b) (ha : b.tv[a]? = some u) (hg : w.grownBy w1 u.ownBlock) (hr : w1.ownsRow base 247 2 u' ((F.tw.getD a []).length + 1) ((F.tw.getD a [] ++ [t]).flatMap twE)) (hv : ∀ g, u'.ownBlock = some g → u.ownBlock = some g ∨ w.heap.size ≤ g) :
    Fo (w1.setCell ⟨b.BL, a, none⟩ u') base fp { F with tw := pushT F.tw a t } { b with tv := b.tv.set a u' } ∧ Below base w (w1.setCell ⟨b.BL, a, none⟩ u') ∧ Kq w (w1.setCell ⟨b.BL, a, none⟩ u') := by
  obtain ⟨l, hl, hru⟩ := h.tws.inn' ha
  have hBb := row_ge h.tws.out (g := b.BL) rfl
  have hf : u.ownBlock ≠ some fp := row_cells hru h.blk (by decide)
  have hfB : fp ≠ b.BL := fun e => row_cells h.tws.out h.blk (by decide) (by rw [e]; rfl)
  have hk : ∀ k, k < w.heap.size → k ≠ b.BL → u.ownBlock ≠ some k → (w1.setCell ⟨b.BL, a, none⟩ u').heap[k]? = w.heap[k]? := fun k h1 h2 h3 => (heap_setCell_other w1 ⟨b.BL, a, none⟩ k u' (by simpa using h2)).trans (hg.block k h1 (fun e => h3 e.symm))
  have hrow : ∀ {e sz v n xs}, e ≠ 245 → e ≠ 247 → w.ownsRow base e sz v n xs → (w1.setCell ⟨b.BL, a, none⟩ u').ownsRow base e sz v n xs := fun h1 h2 q => row_block q fun g hg2 => hk g (row_ge q hg2).2 (fun e => row_type h.tws.out q (Ne.symm h1) (g := b.BL) rfl (by rw [hg2, e])) (row_type q hru h2 hg2)
  have hS := h.tws.store (l' := F.tw.getD a [] ++ [t]) ha hg (by rw [List.length_append]; exact hr) hv
  have hln : (pushT F.tw a t).length = F.tw.length := by unfold pushT; simp
  refine ⟨⟨?_, h.lo, hrow (by decide) (by decide) h.nd, ?_, hrow (by decide) (by decide) h.tr, ⟨h.lps.ty, hrow (by decide) (by decide) h.lps.out, h.lps.len, fun j x m h1 h2 => hrow (by decide) (by decide) (h.lps.inn j x m h1 h2), h.lps.apart⟩, h.s1, h.s2⟩, ⟨hg.os, hg.tape, hg.output, by have := hg.size; simpa [World.setCell] using this, fun k hk2 => hk k (by have := h.lt; have := h.lo; omega) (by omega) (fun e => by have := (row_ge hru e).1; omega)⟩, (Kq.row hru (by decide) hg).trans (kq_BL h.tws.out hru hg)⟩
  · rw [hk fp h.lt hfB hf]
    show _ = some (Obj.cells #[b.vn, .slice (some ⟨b.BL, 0, none⟩) (pushT F.tw a t).length (pushT F.tw a t).length, b.vt, b.vl] _ _)
    rw [hln]; exact h.blk
  · show LL _ base _ _ 2 twE (.slice (some ⟨b.BL, 0, none⟩) (pushT F.tw a t).length (pushT F.tw a t).length) (b.tv.set a u') (pushT F.tw a t)
    rw [hln]; exact hS

end Go.Proofs.YtmpkcioeodlbcaaGreatDoor
namespace Go.Proofs.YtmpkcioeodlbcaaGreatDoor
open Go.Maps Go.RowKit
set_option linter.unusedVariables false
set_option maxRecDepth 100000
theorem fo_froz {w : World} {base fp : Nat} {F : Fr_God} {b : Fb} (h : Fo w base fp F b) (j : Nat) : w.frozen? ⟨fp, j, none⟩ = false := frozen_of_row w fp j _ _ h.blk
theorem loop_end {w w1 wA w2 w3 : World} {base fp qA m g2 cap2 g3 c3 : Nat} {F : Fr_God} {B : Fb} {s : ByteArray} {way : List Nm} {v3 : Value} {o : Obj} (hF1 : Fo w1 base fp F B) (hv : B.vl = v3) (b1 : Below w.heap.size w w1) (bA : Below w1.heap.size w1 wA) (hb : base ≤ w.heap.size) (hq : wA.heap.size = qA + 1) (hq1 : qA = w1.heap.size) (hm : way.length = m)
    (hown2 : w2.ownsRow base 9 1 (.slice (some ⟨g2, 0, none⟩) (1 + m) cap2) (1 + m) ([.string s] ++ way.map sv)) (hgrow2 : wA.drew.grownBy w2 (some qA)) (hat2 : (some qA : Option Nat) = some g2 ∨ g2 = wA.heap.size)
    (hown3 : w3.ownsRow base 61 1 (.slice (some ⟨g3, 0, none⟩) (F.lp.length + 1) c3) (F.lp.length + 1) (B.lv ++ [.slice (some ⟨g2, 0, none⟩) (1 + m) cap2])) (hgrow3 : (w2.alloc o).grownBy w3 v3.ownBlock) :
    (∃ B', Fo (w3.setCell ⟨fp, 3, none⟩ (.slice (some ⟨g3, 0, none⟩) (F.lp.length + 1) c3)) base fp { F with lp := F.lp ++ [bl s :: way] } B') ∧ Below base w (w3.setCell ⟨fp, 3, none⟩ (.slice (some ⟨g3, 0, none⟩) (F.lp.length + 1) c3)) ∧ Kq w (w3.setCell ⟨fp, 3, none⟩ (.slice (some ⟨g3, 0, none⟩) (F.lp.length + 1) c3)) := by
  have hs1 := b1.size
  have b2 : Below w1.heap.size w1 w2 := bA.trans ⟨hgrow2.os, hgrow2.tape, hgrow2.output, hgrow2.size, fun k hk => hgrow2.block k (by show k < wA.heap.size; omega) (fun e => by cases e; omega)⟩
  have b3 : Below w1.heap.size w1 (w2.alloc o) := b2.alloc (by have := b2.size; omega) _
  have hF3 := hF1.below b3
  have hge : w1.heap.size ≤ g2 := by rcases hat2 with q | q; cases q; omega; omega
  have hP := hF3.pushLp (u := .slice (some ⟨g2, 0, none⟩) (1 + m) cap2) (v' := .slice (some ⟨g3, 0, none⟩) (F.lp.length + 1) c3) (l := bl s :: way) (by
      rw [List.length_cons, hm, Nat.add_comm m 1]; exact (hown2.alloc o)) (fun x hx g q1 q2 => by have e : g2 = g := Option.some.inj q2; have := (hF1.lps.lt hx q1).2; omega) (fun g q1 q2 => by have e : g2 = g := Option.some.inj q1; have := (row_ge hF1.tr q2).2; omega) (by rw [hv]; exact hgrow3) hown3
  exact ⟨⟨_, hP.1⟩, (b1.mono hb).trans ((b3.mono (by omega)).trans hP.2.1), (Kq.bel b1).trans ((Kq.bel b3).trans hP.2.2)⟩
set_option maxHeartbeats 4000000 in
theorem take_loop (w : World) (base fp a b f : Nat) (F : Fr_God) (B : Fb) (s : ByteArray) (way : List Nm) (h : Fo w base fp F B) (hok : F.ok) (hf : f ≤ 10000) (hab : a ≠ b) (hr : skF F.tw b f a (-1) = some (some way)) (hs : s.size ≤ 100000) :
    Calls Tryz.prog 171 #[.pointer (some ⟨fp, 0, none⟩), .string s, .int .i64 (a : Int), .int .i64 (b : Int)] w fun e w' => e = .returned (.tuple #[]) ∧ (∃ B', Fo w' base fp { F with lp := F.lp ++ [bl s :: way] } B') ∧ Below base w w' ∧ Kq w w' := by
  have hback := back_any w fp a b f F.tw (some way) (h.twR hok) (by omega) hr
  have hwl := skF_len hr
  have hw0 := skF_ne hr hab
  have hbs : base ≤ w.heap.size := by have := h.lo; have := h.lt; omega
  have HF : Hid _ := h
  have hlpn : F.lp.length ≤ 100000 := hok.l
  clear h hr hok
  go_enter Tryz.func171, Tryz.ntmps171
  go_wp2_with fail
  refine hback.mono ?_
  rintro e1 w1 ⟨v, rfl, ow, b1⟩
  simp only [Option.getD_some] at ow
  obtain ⟨gw, cw, rfl⟩ := row_some ow hw0
  obtain ⟨m, hm⟩ : ∃ m, way.length = m := ⟨_, rfl⟩
  rw [hm] at ow hwl hw0 ⊢
  have HM : Hid (way.length = m) := hm
  have hF1 := HF.out.below b1
  obtain ⟨c0, c1, c2, c3⟩ := hF1.c
  obtain ⟨A3, cap3, hv3⟩ := row_slice hF1.lps.out
  rw [hv3, ← hF1.lps.len] at c3
  have hz3 := fo_froz hF1 3
  have hfp1 : fp < w1.heap.size := hF1.lt
  have hs1 := b1.size
  obtain ⟨wA, hwA⟩ : ∃ wA, w1.alloc (.cells #[.string s] 9) = wA := ⟨_, rfl⟩
  obtain ⟨qA, hqA⟩ : ∃ qA, w1.heap.size = qA := ⟨_, rfl⟩
  have bA : Below w1.heap.size w1 wA := by rw [← hwA]; exact (Below.refl _ _).alloc (Nat.le_refl _) _
  have hFA := hF1.below bA
  have rowA : wA.drew.ownsRow base 9 1 (.slice (some ⟨qA, 0, none⟩) 1 1) 1 [.string s] := by
    rw [← hwA, ← hqA]
    exact World.ownsRow_lit w1 #[.string s] 1 (by omega) (by decide) rfl
  have HcW : Hid (∀ j u, (way.map sv)[j]? = some u → wA.drew.cell? ((⟨gw, 0, none⟩ : Addr).add j) = some u) := fun j u hj => by
    have h1 := ow.cells (g := gw) rfl j u hj
    exact (bA.cell (World.block_lt_of_cell? w1 _ h1)).trans h1
  have hqs : wA.heap.size = qA + 1 := by rw [← hwA, ← hqA]; simp
  have HSA : Hid (wA.heap.size = qA + 1 ∧ base ≤ wA.heap.size ∧ qA = w1.heap.size) := ⟨hqs, by omega, hqA.symm⟩
  have HML : Hid ((way.map sv).length = m * 1 ∧ ∀ u ∈ way.map sv, u.oneCell' = true) := ⟨by simp [hm], fun u hu => by obtain ⟨x, _, rfl⟩ := List.mem_map.1 hu; rfl⟩
  obtain ⟨i0, hi0, hz0, hz1, hz2⟩ := info_parts Tryz.infoS
  obtain ⟨j0, hj0, hy0, hy1, hy2⟩ := info_parts Tryz.infoSS
  have hfA : fp < wA.heap.size := hFA.lt
  have cA3 : wA.cell? ⟨fp, 3, none⟩ = some (.slice A3 F.lp.length cap3) := by have := hFA.c.2.2.2; rw [hv3, ← hF1.lps.len] at this; exact this
  have hqf : qA ≠ fp := by omega
  have rL : wA.ownsRow base 61 1 (.slice A3 F.lp.length cap3) F.lp.length B.lv := by have := hFA.lps.out; rw [hv3, ← hF1.lps.len] at this; exact this
  have HF1 : Hid (Fo w1 base fp F B ∧ B.vl = .slice A3 F.lp.length cap3 ∧ Below w.heap.size w w1 ∧ Below w1.heap.size w1 wA) := ⟨hF1, by rw [hv3, ← hF1.lps.len], b1, bA⟩
  have hlq : some fp ≠ (Value.slice (some ⟨qA, 0, none⟩) 1 1).ownBlock := fun e => hqf (by cases e; rfl)
  have hlr : (Value.slice A3 F.lp.length cap3).ownBlock ≠ (Value.slice (some ⟨qA, 0, none⟩) 1 1).ownBlock := fun e => by
    have e2 : (Value.slice A3 F.lp.length cap3).ownBlock = some qA := e
    have := (row_ge (w := w1) (by have := hF1.lps.out; rw [hv3, ← hF1.lps.len] at this; exact this : w1.ownsRow base 61 1 (.slice A3 F.lp.length cap3) F.lp.length B.lv) e2).2
    omega
  clear hback b1 hF1 hFA bA hqs ow hm c0 c1 c2 hv3 hs1
  go_wp2_with fail
  go_cut [18] (fun _ wc => (∃ B', Fo wc base fp { F with lp := F.lp ++ [bl s :: way] } B') ∧ Below base w wc ∧ Kq w wc)
  case first =>
    go_region_law
      (first
        | (refine step_append_lies _ (by rfl) _ _ 61 (by rfl) base 9 i0 (.string ByteArray.empty) 1 16 Tryz.underlying61 hi0 hz0 hz1 hz2 (by rfl) (by decide) _ _ _ (by rfl) rowA ⟨gw, 0, none⟩ m cw (way.map sv) (by rfl) HML.out.1 HcW.out HML.out.2 hw0 (by unfold maxLen; omega) (by omega) HSA.out.2.1 wA.heap.size rfl ?_; intro g2 cap2 w2 hown2 hgrow2 hat2 hlt2; (have k2 : w2.cell? ⟨fp, 3, none⟩ = some (.slice A3 F.lp.length cap3) := hgrow2.cell (w := wA.drew) cA3 hlq); (have rL2 : w2.ownsRow base 61 1 (.slice A3 F.lp.length cap3) F.lp.length B.lv := World.ownsRow.kept (w := wA.drew) rL hgrow2 (Or.inr hlr)); (have hf2 : fp < w2.heap.size := (World.block_lt_of_cell? w2 _ k2)))
        | (refine step_append_lies _ (by rfl) _ _ 239 (by rfl) base 61 j0 (.slice none 0 0) 1 24 Tryz.underlying239 hj0 hy0 hy1 hy2 (by rfl) (by decide) _ _ _ (by rfl) (rL2.alloc _) ⟨w2.heap.size, 0, none⟩ 1 1 [.slice (some ⟨g2, 0, none⟩) (1 + m) cap2] (by rfl) (by rfl) (World.news_of_block (fr := (0, 0)) (t := 61) (cs := #[.slice (some ⟨g2, 0, none⟩) (1 + m) cap2]) (heap_alloc_new _ _)) (fun u hu => by simp at hu; subst hu; rfl) (by decide) (by unfold maxLen; omega) (by omega) (by have := HF1.out.1.lo; simp; omega) (w2.heap.size + 1) (by simp) ?_; intro g3 cap3' w3 hown3 hgrow3 hat3 hlt3; (have hl3 : some fp ≠ (Value.slice A3 F.lp.length cap3).ownBlock := fun e => row_cells HF1.out.1.lps.out HF1.out.1.blk (by decide) (by rw [HF1.out.2.1, e])); (have k3 : w3.cell? ⟨fp, 3, none⟩ = some (.slice A3 F.lp.length cap3) := hgrow3.cell (by rw [World.cell?_alloc_lt _ _ _ hf2]; exact k2) hl3); (have f3 : w3.frozen? ⟨fp, 3, none⟩ = false := (hgrow3.frozen_far ⟨fp, 3, none⟩ (by simp; omega) hl3).trans ((World.frozen?_alloc_old w2 _ ⟨fp, 3, none⟩ (Nat.ne_of_lt hf2)).trans ((hgrow2.frozen_far ⟨fp, 3, none⟩ hfA hlq).trans ((World.frozen?_of_block (HF1.out.2.2.2.block fp (by have := HSA.out.2.2; omega))).trans (fo_froz HF1.out.1 3))))))
        | (trace_state; fail))
    all_goals go_wp2_with fail
    all_goals go_meet
    all_goals exact loop_end HF1.out.1 HF1.out.2.1 HF1.out.2.2.1 HF1.out.2.2.2 hbs HSA.out.1 HSA.out.2.2 HM.out hown2 hgrow2 hat2 hown3 hgrow3
  go_wp2_with fail
  (try simp only [Exit.inBlock, Exit.then])
  refine bodyPost_ret (results_none rfl _ _ _) rfl ?_
  exact ⟨rfl, hcut⟩

end Go.Proofs.YtmpkcioeodlbcaaGreatDoor
namespace Go.Proofs.YtmpkcioeodlbcaaGreatDoor
open Go.Maps Go.RowKit
set_option linter.unusedVariables false
set_option maxRecDepth 100000
/-- what a twig more is: the list of a node's twigs -/
theorem Fo.tv {w : World} {base fp : Nat} {F : Fr_God} {B : Fb} (h : Fo w base fp F B) {a : Nat} (ha : a < F.tw.length) : ∃ u, B.tv[a]? = some u ∧ w.ownsRow base 247 2 u (F.tw.getD a []).length ((F.tw.getD a []).flatMap twE) ∧ w.cell? ⟨B.BL, a, none⟩ = some u ∧ w.frozen? ⟨B.BL, a, none⟩ = false := by
  have hn := h.tws.len
  obtain ⟨u, hu⟩ : ∃ u, B.tv[a]? = some u := ⟨_, List.getElem?_eq_getElem (by omega)⟩
  have hl : F.tw[a]? = some (F.tw.getD a []) := by rw [List.getD_eq_getElem?_getD, List.getElem?_eq_getElem ha]; rfl
  have o := h.tws.out
  rw [← hn] at o
  exact ⟨u, hu, h.tws.inn a u _ hu hl, by rw [o.cellAt a (by omega)]; exact hu, o.frozenAt a⟩
theorem gd_push (tw : List (List Tw)) (a b : Nat) (t : Tw) : ((pushT tw a t).getD b []).length ≤ (tw.getD b []).length + 1 := by
  unfold pushT
  simp only [List.getD_eq_getElem?_getD, List.getElem?_set]
  by_cases h : a = b
  · subst h
    by_cases h2 : a < tw.length
    · simp [h2]
    · simp [h2]
  · simp [h]
theorem tw_end {w wx w4 : World} {base fp BL m a g4 cp4 : Nat} {F1 : Fr_God} {B : Fb} {nm : ByteArray} {far : Nat} {u : Value} {o : Obj} (h : Fo wx base fp F1 B) (hB : B.BL = BL) (hu : B.tv[a]? = some u) (hm : (F1.tw.getD a []).length = m) (hb : Below base w wx ∧ Kq w wx) (hbx : base ≤ wx.heap.size)
    (hown : w4.ownsRow base 247 2 (.slice (some ⟨g4, 0, none⟩) (m + 1) cp4) (m + 1) ((F1.tw.getD a []).flatMap twE ++ [.string nm, .int .i64 (far : Int)])) (hgrow : (wx.alloc o).drew.grownBy w4 u.ownBlock) (hat : u.ownBlock = some g4 ∨ g4 = wx.heap.size + 1) :
    (∃ B', Fo (w4.setCell ⟨BL, a, none⟩ (.slice (some ⟨g4, 0, none⟩) (m + 1) cp4)) base fp { F1 with tw := pushT F1.tw a (bl nm, far) } B') ∧ Below base w (w4.setCell ⟨BL, a, none⟩ (.slice (some ⟨g4, 0, none⟩) (m + 1) cp4)) ∧ Kq w (w4.setCell ⟨BL, a, none⟩ (.slice (some ⟨g4, 0, none⟩) (m + 1) cp4)) := by
  subst hB
  have bA : Below wx.heap.size wx (wx.alloc o).drew := ((Below.refl _ wx).alloc (Nat.le_refl _) o).drew
  have hP := (h.below bA).pushTw (t := (bl nm, far)) (u' := .slice (some ⟨g4, 0, none⟩) (m + 1) cp4) hu hgrow (by rw [hm, List.flatMap_append]; exact hown) (fun g q => by
    have e : g4 = g := Option.some.inj q
    rcases hat with q2 | q2
    · exact .inl (by rw [q2, e])
    · exact .inr (by show (wx.alloc o).heap.size ≤ g; simp; omega))
  exact ⟨⟨_, hP.1⟩, hb.1.trans ((bA.mono hbx).trans hP.2.1), hb.2.trans ((Kq.bel bA).trans hP.2.2)⟩
theorem gd_len0 {F : Fr_God} (h : F.ok) (a : Nat) : (F.tw.getD a []).length ≤ 100000 := by
  by_cases ha : a < F.tw.length
  · rw [List.getD_eq_getElem?_getD, List.getElem?_eq_getElem ha]
    have := h.t _ (List.getElem_mem ha)
    simp; omega
  · rw [List.getD_eq_getElem?_getD, List.getElem?_eq_none (by omega)]; simp
theorem gd_len {F : Fr_God} (h : F.ok) (a : Nat) : (F.tw.getD a []).length ≤ 100005 := by
  by_cases ha : a < F.tw.length
  · rw [List.getD_eq_getElem?_getD, List.getElem?_eq_getElem ha]
    have := h.t _ (List.getElem_mem ha)
    simp; omega
  · rw [List.getD_eq_getElem?_getD, List.getElem?_eq_none (by omega)]; simp
set_option maxHeartbeats 4000000 in
theorem take_tree (w : World) (base fp a b f : Nat) (F : Fr_God) (B : Fb) (s : ByteArray) (h : Fo w base fp F B) (hok : F.ok) (hf : f ≤ 10000) (ha : a < F.tw.length) (hb : b < F.tw.length) (hr : skF F.tw b f a (-1) = some none) (hs : s.size ≤ 100000) :
    Calls Tryz.prog 171 #[.pointer (some ⟨fp, 0, none⟩), .string s, .int .i64 (a : Int), .int .i64 (b : Int)] w fun e w' => e = .returned (.tuple #[]) ∧ (∃ B', Fo w' base fp { F with tr := F.tr ++ [bl s], tw := pushT (pushT F.tw a (bl s, b)) b (bl s, a) } B') ∧ Below base w w' ∧ Kq w w' := by
  have hback := back_any w fp a b f F.tw none (h.twR hok) (by omega) hr
  have hbs : base ≤ w.heap.size := by have := h.lo; have := h.lt; omega
  have HF : Hid _ := h
  have htrn : F.tr.length ≤ 100000 := hok.r
  have HOK : Hid F.ok := hok
  have HLN5 : Hid ((({ F with tr := F.tr ++ [bl s] } : Fr_God).tw.getD a []).length ≤ 100005) := gd_len hok a
  have HLN6 : Hid ((({ F with tr := F.tr ++ [bl s], tw := pushT F.tw a (bl s, b) } : Fr_God).tw.getD b []).length ≤ 100005) := by have := gd_push F.tw a b (bl s, b); have := gd_len0 hok b; show ((pushT F.tw a (bl s, b)).getD b []).length ≤ _; omega
  clear h hr hok
  go_enter Tryz.func171, Tryz.ntmps171
  go_wp2_with fail
  refine hback.mono ?_
  rintro e1 w1 ⟨v, rfl, ow, b1⟩
  have hF1 := HF.out.below b1
  obtain ⟨c0, c1, c2, c3⟩ := hF1.c
  obtain ⟨A2, cap2, hv2⟩ := row_slice hF1.tr
  have hz2 := fo_froz hF1 2
  have hfp1 : fp < w1.heap.size := hF1.lt
  have rT := hF1.tr
  rw [hv2] at c2 rT
  obtain ⟨i0, hi0, hy0, hy1, hy2⟩ := info_parts Tryz.infoS
  have hlq : some fp ≠ (Value.slice A2 F.tr.length cap2).ownBlock := fun e => row_cells hF1.tr hF1.blk (by decide) (by rw [hv2, e])
  have hs1 := b1.size
  have HF1 : Hid (Fo w1 base fp F B ∧ B.vt = .slice A2 F.tr.length cap2 ∧ Below base w w1 ∧ Kq w w1) := ⟨hF1, hv2, b1.mono hbs, Kq.bel b1⟩
  clear hback hF1 ow c0 c1 c3 b1
  go_wp2_with (at_builtin; refine wpList_append_lies _ (by rfl) _ _ 61 (by rfl) base 9 i0 (.string ByteArray.empty) 1 16 Tryz.underlying61 hi0 hy0 hy1 hy2 (by rfl) (by decide) _ _ _ (by rfl) (rT.alloc _) ⟨w1.heap.size, 0, none⟩ 1 1 [.string s] (by rfl) (by rfl) (World.news_of_block (fr := (0, 0)) (t := 9) (cs := #[.string s]) (heap_alloc_new _ _)) (fun u hu => by simp at hu; subst hu; rfl) (by decide) (by unfold maxLen; omega) (by omega) (by simp; omega) _ rfl ?_; intro g2 cp2 w2 hown2 hgrow2 hat2 hlt2; (have k2 : w2.cell? ⟨fp, 2, none⟩ = some (.slice A2 F.tr.length cap2) := hgrow2.cell (by rw [World.cell?_alloc_lt _ _ _ hfp1]; exact c2) hlq); (have f2 : w2.frozen? ⟨fp, 2, none⟩ = false := (hgrow2.frozen_far ⟨fp, 2, none⟩ (by simp; omega) hlq).trans ((World.frozen?_alloc_old w1 _ ⟨fp, 2, none⟩ (Nat.ne_of_lt hfp1)).trans hz2)))
  have hX := (HF1.out.1.below ((Below.refl _ w1).alloc (Nat.le_refl _) (.cells #[.string s] 9))).pushTr (v' := .slice (some ⟨g2, 0, none⟩) (F.tr.length + 1) cp2) (l := F.tr ++ [bl s]) (by rw [HF1.out.2.1]; exact hgrow2) (by rw [List.length_append, List.map_append]; exact hown2) (fun g q => by
    have e : g2 = g := Option.some.inj q
    rw [HF1.out.2.1, ← e]
    rcases hat2 with h | h
    · exact .inl h
    · exact .inr (by omega))
  obtain ⟨wx, hwx⟩ : ∃ wx, wx = w2.setCell ⟨fp, 2, none⟩ (.slice (some ⟨g2, 0, none⟩) (F.tr.length + 1) cp2) := ⟨_, rfl⟩
  have HX : Hid ((∃ B1, Fo wx base fp { F with tr := F.tr ++ [bl s] } B1) ∧ Below base w wx ∧ Kq w wx) := by
    rw [hwx]
    exact ⟨⟨_, hX.1⟩, HF1.out.2.2.1.trans (((Below.refl _ w1).alloc (by omega) _).trans hX.2.1), HF1.out.2.2.2.trans ((Kq.bel ((Below.refl _ w1).alloc (Nat.le_refl _) _)).trans hX.2.2)⟩
  rw [← hwx]
  clear hX hwx k2 f2 hown2 hgrow2 hat2 hlt2 HF1 c2 hv2 hz2 hfp1 rT hi0 hy0 hy1 hy2 hlq hs1
  obtain ⟨i1, hi1, hx0, hx1, hx2⟩ := info_parts Tryz.infoTW
  obtain ⟨B5, hF5⟩ := HX.out.1
  obtain ⟨u5, hu5, ru5, cu5, zu5⟩ := hF5.tv (a := a) ha
  obtain ⟨Au5, cq5, rfl⟩ := row_slice ru5
  obtain ⟨n5, hn5⟩ : ∃ n, ({ F with tr := F.tr ++ [bl s] } : Fr_God).tw.length = n := ⟨_, rfl⟩
  obtain ⟨m5, hm5⟩ : ∃ m, (({ F with tr := F.tr ++ [bl s] } : Fr_God).tw.getD a []).length = m := ⟨_, rfl⟩
  have cc5 := hF5.c.2.1
  have hBL5 : B5.BL < wx.heap.size := (row_ge hF5.tws.out (g := B5.BL) rfl).2
  have hfx5 : fp < wx.heap.size := hF5.lt
  have hbx5 : base ≤ wx.heap.size := by have := hF5.lo; omega
  rw [hn5] at cc5
  rw [hm5] at ru5 cu5 hu5
  have han5 : (a : Int) < (n5 : Int) := by have h0 : ({ F with tr := F.tr ++ [bl s] } : Fr_God).tw.length = F.tw.length := rfl; omega
  have hmu5 : m5 ≤ 100005 := by
    rw [← hm5]
    exact HLN5.out
  have hlB5 : some B5.BL ≠ (Value.slice Au5 m5 cq5).ownBlock := fun e => row_type hF5.tws.out ru5 (by decide) (g := B5.BL) rfl e.symm
  have hlf5 : some fp ≠ (Value.slice Au5 m5 cq5).ownBlock := fun e => row_cells ru5 hF5.blk (by decide) e.symm
  have HR5 : Hid (Fo wx base fp { F with tr := F.tr ++ [bl s] } B5 ∧ B5.tv[a]? = some (.slice Au5 m5 cq5) ∧ (({ F with tr := F.tr ++ [bl s] } : Fr_God).tw.getD a []).length = m5 ∧ Below base w wx ∧ Kq w wx) := ⟨hF5, hu5, hm5, HX.out.2⟩
  have ra5 : wx.drew.ownsRow base 247 2 (.slice Au5 m5 cq5) m5 ((({ F with tr := F.tr ++ [bl s] } : Fr_God).tw.getD a []).flatMap twE) := ru5
  obtain ⟨BL5, hBLe5⟩ : ∃ x, B5.BL = x := ⟨_, rfl⟩
  rw [hBLe5] at cc5 cu5 zu5 hBL5 hlB5
  have HBE5 : Hid (B5.BL = BL5) := hBLe5
  clear hF5 hu5 hn5 hm5 hBLe5 ru5 HX
  go_cut [41] (fun _ wc => (∃ B', Fo wc base fp { F with tr := F.tr ++ [bl s], tw := pushT F.tw a (bl s, b) } B') ∧ Below base w wc ∧ Kq w wc)
  case first =>
    go_region_law
      (first
        | (refine step_append_lies _ (by rfl) _ _ 245 (by rfl) base 247 i1 _ 2 24 Tryz.underlying245 hi1 hx0 hx1 hx2 (by rfl) (by decide) _ _ _ (by rfl) (ra5.alloc _) ⟨wx.heap.size, 0, none⟩ 1 1 [.string s, .int .i64 (b : Int)] (by rfl) (by rfl) (World.news_of_block (fr := (0, 0)) (t := 247) (cs := #[.string s, .int .i64 (b : Int)]) (heap_alloc_new _ _)) (fun u hu => by simp at hu; rcases hu with rfl | rfl <;> rfl) (by decide) (by unfold maxLen; omega) (by omega) (by simp; omega) (wx.heap.size + 1) (by simp) ?_; intro g4 cp4 w4 hown4 hgrow4 hat4 hlt4; (have k4 : w4.cell? ⟨BL5, a, none⟩ = some (.slice Au5 m5 cq5) := hgrow4.cell ((World.cell?_alloc_lt wx _ ⟨BL5, a, none⟩ hBL5).trans cu5) hlB5); (have j4 : w4.cell? ⟨fp, 1, none⟩ = some (.slice (some ⟨BL5, 0, none⟩) n5 n5) := hgrow4.cell ((World.cell?_alloc_lt wx _ ⟨fp, 1, none⟩ hfx5).trans cc5) hlf5); (have f4 : w4.frozen? ⟨BL5, a, none⟩ = false := (hgrow4.frozen_far ⟨BL5, a, none⟩ (by simp; omega) hlB5).trans ((World.frozen?_alloc_old wx _ ⟨BL5, a, none⟩ (Nat.ne_of_lt hBL5)).trans zu5)))
        | (trace_state; fail))
    all_goals go_wp2_with fail
    all_goals go_meet
    all_goals exact tw_end HR5.out.1 HBE5.out HR5.out.2.1 HR5.out.2.2.1 HR5.out.2.2.2 hbx5 hown4 hgrow4 hat4
  have HY : Hid ((∃ B', Fo wc base fp { F with tr := F.tr ++ [bl s], tw := pushT F.tw a (bl s, b) } B') ∧ Below base w wc ∧ Kq w wc) := hcut
  clear hcut cc5 cu5 zu5 hBL5 hlB5 hlf5 ra5 HR5 HBE5 hfx5 hbx5 han5 hmu5
  go_wp2_with fail
  obtain ⟨B6, hF6⟩ := HY.out.1
  obtain ⟨u6, hu6, ru6, cu6, zu6⟩ := hF6.tv (a := b) (by simp [pushT]; omega)
  obtain ⟨Au6, cq6, rfl⟩ := row_slice ru6
  obtain ⟨n6, hn6⟩ : ∃ n, ({ F with tr := F.tr ++ [bl s], tw := pushT F.tw a (bl s, b) } : Fr_God).tw.length = n := ⟨_, rfl⟩
  obtain ⟨m6, hm6⟩ : ∃ m, (({ F with tr := F.tr ++ [bl s], tw := pushT F.tw a (bl s, b) } : Fr_God).tw.getD b []).length = m := ⟨_, rfl⟩
  have cc6 := hF6.c.2.1
  have hBL6 : B6.BL < wc.heap.size := (row_ge hF6.tws.out (g := B6.BL) rfl).2
  have hfx6 : fp < wc.heap.size := hF6.lt
  have hbx6 : base ≤ wc.heap.size := by have := hF6.lo; omega
  rw [hn6] at cc6
  rw [hm6] at ru6 cu6 hu6
  have han6 : (b : Int) < (n6 : Int) := by have h0 : ({ F with tr := F.tr ++ [bl s], tw := pushT F.tw a (bl s, b) } : Fr_God).tw.length = F.tw.length := (by simp [pushT]); omega
  have hmu6 : m6 ≤ 100005 := by
    rw [← hm6]
    exact HLN6.out
  have hlB6 : some B6.BL ≠ (Value.slice Au6 m6 cq6).ownBlock := fun e => row_type hF6.tws.out ru6 (by decide) (g := B6.BL) rfl e.symm
  have hlf6 : some fp ≠ (Value.slice Au6 m6 cq6).ownBlock := fun e => row_cells ru6 hF6.blk (by decide) e.symm
  have HR6 : Hid (Fo wc base fp { F with tr := F.tr ++ [bl s], tw := pushT F.tw a (bl s, b) } B6 ∧ B6.tv[b]? = some (.slice Au6 m6 cq6) ∧ (({ F with tr := F.tr ++ [bl s], tw := pushT F.tw a (bl s, b) } : Fr_God).tw.getD b []).length = m6 ∧ Below base w wc ∧ Kq w wc) := ⟨hF6, hu6, hm6, HY.out.2⟩
  have ra6 : wc.drew.ownsRow base 247 2 (.slice Au6 m6 cq6) m6 ((({ F with tr := F.tr ++ [bl s], tw := pushT F.tw a (bl s, b) } : Fr_God).tw.getD b []).flatMap twE) := ru6
  obtain ⟨BL6, hBLe6⟩ : ∃ x, B6.BL = x := ⟨_, rfl⟩
  rw [hBLe6] at cc6 cu6 zu6 hBL6 hlB6
  have HBE6 : Hid (B6.BL = BL6) := hBLe6
  clear hF6 hu6 hn6 hm6 hBLe6 ru6 HY
  go_region_law
    (first
      | (refine step_append_lies _ (by rfl) _ _ 245 (by rfl) base 247 i1 _ 2 24 Tryz.underlying245 hi1 hx0 hx1 hx2 (by rfl) (by decide) _ _ _ (by rfl) (ra6.alloc _) ⟨wc.heap.size, 0, none⟩ 1 1 [.string s, .int .i64 (a : Int)] (by rfl) (by rfl) (World.news_of_block (fr := (0, 0)) (t := 247) (cs := #[.string s, .int .i64 (a : Int)]) (heap_alloc_new _ _)) (fun u hu => by simp at hu; rcases hu with rfl | rfl <;> rfl) (by decide) (by unfold maxLen; omega) (by omega) (by simp; omega) (wc.heap.size + 1) (by simp) ?_; intro g4 cp4 w4 hown4 hgrow4 hat4 hlt4; (have k4 : w4.cell? ⟨BL6, b, none⟩ = some (.slice Au6 m6 cq6) := hgrow4.cell ((World.cell?_alloc_lt wc _ ⟨BL6, b, none⟩ hBL6).trans cu6) hlB6); (have j4 : w4.cell? ⟨fp, 1, none⟩ = some (.slice (some ⟨BL6, 0, none⟩) n6 n6) := hgrow4.cell ((World.cell?_alloc_lt wc _ ⟨fp, 1, none⟩ hfx6).trans cc6) hlf6); (have f4 : w4.frozen? ⟨BL6, b, none⟩ = false := (hgrow4.frozen_far ⟨BL6, b, none⟩ (by simp; omega) hlB6).trans ((World.frozen?_alloc_old wc _ ⟨BL6, b, none⟩ (Nat.ne_of_lt hBL6)).trans zu6)))
      | (trace_state; fail))
  all_goals go_wp2_with fail
  all_goals go_end0
  all_goals refine ⟨rfl, ?_⟩
  all_goals exact tw_end HR6.out.1 HBE6.out HR6.out.2.1 HR6.out.2.2.1 HR6.out.2.2.2 hbx6 hown4 hgrow4 hat4

end Go.Proofs.YtmpkcioeodlbcaaGreatDoor
namespace Go.Proofs.YtmpkcioeodlbcaaGreatDoor
open Go.Maps Go.RowKit
set_option linter.unusedVariables false
set_option maxRecDepth 100000
/-- a row of elements that is owned: its i-th element's cells -/
theorem de8_row {w : World} {base : Nat} {v : Value} {n : Nat} {l : List Elm} (h : w.ownsRow base 96 8 v n (elCs l)) (hn : l.length = n) {i : Nat} {x : Elm} (hx : l[i]? = some x) : ∃ g cap, v = .slice (some ⟨g, 0, none⟩) n cap ∧ E8 w g (i * 8) x := by
  have hi : i < n := by rw [← hn]; exact (List.getElem?_eq_some_iff.1 hx).1
  obtain ⟨g, cap, hv⟩ : ∃ g cap, v = .slice (some ⟨g, 0, none⟩) n cap := by
    obtain ⟨_, ⟨h1, h2⟩ | ⟨g, cap, cur, h1, _⟩⟩ := h
    · omega
    · exact ⟨_, _, h1⟩
  subst hv
  have hc : ∀ c v, c < 8 → (elC x)[c]? = some v → w.cell? ⟨g, i * 8 + c, none⟩ = some v := fun c v h1 h2 => by rw [h.cellAt (i * 8 + c) (by omega), elCs_get hx h1]; exact h2
  exact ⟨g, cap, rfl, hc 0 _ (by omega) rfl, hc 1 _ (by omega) rfl, hc 2 _ (by omega) rfl, hc 3 _ (by omega) rfl, hc 4 _ (by omega) rfl, hc 5 _ (by omega) rfl, hc 6 _ (by omega) rfl, hc 7 _ (by omega) rfl⟩
theorem drow_slice {w : World} {base : Nat} {e : TypeId} {sz : Nat} {v : Value} {n : Nat} {xs : List Value} (h : w.ownsRow base e sz v n xs) : ∃ A cap, v = .slice A n cap := by
  obtain ⟨_, ⟨h1, h2⟩ | ⟨g, cap, cur, h1, _⟩⟩ := h
  · exact ⟨none, 0, by rw [h1, h2]⟩
  · exact ⟨_, _, h1⟩
end Go.Proofs.YtmpkcioeodlbcaaGreatDoor
