/-
  Several texts in one: Gob Goc God Goe Gof Gog Goh Goi Goj Gok Gol Gom Dnb.
-/
import Derived.Test.YtmpkcioeodlbcaaGreatDoorK10
import Derived.Maps.OwnOps
import Derived.Laws.CopyOwn
namespace Go.Proofs.YtmpkcioeodlbcaaGreatDoor
open Go.Maps Go.RowKit
set_option linter.unusedVariables false
set_option maxRecDepth 100000
@[go_sem] theorem run_store_funcN {P : Program} (w : World) (a : Addr) (m : Mode) (f : Fn) (x y : Array Value) : (store a (.func f x y) m).run P w = stored P w a (.func f x y) m := run_store P w a _ m rfl
theorem row_le {w : World} {base b2 : Nat} {e : TypeId} {sz : Nat} {v : Value} {n : Nat} {xs : List Value} (h : w.ownsRow base e sz v n xs) (hb : b2 ≤ base) : w.ownsRow b2 e sz v n xs := by
  obtain ⟨h0, h1 | ⟨g, cap, cur, h1, h2, h3⟩⟩ := h
  · exact ⟨h0, .inl h1⟩
  · exact ⟨h0, .inr ⟨g, cap, cur, h1, by omega, h3⟩⟩
theorem sk_start (w : World) (fp b L : Nat) (tw : List (List Tw)) (hL : w.heap.size = L) (ht : TwR w fp L tw) :
    Sk ((((w.alloc (.cells #[.pointer (some ⟨fp, 0, none⟩)] 194)).alloc (.cells #[.int .i64 (b : Int)] 3)).alloc (.cells #[.slice none 0 0] 61)).alloc (.cells #[.func (.func 228) #[] #[.pointer (some ⟨L + 1, 0, none⟩), .pointer (some ⟨L, 0, none⟩), .pointer (some ⟨L + 3, 0, none⟩), .pointer (some ⟨L + 2, 0, none⟩)]] 279)) L fp b tw [] ∧
    Below L w ((((w.alloc (.cells #[.pointer (some ⟨fp, 0, none⟩)] 194)).alloc (.cells #[.int .i64 (b : Int)] 3)).alloc (.cells #[.slice none 0 0] 61)).alloc (.cells #[.func (.func 228) #[] #[.pointer (some ⟨L + 1, 0, none⟩), .pointer (some ⟨L, 0, none⟩), .pointer (some ⟨L + 3, 0, none⟩), .pointer (some ⟨L + 2, 0, none⟩)]] 279)) := by
  obtain ⟨w1, h1⟩ : ∃ w1, w1 = w.alloc (.cells #[.pointer (some ⟨fp, 0, none⟩)] 194) := ⟨_, rfl⟩
  rw [← h1]
  obtain ⟨w2, h2⟩ : ∃ w2, w2 = w1.alloc (.cells #[.int .i64 (b : Int)] 3) := ⟨_, rfl⟩
  rw [← h2]
  obtain ⟨w3, h3⟩ : ∃ w3, w3 = w2.alloc (.cells #[.slice none 0 0] 61) := ⟨_, rfl⟩
  rw [← h3]
  obtain ⟨w4, h4⟩ : ∃ w4, w4 = w3.alloc (.cells #[.func (.func 228) #[] #[.pointer (some ⟨L + 1, 0, none⟩), .pointer (some ⟨L, 0, none⟩), .pointer (some ⟨L + 3, 0, none⟩), .pointer (some ⟨L + 2, 0, none⟩)]] 279) := ⟨_, rfl⟩
  rw [← h4]
  have s1 : w1.heap.size = L + 1 := by rw [h1, ← hL]; simp
  have s2 : w2.heap.size = L + 2 := by rw [h2]; simp [s1]
  have s3 : w3.heap.size = L + 3 := by rw [h3]; simp [s2]
  have s4 : w4.heap.size = L + 4 := by rw [h4]; simp [s3]
  have b1 : Below L w w1 := by rw [h1]; exact (Below.refl _ _).alloc (by omega) _
  have b2 : Below (L + 1) w1 w2 := by rw [h2]; exact (Below.refl _ _).alloc (by omega) _
  have b3 : Below (L + 2) w2 w3 := by rw [h3]; exact (Below.refl _ _).alloc (by omega) _
  have b4 : Below (L + 3) w3 w4 := by rw [h4]; exact (Below.refl _ _).alloc (by omega) _
  have k1 : w1.heap[L]? = some (.cells #[.pointer (some ⟨fp, 0, none⟩)] 194 (0, 0)) := by rw [h1, ← hL]; exact heap_alloc_new _ _
  have k2 : w2.heap[L + 1]? = some (.cells #[.int .i64 (b : Int)] 3 (0, 0)) := by rw [h2, ← s1]; exact heap_alloc_new _ _
  have k3 : w3.heap[L + 2]? = some (.cells #[.slice none 0 0] 61 (0, 0)) := by rw [h3, ← s2]; exact heap_alloc_new _ _
  have k4 : w4.heap[L + 3]? = some (.cells #[.func (.func 228) #[] #[.pointer (some ⟨L + 1, 0, none⟩), .pointer (some ⟨L, 0, none⟩), .pointer (some ⟨L + 3, 0, none⟩), .pointer (some ⟨L + 2, 0, none⟩)]] 279 (0, 0)) := by rw [h4]; have := heap_alloc_new w3 (.cells #[.func (.func 228) #[] #[.pointer (some ⟨L + 1, 0, none⟩), .pointer (some ⟨L, 0, none⟩), .pointer (some ⟨L + 3, 0, none⟩), .pointer (some ⟨L + 2, 0, none⟩)]] 279); rw [s3] at this; exact this
  have q1 : w4.heap[L]? = some (.cells #[.pointer (some ⟨fp, 0, none⟩)] 194 (0, 0)) := by rw [b4.block _ (by omega), b3.block _ (by omega), b2.block _ (by omega)]; exact k1
  have q2 : w4.heap[L + 1]? = some (.cells #[.int .i64 (b : Int)] 3 (0, 0)) := by rw [b4.block _ (by omega), b3.block _ (by omega)]; exact k2
  have q3 : w4.heap[L + 2]? = some (.cells #[.slice none 0 0] 61 (0, 0)) := by rw [b4.block _ (by omega)]; exact k3
  have hB : Below L w w4 := b1.trans ((b2.mono (by omega)).trans ((b3.mono (by omega)).trans (b4.mono (by omega))))
  refine ⟨⟨by rw [cell_of_row w4 L 0 _ _ (0, 0) q1]; rfl, by rw [cell_of_row w4 (L + 1) 0 _ _ (0, 0) q2]; rfl, ⟨.slice none 0 0, by rw [cell_of_row w4 (L + 2) 0 _ _ (0, 0) q3]; rfl, frozen_of_row w4 (L + 2) 0 _ _ q3, World.ownsRow_nil _ _ _ _⟩, by rw [cell_of_row w4 (L + 3) 0 _ _ (0, 0) k4]; rfl, ht.kept hB, by omega⟩, hB⟩
/-- back: the way from b back to a -/
theorem back_any (w : World) (fp a b f : Nat) (tw : List (List Tw)) (r : Option (List Nm)) (ht : TwR w fp w.heap.size tw) (hf : f ≤ 100000) (hr : skF tw b f a (-1) = some r) :
    Calls Tryz.prog 205 #[.pointer (some ⟨fp, 0, none⟩), .int .i64 (a : Int), .int .i64 (b : Int)] w fun e w' => ∃ v, e = .returned (.tuple #[v, .bool r.isSome]) ∧ w'.ownsRow w.heap.size 9 1 v (r.getD []).length ((r.getD []).map sv) ∧ Below w.heap.size w w' := by
  obtain ⟨L, hL⟩ : ∃ L, w.heap.size = L := ⟨_, rfl⟩
  rw [hL] at ht
  have hs := sk_start w fp b L tw hL ht
  have hcall := seek_any L fp b tw f a (-1) [] r _ hs.1 (by simpa using hf) hr
  have HB : Hid _ := hs.2
  clear hs
  go_enter Tryz.func205, Tryz.ntmps205
  go_wp2_with fail
  refine hcall.mono ?_
  rintro e5 w5 ⟨rfl, S5, B5, K5⟩
  obtain ⟨v, cw, fw, ow⟩ := S5.cw
  have HO : Hid (w5.ownsRow (L + 4) 9 1 v (r.getD []).length ((r.getD []).map sv) ∧ Below L w w5) := ⟨by simpa using ow, HB.out.trans B5⟩
  clear S5 B5 K5 ow hcall
  go_wp2_with fail
  go_ret2
  refine ⟨v, rfl, row_le HO.out.1 (by omega), ?_⟩
  rw [hL]; exact HO.out.2

end Go.Proofs.YtmpkcioeodlbcaaGreatDoor
namespace Go.Proofs.YtmpkcioeodlbcaaGreatDoor
open Go.Maps Go.RowKit
set_option linter.unusedVariables false
set_option maxRecDepth 100000
theorem eql_sl (t e : TypeId) (ht : Tryz.prog.underlying t = some (.slice e)) (w : World) (a : Option Addr) (n c n' c' : Nat) : (binOp .eql t (.slice a n c) (.slice none n' c')).run Tryz.prog w = .ok (.bool a.isNone) w := Lib.run_eql_slice_nil w _ _ a n c n' c' ht
/-- a list of names, copied -/
theorem clone_s (w : World) (base : Nat) (v : Value) (xs : List Nm) (h : w.ownsRow base 9 1 v xs.length (xs.map sv)) (hn : xs.length ≤ 1000000) :
    Calls Tryz.prog 117 #[v] w fun e w' => ∃ v', e = .returned v' ∧ w'.ownsRow w.heap.size 9 1 v' xs.length (xs.map sv) ∧ Below w.heap.size w w' := by
  have q29 := eql_sl 61 9 Tryz.underlying61
  obtain ⟨i0, hi0, hz0, hz1, hz2⟩ := info_parts Tryz.infoS
  obtain ⟨hxl, ⟨rfl, hx0⟩ | ⟨g, cap, cur, rfl, hg, hcur, hcap, hcm, hcs, htk⟩⟩ := h
  · go_enter Tryz.func117, Tryz.ntmps117
    go_wp2_with fail
    go_ret
    have hxe : xs = [] := List.length_eq_zero_iff.1 hx0
    subst hxe
    exact ⟨.slice none 0 0, rfl, World.ownsRow_nil _ _ _ _, Below.refl _ _⟩
  · have HC : Hid (∀ j u, (xs.map sv)[j]? = some u → w.cell? ⟨g, j, none⟩ = some u) := fun j u hj => by
      have hrow : w.ownsRow base 9 1 (.slice (some ⟨g, 0, none⟩) xs.length cap) xs.length (xs.map sv) := ⟨hxl, .inr ⟨g, cap, cur, rfl, hg, hcur, hcap, hcm, hcs, htk⟩⟩
      rw [hrow.cellAt j (by have := (List.getElem?_eq_some_iff.1 hj).1; simp at this; omega)]; exact hj
    obtain ⟨m, hm⟩ : ∃ m, xs.length = m := ⟨_, rfl⟩
    rw [hm] at hn ⊢
    have HM : Hid (xs.length = m) := hm
    clear hm hxl hcur hcap hcm hcs htk hg
    go_enter Tryz.func117, Tryz.ntmps117
    go_wp2_with (at_builtin; refine wpList_append_own _ rfl _ _ 61 rfl w.heap.size 9 i0 (.string ByteArray.empty) 1 16 Tryz.underlying61 hi0 hz0 hz1 hz2 (by rfl) (by decide) _ _ _ rfl (World.ownsRow_made w #[] 0 (Nat.le_refl _) (Nat.zero_le _) rfl) ⟨g, 0, none⟩ m cap (xs.map sv) rfl ?qc1 ?qc2 ?qc3 ?qc4 ?qc5 ?qc6 ?_)
    case qc1 => simp [HM.out]
    case qc2 =>
      intro j u hj
      rw [Addr.add_lit]
      have := HC.out j u hj
      simp only [Nat.zero_add]
      rw [World.cell?_alloc_lt _ _ _ (World.block_lt_of_cell? w _ this)]; exact this
    case qc3 => intro u hu; obtain ⟨x, _, rfl⟩ := List.mem_map.1 hu; rfl
    case qc4 => unfold maxLen; omega
    case qc5 => omega
    case qc6 => simp
    intro v' w1 hown hgrow hnil
    go_wp2
    go_ret
    refine ⟨v', rfl, by simpa using hown, ?_⟩
    exact ((Below.refl _ w).alloc (Nat.le_refl _) _).grown hgrow (by simp) (by intro k hk; simp [Value.ownBlock] at hk; omega)
theorem elC_one (l : List Elm) : ∀ u ∈ elCs l, u.oneCell' = true := by
  intro u hu
  unfold elCs at hu
  obtain ⟨x, _, hx⟩ := List.mem_flatMap.1 hu
  simp [elC] at hx
  rcases hx with rfl | rfl | rfl | rfl | rfl | rfl | rfl | rfl <;> rfl
/-- a list of elements, copied -/
theorem clone_e (w : World) (base : Nat) (v : Value) (l : List Elm) (h : w.ownsRow base 96 8 v l.length (elCs l)) (hn : l.length ≤ 1000000) :
    Calls Tryz.prog 67 #[v] w fun e w' => ∃ v', e = .returned v' ∧ w'.ownsRow w.heap.size 96 8 v' l.length (elCs l) ∧ Below w.heap.size w w' := by
  have q29 := eql_sl 54 96 Tryz.underlying54
  obtain ⟨i0, hi0, hz0, hz1, hz2⟩ := info_parts Tryz.infoE
  obtain ⟨hxl, ⟨rfl, hx0⟩ | ⟨g, cap, cur, rfl, hg, hcur, hcap, hcm, hcs, htk⟩⟩ := h
  · go_enter Tryz.func67, Tryz.ntmps67
    go_wp2_with fail
    go_ret
    have hxe : l = [] := List.length_eq_zero_iff.1 hx0
    subst hxe
    exact ⟨.slice none 0 0, rfl, World.ownsRow_nil _ _ _ _, Below.refl _ _⟩
  · have HC : Hid (∀ j u, (elCs l)[j]? = some u → w.cell? ⟨g, j, none⟩ = some u) := fun j u hj => by
      have hrow : w.ownsRow base 96 8 (.slice (some ⟨g, 0, none⟩) l.length cap) l.length (elCs l) := ⟨hxl, .inr ⟨g, cap, cur, rfl, hg, hcur, hcap, hcm, hcs, htk⟩⟩
      rw [hrow.cellAt j (by have := (List.getElem?_eq_some_iff.1 hj).1; omega)]; exact hj
    obtain ⟨m, hm⟩ : ∃ m, l.length = m := ⟨_, rfl⟩
    rw [hm] at hn ⊢
    have HM : Hid ((elCs l).length = m * 8 ∧ l.length = m) := ⟨by rw [elCs_len, hm], hm⟩
    clear hm hxl hcur hcap hcm hcs htk hg
    go_enter Tryz.func67, Tryz.ntmps67
    go_wp2_with (at_builtin; refine wpList_append_own _ rfl _ _ 54 rfl w.heap.size 96 i0 _ 8 104 Tryz.underlying54 hi0 hz0 hz1 hz2 (by rfl) (by decide) _ _ _ rfl (World.ownsRow_made w #[] 0 (Nat.le_refl _) (Nat.zero_le _) rfl) ⟨g, 0, none⟩ m cap (elCs l) rfl ?qc1 ?qc2 ?qc3 ?qc4 ?qc5 ?qc6 ?_)
    case qc1 => exact HM.out.1
    case qc2 =>
      intro j u hj
      rw [Addr.add_lit]
      have := HC.out j u hj
      simp only [Nat.zero_add]
      rw [World.cell?_alloc_lt _ _ _ (World.block_lt_of_cell? w _ this)]; exact this
    case qc3 => exact elC_one l
    case qc4 => unfold maxLen; omega
    case qc5 => omega
    case qc6 => simp
    intro v' w1 hown hgrow hnil
    go_wp2
    go_ret
    refine ⟨v', rfl, by simpa using hown, ?_⟩
    exact ((Below.refl _ w).alloc (Nat.le_refl _) _).grown hgrow (by simp) (by intro k hk; simp [Value.ownBlock] at hk; omega)
theorem nodes_made {w : World} {base p : Nat} {N : Ns} {b : Nb} (h : Nt w base p N b) (hn : N.nd.length ≤ 1000000) : Calls Tryz.prog 87 #[.pointer (some ⟨p, 0, none⟩)] w fun e w' => ∃ v', e = .returned v' ∧ w'.ownsRow w.heap.size 9 1 v' N.nd.length (N.nd.map sv) ∧ Below w.heap.size w w' := by
  have c2 := h.nm.c1
  have c3 := h.nd.c0
  have hcl := clone_s w base b.v3 N.nd h.nd.row hn
  go_enter Tryz.func87, Tryz.ntmps87
  go_wp2_with (first | (go_at_call 66; (with_reducible refine (made_yes c2).mono ?_); rintro e1 w1 ⟨rfl, rfl⟩) | (go_at_call 117; (with_reducible refine hcl.mono ?_); rintro e2 w2 ⟨v2, rfl, ho2, hb2⟩))
  go_ret
  exact ⟨v2, rfl, ho2, hb2⟩
theorem elements_made {w : World} {base p : Nat} {N : Ns} {b : Nb} (h : Nt w base p N b) (hn : N.es.length ≤ 1000000) : Calls Tryz.prog 27 #[.pointer (some ⟨p, 0, none⟩)] w fun e w' => ∃ v', e = .returned v' ∧ w'.ownsRow w.heap.size 96 8 v' N.es.length (elCs N.es) ∧ Below w.heap.size w w' := by
  have c2 := h.nm.c1
  have c0 := h.c0
  have hcl := clone_e w base b.v0 N.es h.es hn
  go_enter Tryz.func27, Tryz.ntmps27
  go_wp2_with (first | (go_at_call 66; (with_reducible refine (made_yes c2).mono ?_); rintro e1 w1 ⟨rfl, rfl⟩) | (go_at_call 67; (with_reducible refine hcl.mono ?_); rintro e2 w2 ⟨v2, rfl, ho2, hb2⟩))
  go_ret
  exact ⟨v2, rfl, ho2, hb2⟩
theorem without_no {w : World} {base p : Nat} {N : Ns} {b : Nb} (h : Nt w base p N b) (hn : [] ∉ N.nm) : Calls Tryz.prog 92 #[.pointer (some ⟨p, 0, none⟩), .string ⟨#[]⟩] w fun e w' => e = .returned (.tuple #[.pointer none, .int .i64 10]) ∧ w' = w := by
  have c2 := h.nm.c1
  have hpl := place_s w p 1 b.B2 N.nm ⟨#[]⟩ (by decide) c2 h.nm.mp
  rw [show decide (bl ⟨#[]⟩ ∈ N.nm) = false from decide_eq_false hn] at hpl
  go_enter Tryz.func92, Tryz.ntmps92
  go_wp2_with (first | (go_at_call 66; (with_reducible refine (made_yes c2).mono ?_); rintro e1 w1 ⟨rfl, rfl⟩) | (go_at_call 82; (with_reducible refine hpl.mono ?_); rintro e2 w2 ⟨rfl, rfl⟩))
  go_ret2
  exact ⟨rfl, rfl⟩

end Go.Proofs.YtmpkcioeodlbcaaGreatDoor
namespace Go.Proofs.YtmpkcioeodlbcaaGreatDoor
open Go.Maps Go.RowKit
set_option linter.unusedVariables false
set_option maxRecDepth 100000
/-- a list of lists: the row of slices v, its slices vals, each a row of its own -/
structure LL {α : Type} (w : World) (base : Nat) (To Ti : TypeId) (sz : Nat) (enc : α → List Value) (v : Value) (vals : List Value) (ls : List (List α)) : Prop where
  ty : To ≠ Ti
  out : w.ownsRow base To 1 v vals.length vals
  len : ls.length = vals.length
  inn : ∀ (j : Nat) (u : Value) (l : List α), vals[j]? = some u → ls[j]? = some l → w.ownsRow base Ti sz u l.length (l.flatMap enc)
  apart : ∀ (i j : Nat) (u u' : Value), vals[i]? = some u → vals[j]? = some u' → i ≠ j → Sep u u'
theorem LL.inn' {α : Type} {w : World} {base : Nat} {To Ti : TypeId} {sz : Nat} {enc : α → List Value} {v : Value} {vals : List Value} {ls : List (List α)} (h : LL w base To Ti sz enc v vals ls) {j : Nat} {u : Value} (hj : vals[j]? = some u) : ∃ l, ls[j]? = some l ∧ w.ownsRow base Ti sz u l.length (l.flatMap enc) := by
  have hlt := (List.getElem?_eq_some_iff.1 hj).1
  obtain ⟨l, hl⟩ : ∃ l, ls[j]? = some l := ⟨_, List.getElem?_eq_getElem (by rw [h.len]; exact hlt)⟩
  exact ⟨l, hl, h.inn j u l hj hl⟩
theorem LL.kept {α : Type} {w w' : World} {base : Nat} {To Ti : TypeId} {sz : Nat} {enc : α → List Value} {v : Value} {vals : List Value} {ls : List (List α)} (h : LL w base To Ti sz enc v vals ls) (h1 : ∀ g, v.ownBlock = some g → w'.heap[g]? = w.heap[g]?) (h2 : ∀ u ∈ vals, ∀ g, u.ownBlock = some g → w'.heap[g]? = w.heap[g]?) : LL w' base To Ti sz enc v vals ls :=
  ⟨h.ty, row_block h.out h1, h.len, fun j u l hj hl => row_block (h.inn j u l hj hl) (h2 u (List.mem_of_getElem? hj)), h.apart⟩
theorem LL.lt {α : Type} {w : World} {base : Nat} {To Ti : TypeId} {sz : Nat} {enc : α → List Value} {v : Value} {vals : List Value} {ls : List (List α)} (h : LL w base To Ti sz enc v vals ls) {u : Value} (hu : u ∈ vals) {g : Nat} (hg : u.ownBlock = some g) : base ≤ g ∧ g < w.heap.size := by
  obtain ⟨j, hj⟩ := List.mem_iff_getElem?.1 hu
  obtain ⟨l, _, hr⟩ := h.inn' hj
  exact row_ge hr hg
theorem LL.below {α : Type} {w w' : World} {base : Nat} {To Ti : TypeId} {sz : Nat} {enc : α → List Value} {v : Value} {vals : List Value} {ls : List (List α)} (h : LL w base To Ti sz enc v vals ls) (hb : Below w.heap.size w w') : LL w' base To Ti sz enc v vals ls :=
  h.kept (fun g hg => hb.block g (row_ge h.out hg).2) (fun u hu g hg => hb.block g (h.lt hu hg).2)
theorem LL.nil {α : Type} (w : World) (base : Nat) {To Ti : TypeId} (ht : To ≠ Ti) (sz : Nat) (enc : α → List Value) : LL w base To Ti sz enc (.slice none 0 0) [] [] :=
  ⟨ht, World.ownsRow_nil _ _ _ _, rfl, fun j u l h => by simp at h, fun i j u u' h => by simp at h⟩
/-- one of the lists has grown -/
theorem LL.store {α : Type} {w w1 : World} {base BL n cap j : Nat} {To Ti : TypeId} {sz : Nat} {enc : α → List Value} {vals : List Value} {ls : List (List α)} {u u' : Value} {l' : List α} (h : LL w base To Ti sz enc (.slice (some ⟨BL, 0, none⟩) n cap) vals ls) (hj : vals[j]? = some u)
    (hg : w.grownBy w1 u.ownBlock) (hr : w1.ownsRow base Ti sz u' l'.length (l'.flatMap enc)) (hv : ∀ g, u'.ownBlock = some g → u.ownBlock = some g ∨ w.heap.size ≤ g) :
    LL (w1.setCell ⟨BL, j, none⟩ u') base To Ti sz enc (.slice (some ⟨BL, 0, none⟩) n cap) (vals.set j u') (ls.set j l') := by
  obtain ⟨l, hl, hru⟩ := h.inn' hj
  have hlt := (List.getElem?_eq_some_iff.1 hj).1
  have hBL : BL < w.heap.size := (row_ge h.out (g := BL) rfl).2
  have hn : vals.length = n := by
    obtain ⟨_, ⟨q, _⟩ | ⟨g, c2, cur, q, _⟩⟩ := h.out
    · cases q
    · cases q; rfl
  have o1 : w1.ownsRow base To 1 (.slice (some ⟨BL, 0, none⟩) n cap) vals.length vals := h.out.kept hg (Or.inr (fun e => row_type h.out hru h.ty (g := BL) rfl e.symm))
  have o2 := o1
  rw [hn] at o2
  have hnb : ∀ x : Value, ∀ l2 : List α, w.ownsRow base Ti sz x l2.length (l2.flatMap enc) → x.ownBlock ≠ some BL := fun x l2 hx e => row_type h.out hx h.ty (g := BL) rfl e
  have hub : u'.ownBlock ≠ some BL := fun e => by
    rcases hv BL e with q | q
    · exact hnb u l hru q
    · omega
  refine ⟨h.ty, ?_, by simp [h.len], fun i x m hi hm => ?_, fun i k x y hi hk hik => ?_⟩
  · rw [List.length_set, hn]; exact (o2.stored j u').1
  · rw [List.getElem?_set] at hi hm
    by_cases e : j = i
    · subst e
      rw [if_pos rfl, if_pos hlt] at hi
      rw [if_pos rfl, if_pos (by rw [h.len]; exact hlt)] at hm
      cases hi; cases hm
      exact row_block hr fun g hg2 => heap_setCell_other w1 ⟨BL, j, none⟩ g u' (fun e => hub (by rw [hg2]; simpa using e))
    · rw [if_neg e] at hi hm
      have h3 := h.inn i x m hi hm
      have h4 := h3.kept hg (by
        cases q : x.ownBlock with
        | none => exact .inl rfl
        | some g => exact .inr (fun q2 => h.apart i j x u hi hj (fun e2 => e e2.symm) g q q2.symm))
      exact row_block h4 fun g hg2 => heap_setCell_other w1 ⟨BL, j, none⟩ g u' (fun e2 => hnb x m h3 (by rw [hg2]; simpa using e2))
  · rw [List.getElem?_set] at hi hk
    by_cases e : j = i
    · subst e
      rw [if_pos rfl, if_pos hlt] at hi
      cases hi
      rw [if_neg hik] at hk
      intro g q1 q2
      rcases hv g q1 with q3 | q3
      · exact h.apart j k u y hj hk hik g q3 q2
      · have := (h.lt (List.mem_of_getElem? hk) q2).2; omega
    · rw [if_neg e] at hi
      by_cases e2 : j = k
      · subst e2
        rw [if_pos rfl, if_pos hlt] at hk
        cases hk
        intro g q1 q2
        rcases hv g q2 with q3 | q3
        · exact h.apart i j x u hi hj hik g q1 q3
        · have := (h.lt (List.mem_of_getElem? hi) q1).2; omega
      · rw [if_neg e2] at hk
        exact h.apart i k x y hi hk hik
/-- a list more -/
theorem LL.push {α : Type} {w w1 : World} {base : Nat} {To Ti : TypeId} {sz : Nat} {enc : α → List Value} {v v' : Value} {vals : List Value} {ls : List (List α)} {u : Value} {l : List α} (h : LL w base To Ti sz enc v vals ls) (hu : w.ownsRow base Ti sz u l.length (l.flatMap enc)) (hs : ∀ x ∈ vals, Sep x u)
    (hg : w.grownBy w1 v.ownBlock) (hr : w1.ownsRow base To 1 v' (vals.length + 1) (vals ++ [u])) : LL w1 base To Ti sz enc v' (vals ++ [u]) (ls ++ [l]) := by
  have hne : ∀ x : Value, ∀ l2 : List α, w.ownsRow base Ti sz x l2.length (l2.flatMap enc) → w1.ownsRow base Ti sz x l2.length (l2.flatMap enc) := fun x l2 hx => hx.kept hg (by
    cases q : x.ownBlock with
    | none => exact .inl rfl
    | some g => exact .inr (fun q2 => row_type hx h.out (fun e => h.ty e.symm) q q2.symm))
  refine ⟨h.ty, by rw [List.length_append]; exact hr, by simp [h.len], fun i x m hi hm => ?_, fun i k x y hi hk hik => ?_⟩
  · by_cases e : i < vals.length
    · rw [List.getElem?_append_left e] at hi
      rw [List.getElem?_append_left (by rw [h.len]; exact e)] at hm
      exact hne x m (h.inn i x m hi hm)
    · rw [List.getElem?_append_right (by omega)] at hi
      rw [List.getElem?_append_right (by rw [h.len]; omega)] at hm
      have e0 : i - vals.length = 0 := by
        have := (List.getElem?_eq_some_iff.1 hi).1; simp at this; omega
      rw [e0] at hi
      rw [h.len, e0] at hm
      cases hi; cases hm
      exact hne _ _ hu
  · have hs2 : ∀ x ∈ vals, Sep u x := fun x hx => (hs x hx).symm
    by_cases e : i < vals.length
    · rw [List.getElem?_append_left e] at hi
      by_cases e2 : k < vals.length
      · rw [List.getElem?_append_left e2] at hk
        exact h.apart i k x y hi hk hik
      · rw [List.getElem?_append_right (by omega)] at hk
        have e0 : k - vals.length = 0 := by
          have := (List.getElem?_eq_some_iff.1 hk).1; simp at this; omega
        rw [e0] at hk
        cases hk
        exact hs x (List.mem_of_getElem? hi)
    · rw [List.getElem?_append_right (by omega)] at hi
      have e0 : i - vals.length = 0 := by
        have := (List.getElem?_eq_some_iff.1 hi).1; simp at this; omega
      rw [e0] at hi
      cases hi
      by_cases e2 : k < vals.length
      · rw [List.getElem?_append_left e2] at hk
        exact hs2 y (List.mem_of_getElem? hk)
      · rw [List.getElem?_append_right (by omega)] at hk
        have e1 : k - vals.length = 0 := by
          have := (List.getElem?_eq_some_iff.1 hk).1; simp at this; omega
        exfalso; omega
def twE (t : Tw) : List Value := [sv t.1, .int .i64 (t.2 : Int)]
def nmE (s : Nm) : List Value := [sv s]
theorem nmE_map (l : List Nm) : l.flatMap nmE = l.map sv := by
  induction l with
  | nil => rfl
  | cons x t ih => rw [List.flatMap_cons, ih]; rfl
theorem twE_get {l : List Tw} {k : Nat} {t : Tw} (h : l[k]? = some t) : (l.flatMap twE)[k * 2]? = some (sv t.1) ∧ (l.flatMap twE)[k * 2 + 1]? = some (.int .i64 (t.2 : Int)) := by
  induction l generalizing k with
  | nil => cases h
  | cons y r ih =>
    rw [List.flatMap_cons]
    have hy : (twE y).length = 2 := rfl
    cases k with
    | zero => cases h; exact ⟨rfl, rfl⟩
    | succ k =>
      rw [List.getElem?_append_right (by rw [hy]; omega), List.getElem?_append_right (by rw [hy]; omega), hy, show (k + 1) * 2 - 2 = k * 2 by omega, show (k + 1) * 2 + 1 - 2 = k * 2 + 1 by omega]
      exact ih (by simpa using h)
/-- the values of a forest's fields -/
structure Fb where
  vn : Value
  BL : Nat
  vt : Value
  vl : Value
  tv : List Value
  lv : List Value
/-- a forest -/
structure Fr_God where
  nd : List Nm
  tw : List (List Tw)
  tr : List Nm
  lp : List (List Nm)
/-- a forest in memory, at fp; all of it lies from base on -/
structure Fo (w : World) (base fp : Nat) (F : Fr_God) (b : Fb) : Prop where
  blk : w.heap[fp]? = some (.cells #[b.vn, .slice (some ⟨b.BL, 0, none⟩) F.tw.length F.tw.length, b.vt, b.vl] 241 (0, 0))
  lo : base ≤ fp
  nd : w.ownsRow base 9 1 b.vn F.nd.length (F.nd.map sv)
  tws : LL w base 245 247 2 twE (.slice (some ⟨b.BL, 0, none⟩) F.tw.length F.tw.length) b.tv F.tw
  tr : w.ownsRow base 9 1 b.vt F.tr.length (F.tr.map sv)
  lps : LL w base 61 9 1 nmE b.vl b.lv F.lp
  s1 : Sep b.vt b.vn
  s2 : ∀ u ∈ b.lv, Sep u b.vt
theorem Fo.lt {w : World} {base fp : Nat} {F : Fr_God} {b : Fb} (h : Fo w base fp F b) : fp < w.heap.size := (Array.getElem?_eq_some_iff.1 h.blk).1
theorem Fo.below {w w' : World} {base fp : Nat} {F : Fr_God} {b : Fb} (h : Fo w base fp F b) (hb : Below w.heap.size w w') : Fo w' base fp F b :=
  ⟨by rw [hb.block fp h.lt]; exact h.blk, h.lo, row_block h.nd fun g hg => hb.block g (row_ge h.nd hg).2, h.tws.below hb, row_block h.tr fun g hg => hb.block g (row_ge h.tr hg).2, h.lps.below hb, h.s1, h.s2⟩
theorem Fo.c {w : World} {base fp : Nat} {F : Fr_God} {b : Fb} (h : Fo w base fp F b) : w.cell? ⟨fp, 0, none⟩ = some b.vn ∧ w.cell? ⟨fp, 1, none⟩ = some (.slice (some ⟨b.BL, 0, none⟩) F.tw.length F.tw.length) ∧ w.cell? ⟨fp, 2, none⟩ = some b.vt ∧ w.cell? ⟨fp, 3, none⟩ = some b.vl := by
  refine ⟨?_, ?_, ?_, ?_⟩ <;> rw [cell_of_row w fp _ _ _ (0, 0) h.blk] <;> rfl
/-- how great a forest may be -/
structure Fr_God.ok (F : Fr_God) : Prop where
  n : F.tw.length ≤ 100000
  t : ∀ ts ∈ F.tw, ts.length ≤ 100000
  r : F.tr.length ≤ 100000
  l : F.lp.length ≤ 100000
theorem Fo.twR {w : World} {base fp : Nat} {F : Fr_God} {b : Fb} (h : Fo w base fp F b) (hk : F.ok) : TwR w fp w.heap.size F.tw := by
  refine ⟨h.lt, by have := hk.n; omega, fun ts ht => by have := hk.t ts ht; omega, b.BL, F.tw.length, h.c.2.1, (row_ge h.tws.out (g := b.BL) rfl).2, fun j ts hj => ?_⟩
  have hlt := (List.getElem?_eq_some_iff.1 hj).1
  have hn := h.tws.len
  obtain ⟨u, hu⟩ : ∃ u, b.tv[j]? = some u := ⟨_, List.getElem?_eq_getElem (by omega)⟩
  have hr := h.tws.inn j _ ts hu hj
  have o := h.tws.out
  rw [← hn] at o
  refine ⟨u, by rw [o.cellAt j (by omega)]; exact hu, ?_⟩
  obtain ⟨_, ⟨q1, q2⟩ | ⟨g, cap, cur, q1, q2, q3, q4⟩⟩ := hr
  · exact ⟨none, 0, by rw [q1, q2], .inl (List.length_eq_zero_iff.1 q2)⟩
  · refine ⟨_, cap, q1, .inr ⟨g, rfl, (Array.getElem?_eq_some_iff.1 q3).1, fun k t hkt => ?_⟩⟩
    have hr2 := h.tws.inn j _ ts hu hj
    rw [q1] at hr2
    have hl2 := (List.getElem?_eq_some_iff.1 hkt).1
    exact ⟨by rw [hr2.cellAt (k * 2) (by omega)]; exact (twE_get hkt).1, by rw [hr2.cellAt (k * 2 + 1) (by omega)]; exact (twE_get hkt).2⟩

end Go.Proofs.YtmpkcioeodlbcaaGreatDoor
namespace Go.Proofs.YtmpkcioeodlbcaaGreatDoor
open Go.Maps Go.RowKit
set_option linter.unusedVariables false
set_option maxRecDepth 100000
def pushT (tw : List (List Tw)) (a : Nat) (t : Tw) : List (List Tw) := tw.set a (tw.getD a [] ++ [t])
/-- take, without memory; none: seek did not come to an end -/
def Fr_God.take (f : Nat) (F : Fr_God) (nm : Nm) (a b : Nat) : Option Fr_God := match skF F.tw b f a (-1) with
  | none => none
  | some (some way) => some { F with lp := F.lp ++ [nm :: way] }
  | some none => some { F with tr := F.tr ++ [nm], tw := pushT (pushT F.tw a (nm, b)) b (nm, a) }
theorem row_slice {w : World} {base : Nat} {e : TypeId} {sz : Nat} {v : Value} {n : Nat} {xs : List Value} (h : w.ownsRow base e sz v n xs) : ∃ A cap, v = .slice A n cap := by
  obtain ⟨_, ⟨h1, h2⟩ | ⟨g, cap, cur, h1, _⟩⟩ := h
  · exact ⟨none, 0, by rw [h1, h2]⟩
  · exact ⟨_, _, h1⟩
theorem row_some {w : World} {base : Nat} {e : TypeId} {sz : Nat} {v : Value} {n : Nat} {xs : List Value} (h : w.ownsRow base e sz v n xs) (hn : 0 < n) : ∃ g cap, v = .slice (some ⟨g, 0, none⟩) n cap := by
  obtain ⟨_, ⟨h1, h2⟩ | ⟨g, cap, cur, h1, _⟩⟩ := h
  · omega
  · exact ⟨_, _, h1⟩
theorem skF_ne {tw : List (List Tw)} {b f a : Nat} {bef : Int} {l : List Nm} (h : skF tw b f a bef = some (some l)) (hab : a ≠ b) : 0 < l.length := by
  cases f with
  | zero => cases h
  | succ f =>
    unfold skF at h
    rw [if_neg hab] at h
    cases q : tw[a]? with
    | none => rw [q] at h; cases h
    | some ts =>
      rw [q] at h
      simp only at h
      clear q
      induction ts with
      | nil => cases h
      | cons t r ih =>
        unfold skL at h
        split at h
        · exact ih h
        · cases q : skF tw b f t.2 a with
          | none => rw [q] at h; cases h
          | some o =>
            cases o with
            | none => rw [q] at h; exact ih h
            | some m => rw [q] at h; cases h; simp
theorem Tryz.infoSS : (Tryz.prog.info? 61).map (fun i => (i.zero, i.size, i.bytes)) = some (some (.slice none 0 0), 1, 24) := by kernel_rfl
theorem Tryz.infoTW : (Tryz.prog.info? 247).map (fun i => (i.zero, i.size, i.bytes)) = some (some (.agg #[.string ⟨#[]⟩, .int .i64 0]), 2, 24) := by kernel_rfl
theorem fo_set {w : World} {fp : Nat} {c c' : Array Value} {T : TypeId} {i : Nat} {v : Value} (h : w.heap[fp]? = some (.cells c T (0, 0))) (hc : c.setIfInBounds i v = c') : (w.setCell ⟨fp, i, none⟩ v).heap[fp]? = some (.cells c' T (0, 0)) := by rw [← hc]; exact heap_setCell_same w fp i c T v h
theorem row_cells {w : World} {base : Nat} {e : TypeId} {sz : Nat} {v : Value} {n : Nat} {xs : List Value} (h : w.ownsRow base e sz v n xs) {k : Nat} {c : Array Value} {t : TypeId} {fz : Nat × Nat} (hk : w.heap[k]? = some (.cells c t fz)) (hne : t ≠ e) : v.ownBlock ≠ some k := by
  intro hv
  obtain ⟨_, ⟨rfl, _⟩ | ⟨g, cap, cur, rfl, _, h4, _⟩⟩ := h
  · cases hv
  · cases hv
    rw [h4] at hk
    injection hk with hk; injection hk with _ hk
    exact hne hk.symm
/-- elements and maps in memory stay -/
def Kq (w w' : World) : Prop := ∀ (k : Nat) (o : Obj), w.heap[k]? = some o → ((∃ es c, o = .map es c) ∨ ∃ c fz, o = .cells c 96 fz) → w'.heap[k]? = some o
theorem Kq.refl (w : World) : Kq w w := fun _ _ h _ => h
theorem Kq.trans {w w1 w2 : World} (h : Kq w w1) (h2 : Kq w1 w2) : Kq w w2 := fun k o hk ho => h2 k o (h k o hk ho) ho
theorem Kq.bel {w w' : World} (h : Below w.heap.size w w') : Kq w w' := fun k o hk _ => by rw [h.block k (Array.getElem?_eq_some_iff.1 hk).1]; exact hk
theorem Kq.row {w w1 : World} {base : Nat} {e : TypeId} {sz : Nat} {v : Value} {n : Nat} {xs : List Value} (h : w.ownsRow base e sz v n xs) (he : e ≠ 96) (hg : w.grownBy w1 v.ownBlock) : Kq w w1 := by
  intro k o hk ho
  rw [hg.block k (Array.getElem?_eq_some_iff.1 hk).1 ?_]
  · exact hk
  · intro q
    obtain ⟨_, ⟨rfl, _⟩ | ⟨g, cap, cur, rfl, _, h4, _⟩⟩ := h
    · cases q
    · cases q
      rw [h4] at hk
      cases hk
      rcases ho with ⟨es, c, q⟩ | ⟨c, fz, q⟩
      · cases q
      · cases q; exact he rfl
theorem Kq.set {w : World} {p j : Nat} {u : Value} {c0 : Array Value} {t : TypeId} {f0 : Nat × Nat} (hp : w.heap[p]? = some (.cells c0 t f0)) (ht : t ≠ 96) : Kq w (w.setCell ⟨p, j, none⟩ u) := by
  intro k o hk ho
  rw [heap_setCell_other w ⟨p, j, none⟩ k u ?_]
  · exact hk
  · rintro rfl
    rw [hp] at hk
    cases hk
    rcases ho with ⟨es, c, q⟩ | ⟨c, fz, q⟩
    · cases q
    · cases q; exact ht rfl
/-- a loop more: inner its list, the row of loops has grown -/
theorem Fo.pushLp {w w1 : World} {base fp : Nat} {F : Fr_God} {b : Fb} {u v' : Value} {l : List Nm} (h : Fo w base fp F b) (hu : w.ownsRow base 9 1 u l.length (l.map sv)) (hs : ∀ x ∈ b.lv, Sep x u) (ht : Sep u b.vt) (hg : w.grownBy w1 b.vl.ownBlock) (hr : w1.ownsRow base 61 1 v' (F.lp.length + 1) (b.lv ++ [u])) :
    Fo (w1.setCell ⟨fp, 3, none⟩ v') base fp { F with lp := F.lp ++ [l] } { b with vl := v', lv := b.lv ++ [u] } ∧ Below base w (w1.setCell ⟨fp, 3, none⟩ v') ∧ Kq w (w1.setCell ⟨fp, 3, none⟩ v') := by
  have hf : b.vl.ownBlock ≠ some fp := row_cells h.lps.out h.blk (by decide)
  have hb1 : w1.heap[fp]? = w.heap[fp]? := hg.block fp h.lt (fun e => hf e.symm)
  have hk : ∀ k, k < w.heap.size → k ≠ fp → b.vl.ownBlock ≠ some k → (w1.setCell ⟨fp, 3, none⟩ v').heap[k]? = w.heap[k]? := fun k h1 h2 h3 => (heap_setCell_other w1 ⟨fp, 3, none⟩ k v' (by simpa using h2)).trans (hg.block k h1 (fun e => h3 e.symm))
  have hrow : ∀ {e sz v n xs}, e ≠ 241 → e ≠ 61 → w.ownsRow base e sz v n xs → (w1.setCell ⟨fp, 3, none⟩ v').ownsRow base e sz v n xs := fun h1 h2 q => row_block q fun g hg2 => hk g (row_ge q hg2).2 (fun e => row_cells q h.blk (Ne.symm h1) (by rw [hg2, e])) (row_type q h.lps.out h2 hg2)
  have hfz : ∀ {e sz v n xs}, e ≠ 241 → w1.ownsRow base e sz v n xs → (w1.setCell ⟨fp, 3, none⟩ v').ownsRow base e sz v n xs := fun h1 q => row_block q fun g hg2 => heap_setCell_other w1 ⟨fp, 3, none⟩ g v' (fun e => row_cells q (hb1.trans h.blk) (Ne.symm h1) (by rw [hg2]; simpa using e))
  have hL := h.lps.push (v' := v') (l := l) (by rw [nmE_map]; exact hu) hs hg (by rw [← h.lps.len]; exact hr)
  refine ⟨⟨fo_set (hb1.trans h.blk) rfl, h.lo, hrow (by decide) (by decide) h.nd, ⟨h.tws.ty, hrow (by decide) (by decide) h.tws.out, h.tws.len, fun j x m h1 h2 => hrow (by decide) (by decide) (h.tws.inn j x m h1 h2), h.tws.apart⟩, hrow (by decide) (by decide) h.tr, ⟨hL.ty, hfz (by decide) hL.out, hL.len, fun j x m h1 h2 => hfz (by decide) (hL.inn j x m h1 h2), hL.apart⟩, h.s1, fun x hx => ?_⟩, ⟨hg.os, hg.tape, hg.output, by have := hg.size; simpa [World.setCell] using this, fun k hk2 => ?_⟩, (Kq.row h.lps.out (by decide) hg).trans (Kq.set (hb1.trans h.blk) (by decide))⟩
  · rcases List.mem_append.1 hx with q | q
    · exact h.s2 x q
    · simp at q; subst q; exact ht
  · have hlo := h.lo
    have hlt := h.lt
    exact hk k (by omega) (by omega) (fun e => by have := (row_ge h.lps.out e).1; omega)
/-- the tree has grown by a name -/
theorem Fo.pushTr {w w1 : World} {base fp : Nat} {F : Fr_God} {b : Fb} {v' : Value} {l : List Nm} (h : Fo w base fp F b) (hg : w.grownBy w1 b.vt.ownBlock) (hr : w1.ownsRow base 9 1 v' l.length (l.map sv)) (hv : ∀ g, v'.ownBlock = some g → b.vt.ownBlock = some g ∨ w.heap.size ≤ g) :
    Fo (w1.setCell ⟨fp, 2, none⟩ v') base fp { F with tr := l } { b with vt := v' } ∧ Below base w (w1.setCell ⟨fp, 2, none⟩ v') ∧ Kq w (w1.setCell ⟨fp, 2, none⟩ v') := by
  have hf : b.vt.ownBlock ≠ some fp := row_cells h.tr h.blk (by decide)
  have hb1 : w1.heap[fp]? = w.heap[fp]? := hg.block fp h.lt (fun e => hf e.symm)
  have hk : ∀ k, k < w.heap.size → k ≠ fp → b.vt.ownBlock ≠ some k → (w1.setCell ⟨fp, 2, none⟩ v').heap[k]? = w.heap[k]? := fun k h1 h2 h3 => (heap_setCell_other w1 ⟨fp, 2, none⟩ k v' (by simpa using h2)).trans (hg.block k h1 (fun e => h3 e.symm))
  have hrow : ∀ {e sz v n xs}, e ≠ 241 → (e ≠ 9 ∨ Sep v b.vt) → w.ownsRow base e sz v n xs → (w1.setCell ⟨fp, 2, none⟩ v').ownsRow base e sz v n xs := fun h1 h2 q => row_block q fun g hg2 => hk g (row_ge q hg2).2 (fun e => row_cells q h.blk (Ne.symm h1) (by rw [hg2, e])) (by
    rcases h2 with h2 | h2
    · exact row_type q h.tr h2 hg2
    · exact h2 g hg2)
  have hnew : ∀ {u : Value}, Sep u b.vt → (∀ g, u.ownBlock = some g → g < w.heap.size) → Sep u v' := fun h1 h2 => sep_new h1 hv h2
  refine ⟨⟨fo_set (hb1.trans h.blk) rfl, h.lo, hrow (by decide) (.inr h.s1.symm) h.nd, ⟨h.tws.ty, hrow (by decide) (.inl (by decide)) h.tws.out, h.tws.len, fun j x m h1 h2 => hrow (by decide) (.inl (by decide)) (h.tws.inn j x m h1 h2), h.tws.apart⟩, row_block hr fun g hg2 => heap_setCell_other w1 ⟨fp, 2, none⟩ g v' (fun e => row_cells hr (hb1.trans h.blk) (by decide) (by rw [hg2]; simpa using e)), ⟨h.lps.ty, hrow (by decide) (.inl (by decide)) h.lps.out, h.lps.len, fun j x m h1 h2 => hrow (by decide) (.inr (h.s2 x (List.mem_of_getElem? h1))) (h.lps.inn j x m h1 h2), h.lps.apart⟩, (hnew h.s1.symm fun g hg2 => (row_ge h.nd hg2).2).symm, fun x hx => hnew (h.s2 x hx) fun g hg2 => (h.lps.lt hx hg2).2⟩, ⟨hg.os, hg.tape, hg.output, by have := hg.size; simpa [World.setCell] using this, fun k hk2 => ?_⟩, (Kq.row h.tr (by decide) hg).trans (Kq.set (hb1.trans h.blk) (by decide))⟩
  have hlo := h.lo
  have hlt := h.lt
  exact hk k (by omega) (by omega) (fun e => by have := (row_ge h.tr e).1; omega)
theorem kq_BL {w w1 : World} {base BL n cap j : Nat} {u u' : Value} {vals xs : List Value} {m : Nat} (h : w.ownsRow base 245 1 (.slice (some ⟨BL, 0, none⟩) n cap) vals.length vals) (hu : w.ownsRow base 247 2 u m xs) (hg : w.grownBy w1 u.ownBlock) : Kq w1 (w1.setCell ⟨BL, j, none⟩ u') := by
  have hne : u.ownBlock ≠ some BL := fun e => row_type h hu (by decide) (g := BL) rfl e
  obtain ⟨_, ⟨q, _⟩ | ⟨g, c2, cur, q, _, h4, _⟩⟩ := h
  · cases q
  · cases q
    exact Kq.set ((hg.block _ (Array.getElem?_eq_some_iff.1 h4).1 (fun e => hne e.symm)).trans h4) (by decide)
/-- a twig more at a node -/
theorem Fo.pushTw {w w1 : World} {base fp : Nat} {F : Fr_God} {b : Fb} {u u' : Value} {a : Nat} {t : Tw} (h : Fo w base fp F b) (ha : b.tv[a]? = some u) (hg : w.grownBy w1 u.ownBlock) (hr : w1.ownsRow base 247 2 u' ((F.tw.getD a []).length + 1) ((F.tw.getD a [] ++ [t]).flatMap twE)) (hv : ∀ g, u'.ownBlock = some g → u.ownBlock = some g ∨ w.heap.size ≤ g) :
    Fo (w1.setCell ⟨b.BL, a, none⟩ u') base fp { F with tw := pushT F.tw a t } { b with tv := b.tv.set a u' } ∧ Below base w (w1.setCell ⟨b.BL, a, none⟩ u') ∧ Kq w (w1.setCell ⟨b.BL, a, none⟩ u') := by
  obtain ⟨l, hl, hru⟩ := h.tws.inn' ha
  have hBb := row_ge h.tws.out (g := b.BL) rfl
  have hf : u.ownBlock ≠ some fp := row_cells hru h.blk (by decide)
  have hfB : fp ≠ b.BL := fun e => row_cells h.tws.out h.blk (by decide) (by rw [e]; rfl)
  have hk : ∀ k, k < w.heap.size → k ≠ b.BL → u.ownBlock ≠ some k → (w1.setCell ⟨b.BL, a, none⟩ u').heap[k]? = w.heap[k]? := fun k h1 h2 h3 => (heap_setCell_other w1 ⟨b.BL, a, none⟩ k u' (by simpa using h2)).trans (hg.block k h1 (fun e => h3 e.symm))
  have hrow : ∀ {e sz v n xs}, e ≠ 245 → e ≠ 247 → w.ownsRow base e sz v n xs → (w1.setCell ⟨b.BL, a, none⟩ u').ownsRow base e sz v n xs := fun h1 h2 q => row_block q fun g hg2 => hk g (row_ge q hg2).2 (fun e => row_type h.tws.out q (Ne.symm h1) (g := b.BL) rfl (by rw [hg2, e])) (row_type q hru h2 hg2)
  have hS := h.tws.store (l' := F.tw.getD a [] ++ [t]) ha hg (by rw [List.length_append]; exact hr) hv
  have hln : (pushT F.tw a t).length = F.tw.length := by unfold pushT; simp
  refine ⟨⟨?_, h.lo, hrow (by decide) (by decide) h.nd, ?_, hrow (by decide) (by decide) h.tr, ⟨h.lps.ty, hrow (by decide) (by decide) h.lps.out, h.lps.len, fun j x m h1 h2 => hrow (by decide) (by decide) (h.lps.inn j x m h1 h2), h.lps.apart⟩, h.s1, h.s2⟩, ⟨hg.os, hg.tape, hg.output, by have := hg.size; simpa [World.setCell] using this, fun k hk2 => hk k (by have := h.lt; have := h.lo; omega) (by omega) (fun e => by have := (row_ge hru e).1; omega)⟩, (Kq.row hru (by decide) hg).trans (kq_BL h.tws.out hru hg)⟩
  · rw [hk fp h.lt hfB hf]
    show _ = some (Obj.cells #[b.vn, .slice (some ⟨b.BL, 0, none⟩) (pushT F.tw a t).length (pushT F.tw a t).length, b.vt, b.vl] _ _)
    rw [hln]; exact h.blk
  · show LL _ base _ _ 2 twE (.slice (some ⟨b.BL, 0, none⟩) (pushT F.tw a t).length (pushT F.tw a t).length) (b.tv.set a u') (pushT F.tw a t)
    rw [hln]; exact hS

end Go.Proofs.YtmpkcioeodlbcaaGreatDoor
namespace Go.Proofs.YtmpkcioeodlbcaaGreatDoor
open Go.Maps Go.RowKit
set_option linter.unusedVariables false
set_option maxRecDepth 100000
theorem fo_froz {w : World} {base fp : Nat} {F : Fr_God} {b : Fb} (h : Fo w base fp F b) (j : Nat) : w.frozen? ⟨fp, j, none⟩ = false := frozen_of_row w fp j _ _ h.blk
theorem loop_end {w w1 wA w2 w3 : World} {base fp qA m g2 cap2 g3 c3 : Nat} {F : Fr_God} {B : Fb} {s : ByteArray} {way : List Nm} {v3 : Value} {o : Obj} (hF1 : Fo w1 base fp F B) (hv : B.vl = v3) (b1 : Below w.heap.size w w1) (bA : Below w1.heap.size w1 wA) (hb : base ≤ w.heap.size) (hq : wA.heap.size = qA + 1) (hq1 : qA = w1.heap.size) (hm : way.length = m)
    (hown2 : w2.ownsRow base 9 1 (.slice (some ⟨g2, 0, none⟩) (1 + m) cap2) (1 + m) ([.string s] ++ way.map sv)) (hgrow2 : wA.drew.grownBy w2 (some qA)) (hat2 : (some qA : Option Nat) = some g2 ∨ g2 = wA.heap.size)
    (hown3 : w3.ownsRow base 61 1 (.slice (some ⟨g3, 0, none⟩) (F.lp.length + 1) c3) (F.lp.length + 1) (B.lv ++ [.slice (some ⟨g2, 0, none⟩) (1 + m) cap2])) (hgrow3 : (w2.alloc o).grownBy w3 v3.ownBlock) :
    (∃ B', Fo (w3.setCell ⟨fp, 3, none⟩ (.slice (some ⟨g3, 0, none⟩) (F.lp.length + 1) c3)) base fp { F with lp := F.lp ++ [bl s :: way] } B') ∧ Below base w (w3.setCell ⟨fp, 3, none⟩ (.slice (some ⟨g3, 0, none⟩) (F.lp.length + 1) c3)) ∧ Kq w (w3.setCell ⟨fp, 3, none⟩ (.slice (some ⟨g3, 0, none⟩) (F.lp.length + 1) c3)) := by
  have hs1 := b1.size
  have b2 : Below w1.heap.size w1 w2 := bA.trans ⟨hgrow2.os, hgrow2.tape, hgrow2.output, hgrow2.size, fun k hk => hgrow2.block k (by show k < wA.heap.size; omega) (fun e => by cases e; omega)⟩
  have b3 : Below w1.heap.size w1 (w2.alloc o) := b2.alloc (by have := b2.size; omega) _
  have hF3 := hF1.below b3
  have hge : w1.heap.size ≤ g2 := by rcases hat2 with q | q; cases q; omega; omega
  have hP := hF3.pushLp (u := .slice (some ⟨g2, 0, none⟩) (1 + m) cap2) (v' := .slice (some ⟨g3, 0, none⟩) (F.lp.length + 1) c3) (l := bl s :: way) (by
      rw [List.length_cons, hm, Nat.add_comm m 1]; exact (hown2.alloc o)) (fun x hx g q1 q2 => by have e : g2 = g := Option.some.inj q2; have := (hF1.lps.lt hx q1).2; omega) (fun g q1 q2 => by have e : g2 = g := Option.some.inj q1; have := (row_ge hF1.tr q2).2; omega) (by rw [hv]; exact hgrow3) hown3
  exact ⟨⟨_, hP.1⟩, (b1.mono hb).trans ((b3.mono (by omega)).trans hP.2.1), (Kq.bel b1).trans ((Kq.bel b3).trans hP.2.2)⟩
set_option maxHeartbeats 4000000 in
theorem take_loop (w : World) (base fp a b f : Nat) (F : Fr_God) (B : Fb) (s : ByteArray) (way : List Nm) (h : Fo w base fp F B) (hok : F.ok) (hf : f ≤ 10000) (hab : a ≠ b) (hr : skF F.tw b f a (-1) = some (some way)) (hs : s.size ≤ 100000) :
    Calls Tryz.prog 171 #[.pointer (some ⟨fp, 0, none⟩), .string s, .int .i64 (a : Int), .int .i64 (b : Int)] w fun e w' => e = .returned (.tuple #[]) ∧ (∃ B', Fo w' base fp { F with lp := F.lp ++ [bl s :: way] } B') ∧ Below base w w' ∧ Kq w w' := by
  have hback := back_any w fp a b f F.tw (some way) (h.twR hok) (by omega) hr
  have hwl := skF_len hr
  have hw0 := skF_ne hr hab
  have hbs : base ≤ w.heap.size := by have := h.lo; have := h.lt; omega
  have HF : Hid _ := h
  have hlpn : F.lp.length ≤ 100000 := hok.l
  clear h hr hok
  go_enter Tryz.func171, Tryz.ntmps171
  go_wp2_with fail
  refine hback.mono ?_
  rintro e1 w1 ⟨v, rfl, ow, b1⟩
  simp only [Option.getD_some] at ow
  obtain ⟨gw, cw, rfl⟩ := row_some ow hw0
  obtain ⟨m, hm⟩ : ∃ m, way.length = m := ⟨_, rfl⟩
  rw [hm] at ow hwl hw0 ⊢
  have HM : Hid (way.length = m) := hm
  have hF1 := HF.out.below b1
  obtain ⟨c0, c1, c2, c3⟩ := hF1.c
  obtain ⟨A3, cap3, hv3⟩ := row_slice hF1.lps.out
  rw [hv3, ← hF1.lps.len] at c3
  have hz3 := fo_froz hF1 3
  have hfp1 : fp < w1.heap.size := hF1.lt
  have hs1 := b1.size
  obtain ⟨wA, hwA⟩ : ∃ wA, w1.alloc (.cells #[.string s] 9) = wA := ⟨_, rfl⟩
  obtain ⟨qA, hqA⟩ : ∃ qA, w1.heap.size = qA := ⟨_, rfl⟩
  have bA : Below w1.heap.size w1 wA := by rw [← hwA]; exact (Below.refl _ _).alloc (Nat.le_refl _) _
  have hFA := hF1.below bA
  have rowA : wA.drew.ownsRow base 9 1 (.slice (some ⟨qA, 0, none⟩) 1 1) 1 [.string s] := by
    rw [← hwA, ← hqA]
    exact World.ownsRow_lit w1 #[.string s] 1 (by omega) (by decide) rfl
  have HcW : Hid (∀ j u, (way.map sv)[j]? = some u → wA.drew.cell? ((⟨gw, 0, none⟩ : Addr).add j) = some u) := fun j u hj => by
    have h1 := ow.cells (g := gw) rfl j u hj
    exact (bA.cell (World.block_lt_of_cell? w1 _ h1)).trans h1
  have hqs : wA.heap.size = qA + 1 := by rw [← hwA, ← hqA]; simp
  have HSA : Hid (wA.heap.size = qA + 1 ∧ base ≤ wA.heap.size ∧ qA = w1.heap.size) := ⟨hqs, by omega, hqA.symm⟩
  have HML : Hid ((way.map sv).length = m * 1 ∧ ∀ u ∈ way.map sv, u.oneCell' = true) := ⟨by simp [hm], fun u hu => by obtain ⟨x, _, rfl⟩ := List.mem_map.1 hu; rfl⟩
  obtain ⟨i0, hi0, hz0, hz1, hz2⟩ := info_parts Tryz.infoS
  obtain ⟨j0, hj0, hy0, hy1, hy2⟩ := info_parts Tryz.infoSS
  have hfA : fp < wA.heap.size := hFA.lt
  have cA3 : wA.cell? ⟨fp, 3, none⟩ = some (.slice A3 F.lp.length cap3) := by have := hFA.c.2.2.2; rw [hv3, ← hF1.lps.len] at this; exact this
  have hqf : qA ≠ fp := by omega
  have rL : wA.ownsRow base 61 1 (.slice A3 F.lp.length cap3) F.lp.length B.lv := by have := hFA.lps.out; rw [hv3, ← hF1.lps.len] at this; exact this
  have HF1 : Hid (Fo w1 base fp F B ∧ B.vl = .slice A3 F.lp.length cap3 ∧ Below w.heap.size w w1 ∧ Below w1.heap.size w1 wA) := ⟨hF1, by rw [hv3, ← hF1.lps.len], b1, bA⟩
  have hlq : some fp ≠ (Value.slice (some ⟨qA, 0, none⟩) 1 1).ownBlock := fun e => hqf (by cases e; rfl)
  have hlr : (Value.slice A3 F.lp.length cap3).ownBlock ≠ (Value.slice (some ⟨qA, 0, none⟩) 1 1).ownBlock := fun e => by
    have e2 : (Value.slice A3 F.lp.length cap3).ownBlock = some qA := e
    have := (row_ge (w := w1) (by have := hF1.lps.out; rw [hv3, ← hF1.lps.len] at this; exact this : w1.ownsRow base 61 1 (.slice A3 F.lp.length cap3) F.lp.length B.lv) e2).2
    omega
  clear hback b1 hF1 hFA bA hqs ow hm c0 c1 c2 hv3 hs1
  go_wp2_with fail
  go_cut [18] (fun _ wc => (∃ B', Fo wc base fp { F with lp := F.lp ++ [bl s :: way] } B') ∧ Below base w wc ∧ Kq w wc)
  case first =>
    go_region_law
      (first
        | (refine step_append_lies _ (by rfl) _ _ 61 (by rfl) base 9 i0 (.string ByteArray.empty) 1 16 Tryz.underlying61 hi0 hz0 hz1 hz2 (by rfl) (by decide) _ _ _ (by rfl) rowA ⟨gw, 0, none⟩ m cw (way.map sv) (by rfl) HML.out.1 HcW.out HML.out.2 hw0 (by unfold maxLen; omega) (by omega) HSA.out.2.1 wA.heap.size rfl ?_; intro g2 cap2 w2 hown2 hgrow2 hat2 hlt2; (have k2 : w2.cell? ⟨fp, 3, none⟩ = some (.slice A3 F.lp.length cap3) := hgrow2.cell (w := wA.drew) cA3 hlq); (have rL2 : w2.ownsRow base 61 1 (.slice A3 F.lp.length cap3) F.lp.length B.lv := World.ownsRow.kept (w := wA.drew) rL hgrow2 (Or.inr hlr)); (have hf2 : fp < w2.heap.size := (World.block_lt_of_cell? w2 _ k2)))
        | (refine step_append_lies _ (by rfl) _ _ 239 (by rfl) base 61 j0 (.slice none 0 0) 1 24 Tryz.underlying239 hj0 hy0 hy1 hy2 (by rfl) (by decide) _ _ _ (by rfl) (rL2.alloc _) ⟨w2.heap.size, 0, none⟩ 1 1 [.slice (some ⟨g2, 0, none⟩) (1 + m) cap2] (by rfl) (by rfl) (World.news_of_block (fr := (0, 0)) (t := 61) (cs := #[.slice (some ⟨g2, 0, none⟩) (1 + m) cap2]) (heap_alloc_new _ _)) (fun u hu => by simp at hu; subst hu; rfl) (by decide) (by unfold maxLen; omega) (by omega) (by have := HF1.out.1.lo; simp; omega) (w2.heap.size + 1) (by simp) ?_; intro g3 cap3' w3 hown3 hgrow3 hat3 hlt3; (have hl3 : some fp ≠ (Value.slice A3 F.lp.length cap3).ownBlock := fun e => row_cells HF1.out.1.lps.out HF1.out.1.blk (by decide) (by rw [HF1.out.2.1, e])); (have k3 : w3.cell? ⟨fp, 3, none⟩ = some (.slice A3 F.lp.length cap3) := hgrow3.cell (by rw [World.cell?_alloc_lt _ _ _ hf2]; exact k2) hl3); (have f3 : w3.frozen? ⟨fp, 3, none⟩ = false := (hgrow3.frozen_far ⟨fp, 3, none⟩ (by simp; omega) hl3).trans ((World.frozen?_alloc_old w2 _ ⟨fp, 3, none⟩ (Nat.ne_of_lt hf2)).trans ((hgrow2.frozen_far ⟨fp, 3, none⟩ hfA hlq).trans ((World.frozen?_of_block (HF1.out.2.2.2.block fp (by have := HSA.out.2.2; omega))).trans (fo_froz HF1.out.1 3))))))
        | (trace_state; fail))
    all_goals go_wp2_with fail
    all_goals go_meet
    all_goals exact loop_end HF1.out.1 HF1.out.2.1 HF1.out.2.2.1 HF1.out.2.2.2 hbs HSA.out.1 HSA.out.2.2 HM.out hown2 hgrow2 hat2 hown3 hgrow3
  go_wp2_with fail
  (try simp only [Exit.inBlock, Exit.then])
  refine bodyPost_ret (results_none rfl _ _ _) rfl ?_
  exact ⟨rfl, hcut⟩

end Go.Proofs.YtmpkcioeodlbcaaGreatDoor
namespace Go.Proofs.YtmpkcioeodlbcaaGreatDoor
open Go.Maps Go.RowKit
set_option linter.unusedVariables false
set_option maxRecDepth 100000
/-- what a twig more is: the list of a node's twigs -/
theorem Fo.tv {w : World} {base fp : Nat} {F : Fr_God} {B : Fb} (h : Fo w base fp F B) {a : Nat} (ha : a < F.tw.length) : ∃ u, B.tv[a]? = some u ∧ w.ownsRow base 247 2 u (F.tw.getD a []).length ((F.tw.getD a []).flatMap twE) ∧ w.cell? ⟨B.BL, a, none⟩ = some u ∧ w.frozen? ⟨B.BL, a, none⟩ = false := by
  have hn := h.tws.len
  obtain ⟨u, hu⟩ : ∃ u, B.tv[a]? = some u := ⟨_, List.getElem?_eq_getElem (by omega)⟩
  have hl : F.tw[a]? = some (F.tw.getD a []) := by rw [List.getD_eq_getElem?_getD, List.getElem?_eq_getElem ha]; rfl
  have o := h.tws.out
  rw [← hn] at o
  exact ⟨u, hu, h.tws.inn a u _ hu hl, by rw [o.cellAt a (by omega)]; exact hu, o.frozenAt a⟩
theorem gd_push (tw : List (List Tw)) (a b : Nat) (t : Tw) : ((pushT tw a t).getD b []).length ≤ (tw.getD b []).length + 1 := by
  unfold pushT
  simp only [List.getD_eq_getElem?_getD, List.getElem?_set]
  by_cases h : a = b
  · subst h
    by_cases h2 : a < tw.length
    · simp [h2]
    · simp [h2]
  · simp [h]
theorem tw_end {w wx w4 : World} {base fp BL m a g4 cp4 : Nat} {F1 : Fr_God} {B : Fb} {nm : ByteArray} {far : Nat} {u : Value} {o : Obj} (h : Fo wx base fp F1 B) (hB : B.BL = BL) (hu : B.tv[a]? = some u) (hm : (F1.tw.getD a []).length = m) (hb : Below base w wx ∧ Kq w wx) (hbx : base ≤ wx.heap.size)
    (hown : w4.ownsRow base 247 2 (.slice (some ⟨g4, 0, none⟩) (m + 1) cp4) (m + 1) ((F1.tw.getD a []).flatMap twE ++ [.string nm, .int .i64 (far : Int)])) (hgrow : (wx.alloc o).drew.grownBy w4 u.ownBlock) (hat : u.ownBlock = some g4 ∨ g4 = wx.heap.size + 1) :
    (∃ B', Fo (w4.setCell ⟨BL, a, none⟩ (.slice (some ⟨g4, 0, none⟩) (m + 1) cp4)) base fp { F1 with tw := pushT F1.tw a (bl nm, far) } B') ∧ Below base w (w4.setCell ⟨BL, a, none⟩ (.slice (some ⟨g4, 0, none⟩) (m + 1) cp4)) ∧ Kq w (w4.setCell ⟨BL, a, none⟩ (.slice (some ⟨g4, 0, none⟩) (m + 1) cp4)) := by
  subst hB
  have bA : Below wx.heap.size wx (wx.alloc o).drew := ((Below.refl _ wx).alloc (Nat.le_refl _) o).drew
  have hP := (h.below bA).pushTw (t := (bl nm, far)) (u' := .slice (some ⟨g4, 0, none⟩) (m + 1) cp4) hu hgrow (by rw [hm, List.flatMap_append]; exact hown) (fun g q => by
    have e : g4 = g := Option.some.inj q
    rcases hat with q2 | q2
    · exact .inl (by rw [q2, e])
    · exact .inr (by show (wx.alloc o).heap.size ≤ g; simp; omega))
  exact ⟨⟨_, hP.1⟩, hb.1.trans ((bA.mono hbx).trans hP.2.1), hb.2.trans ((Kq.bel bA).trans hP.2.2)⟩
theorem gd_len0 {F : Fr_God} (h : F.ok) (a : Nat) : (F.tw.getD a []).length ≤ 100000 := by
  by_cases ha : a < F.tw.length
  · rw [List.getD_eq_getElem?_getD, List.getElem?_eq_getElem ha]
    have := h.t _ (List.getElem_mem ha)
    simp; omega
  · rw [List.getD_eq_getElem?_getD, List.getElem?_eq_none (by omega)]; simp
theorem gd_len {F : Fr_God} (h : F.ok) (a : Nat) : (F.tw.getD a []).length ≤ 100005 := by
  by_cases ha : a < F.tw.length
  · rw [List.getD_eq_getElem?_getD, List.getElem?_eq_getElem ha]
    have := h.t _ (List.getElem_mem ha)
    simp; omega
  · rw [List.getD_eq_getElem?_getD, List.getElem?_eq_none (by omega)]; simp
set_option maxHeartbeats 4000000 in
theorem take_tree (w : World) (base fp a b f : Nat) (F : Fr_God) (B : Fb) (s : ByteArray) (h : Fo w base fp F B) (hok : F.ok) (hf : f ≤ 10000) (ha : a < F.tw.length) (hb : b < F.tw.length) (hr : skF F.tw b f a (-1) = some none) (hs : s.size ≤ 100000) :
    Calls Tryz.prog 171 #[.pointer (some ⟨fp, 0, none⟩), .string s, .int .i64 (a : Int), .int .i64 (b : Int)] w fun e w' => e = .returned (.tuple #[]) ∧ (∃ B', Fo w' base fp { F with tr := F.tr ++ [bl s], tw := pushT (pushT F.tw a (bl s, b)) b (bl s, a) } B') ∧ Below base w w' ∧ Kq w w' := by
  have hback := back_any w fp a b f F.tw none (h.twR hok) (by omega) hr
  have hbs : base ≤ w.heap.size := by have := h.lo; have := h.lt; omega
  have HF : Hid _ := h
  have htrn : F.tr.length ≤ 100000 := hok.r
  have HOK : Hid F.ok := hok
  have HLN5 : Hid ((({ F with tr := F.tr ++ [bl s] } : Fr_God).tw.getD a []).length ≤ 100005) := gd_len hok a
  have HLN6 : Hid ((({ F with tr := F.tr ++ [bl s], tw := pushT F.tw a (bl s, b) } : Fr_God).tw.getD b []).length ≤ 100005) := by have := gd_push F.tw a b (bl s, b); have := gd_len0 hok b; show ((pushT F.tw a (bl s, b)).getD b []).length ≤ _; omega
  clear h hr hok
  go_enter Tryz.func171, Tryz.ntmps171
  go_wp2_with fail
  refine hback.mono ?_
  rintro e1 w1 ⟨v, rfl, ow, b1⟩
  have hF1 := HF.out.below b1
  obtain ⟨c0, c1, c2, c3⟩ := hF1.c
  obtain ⟨A2, cap2, hv2⟩ := row_slice hF1.tr
  have hz2 := fo_froz hF1 2
  have hfp1 : fp < w1.heap.size := hF1.lt
  have rT := hF1.tr
  rw [hv2] at c2 rT
  obtain ⟨i0, hi0, hy0, hy1, hy2⟩ := info_parts Tryz.infoS
  have hlq : some fp ≠ (Value.slice A2 F.tr.length cap2).ownBlock := fun e => row_cells hF1.tr hF1.blk (by decide) (by rw [hv2, e])
  have hs1 := b1.size
  have HF1 : Hid (Fo w1 base fp F B ∧ B.vt = .slice A2 F.tr.length cap2 ∧ Below base w w1 ∧ Kq w w1) := ⟨hF1, hv2, b1.mono hbs, Kq.bel b1⟩
  clear hback hF1 ow c0 c1 c3 b1
  go_wp2_with (at_builtin; refine wpList_append_lies _ (by rfl) _ _ 61 (by rfl) base 9 i0 (.string ByteArray.empty) 1 16 Tryz.underlying61 hi0 hy0 hy1 hy2 (by rfl) (by decide) _ _ _ (by rfl) (rT.alloc _) ⟨w1.heap.size, 0, none⟩ 1 1 [.string s] (by rfl) (by rfl) (World.news_of_block (fr := (0, 0)) (t := 9) (cs := #[.string s]) (heap_alloc_new _ _)) (fun u hu => by simp at hu; subst hu; rfl) (by decide) (by unfold maxLen; omega) (by omega) (by simp; omega) _ rfl ?_; intro g2 cp2 w2 hown2 hgrow2 hat2 hlt2; (have k2 : w2.cell? ⟨fp, 2, none⟩ = some (.slice A2 F.tr.length cap2) := hgrow2.cell (by rw [World.cell?_alloc_lt _ _ _ hfp1]; exact c2) hlq); (have f2 : w2.frozen? ⟨fp, 2, none⟩ = false := (hgrow2.frozen_far ⟨fp, 2, none⟩ (by simp; omega) hlq).trans ((World.frozen?_alloc_old w1 _ ⟨fp, 2, none⟩ (Nat.ne_of_lt hfp1)).trans hz2)))
  have hX := (HF1.out.1.below ((Below.refl _ w1).alloc (Nat.le_refl _) (.cells #[.string s] 9))).pushTr (v' := .slice (some ⟨g2, 0, none⟩) (F.tr.length + 1) cp2) (l := F.tr ++ [bl s]) (by rw [HF1.out.2.1]; exact hgrow2) (by rw [List.length_append, List.map_append]; exact hown2) (fun g q => by
    have e : g2 = g := Option.some.inj q
    rw [HF1.out.2.1, ← e]
    rcases hat2 with h | h
    · exact .inl h
    · exact .inr (by omega))
  obtain ⟨wx, hwx⟩ : ∃ wx, wx = w2.setCell ⟨fp, 2, none⟩ (.slice (some ⟨g2, 0, none⟩) (F.tr.length + 1) cp2) := ⟨_, rfl⟩
  have HX : Hid ((∃ B1, Fo wx base fp { F with tr := F.tr ++ [bl s] } B1) ∧ Below base w wx ∧ Kq w wx) := by
    rw [hwx]
    exact ⟨⟨_, hX.1⟩, HF1.out.2.2.1.trans (((Below.refl _ w1).alloc (by omega) _).trans hX.2.1), HF1.out.2.2.2.trans ((Kq.bel ((Below.refl _ w1).alloc (Nat.le_refl _) _)).trans hX.2.2)⟩
  rw [← hwx]
  clear hX hwx k2 f2 hown2 hgrow2 hat2 hlt2 HF1 c2 hv2 hz2 hfp1 rT hi0 hy0 hy1 hy2 hlq hs1
  obtain ⟨i1, hi1, hx0, hx1, hx2⟩ := info_parts Tryz.infoTW
  obtain ⟨B5, hF5⟩ := HX.out.1
  obtain ⟨u5, hu5, ru5, cu5, zu5⟩ := hF5.tv (a := a) ha
  obtain ⟨Au5, cq5, rfl⟩ := row_slice ru5
  obtain ⟨n5, hn5⟩ : ∃ n, ({ F with tr := F.tr ++ [bl s] } : Fr_God).tw.length = n := ⟨_, rfl⟩
  obtain ⟨m5, hm5⟩ : ∃ m, (({ F with tr := F.tr ++ [bl s] } : Fr_God).tw.getD a []).length = m := ⟨_, rfl⟩
  have cc5 := hF5.c.2.1
  have hBL5 : B5.BL < wx.heap.size := (row_ge hF5.tws.out (g := B5.BL) rfl).2
  have hfx5 : fp < wx.heap.size := hF5.lt
  have hbx5 : base ≤ wx.heap.size := by have := hF5.lo; omega
  rw [hn5] at cc5
  rw [hm5] at ru5 cu5 hu5
  have han5 : (a : Int) < (n5 : Int) := by have h0 : ({ F with tr := F.tr ++ [bl s] } : Fr_God).tw.length = F.tw.length := rfl; omega
  have hmu5 : m5 ≤ 100005 := by
    rw [← hm5]
    exact HLN5.out
  have hlB5 : some B5.BL ≠ (Value.slice Au5 m5 cq5).ownBlock := fun e => row_type hF5.tws.out ru5 (by decide) (g := B5.BL) rfl e.symm
  have hlf5 : some fp ≠ (Value.slice Au5 m5 cq5).ownBlock := fun e => row_cells ru5 hF5.blk (by decide) e.symm
  have HR5 : Hid (Fo wx base fp { F with tr := F.tr ++ [bl s] } B5 ∧ B5.tv[a]? = some (.slice Au5 m5 cq5) ∧ (({ F with tr := F.tr ++ [bl s] } : Fr_God).tw.getD a []).length = m5 ∧ Below base w wx ∧ Kq w wx) := ⟨hF5, hu5, hm5, HX.out.2⟩
  have ra5 : wx.drew.ownsRow base 247 2 (.slice Au5 m5 cq5) m5 ((({ F with tr := F.tr ++ [bl s] } : Fr_God).tw.getD a []).flatMap twE) := ru5
  obtain ⟨BL5, hBLe5⟩ : ∃ x, B5.BL = x := ⟨_, rfl⟩
  rw [hBLe5] at cc5 cu5 zu5 hBL5 hlB5
  have HBE5 : Hid (B5.BL = BL5) := hBLe5
  clear hF5 hu5 hn5 hm5 hBLe5 ru5 HX
  go_cut [41] (fun _ wc => (∃ B', Fo wc base fp { F with tr := F.tr ++ [bl s], tw := pushT F.tw a (bl s, b) } B') ∧ Below base w wc ∧ Kq w wc)
  case first =>
    go_region_law
      (first
        | (refine step_append_lies _ (by rfl) _ _ 245 (by rfl) base 247 i1 _ 2 24 Tryz.underlying245 hi1 hx0 hx1 hx2 (by rfl) (by decide) _ _ _ (by rfl) (ra5.alloc _) ⟨wx.heap.size, 0, none⟩ 1 1 [.string s, .int .i64 (b : Int)] (by rfl) (by rfl) (World.news_of_block (fr := (0, 0)) (t := 247) (cs := #[.string s, .int .i64 (b : Int)]) (heap_alloc_new _ _)) (fun u hu => by simp at hu; rcases hu with rfl | rfl <;> rfl) (by decide) (by unfold maxLen; omega) (by omega) (by simp; omega) (wx.heap.size + 1) (by simp) ?_; intro g4 cp4 w4 hown4 hgrow4 hat4 hlt4; (have k4 : w4.cell? ⟨BL5, a, none⟩ = some (.slice Au5 m5 cq5) := hgrow4.cell ((World.cell?_alloc_lt wx _ ⟨BL5, a, none⟩ hBL5).trans cu5) hlB5); (have j4 : w4.cell? ⟨fp, 1, none⟩ = some (.slice (some ⟨BL5, 0, none⟩) n5 n5) := hgrow4.cell ((World.cell?_alloc_lt wx _ ⟨fp, 1, none⟩ hfx5).trans cc5) hlf5); (have f4 : w4.frozen? ⟨BL5, a, none⟩ = false := (hgrow4.frozen_far ⟨BL5, a, none⟩ (by simp; omega) hlB5).trans ((World.frozen?_alloc_old wx _ ⟨BL5, a, none⟩ (Nat.ne_of_lt hBL5)).trans zu5)))
        | (trace_state; fail))
    all_goals go_wp2_with fail
    all_goals go_meet
    all_goals exact tw_end HR5.out.1 HBE5.out HR5.out.2.1 HR5.out.2.2.1 HR5.out.2.2.2 hbx5 hown4 hgrow4 hat4
  have HY : Hid ((∃ B', Fo wc base fp { F with tr := F.tr ++ [bl s], tw := pushT F.tw a (bl s, b) } B') ∧ Below base w wc ∧ Kq w wc) := hcut
  clear hcut cc5 cu5 zu5 hBL5 hlB5 hlf5 ra5 HR5 HBE5 hfx5 hbx5 han5 hmu5
  go_wp2_with fail
  obtain ⟨B6, hF6⟩ := HY.out.1
  obtain ⟨u6, hu6, ru6, cu6, zu6⟩ := hF6.tv (a := b) (by simp [pushT]; omega)
  obtain ⟨Au6, cq6, rfl⟩ := row_slice ru6
  obtain ⟨n6, hn6⟩ : ∃ n, ({ F with tr := F.tr ++ [bl s], tw := pushT F.tw a (bl s, b) } : Fr_God).tw.length = n := ⟨_, rfl⟩
  obtain ⟨m6, hm6⟩ : ∃ m, (({ F with tr := F.tr ++ [bl s], tw := pushT F.tw a (bl s, b) } : Fr_God).tw.getD b []).length = m := ⟨_, rfl⟩
  have cc6 := hF6.c.2.1
  have hBL6 : B6.BL < wc.heap.size := (row_ge hF6.tws.out (g := B6.BL) rfl).2
  have hfx6 : fp < wc.heap.size := hF6.lt
  have hbx6 : base ≤ wc.heap.size := by have := hF6.lo; omega
  rw [hn6] at cc6
  rw [hm6] at ru6 cu6 hu6
  have han6 : (b : Int) < (n6 : Int) := by have h0 : ({ F with tr := F.tr ++ [bl s], tw := pushT F.tw a (bl s, b) } : Fr_God).tw.length = F.tw.length := (by simp [pushT]); omega
  have hmu6 : m6 ≤ 100005 := by
    rw [← hm6]
    exact HLN6.out
  have hlB6 : some B6.BL ≠ (Value.slice Au6 m6 cq6).ownBlock := fun e => row_type hF6.tws.out ru6 (by decide) (g := B6.BL) rfl e.symm
  have hlf6 : some fp ≠ (Value.slice Au6 m6 cq6).ownBlock := fun e => row_cells ru6 hF6.blk (by decide) e.symm
  have HR6 : Hid (Fo wc base fp { F with tr := F.tr ++ [bl s], tw := pushT F.tw a (bl s, b) } B6 ∧ B6.tv[b]? = some (.slice Au6 m6 cq6) ∧ (({ F with tr := F.tr ++ [bl s], tw := pushT F.tw a (bl s, b) } : Fr_God).tw.getD b []).length = m6 ∧ Below base w wc ∧ Kq w wc) := ⟨hF6, hu6, hm6, HY.out.2⟩
  have ra6 : wc.drew.ownsRow base 247 2 (.slice Au6 m6 cq6) m6 ((({ F with tr := F.tr ++ [bl s], tw := pushT F.tw a (bl s, b) } : Fr_God).tw.getD b []).flatMap twE) := ru6
  obtain ⟨BL6, hBLe6⟩ : ∃ x, B6.BL = x := ⟨_, rfl⟩
  rw [hBLe6] at cc6 cu6 zu6 hBL6 hlB6
  have HBE6 : Hid (B6.BL = BL6) := hBLe6
  clear hF6 hu6 hn6 hm6 hBLe6 ru6 HY
  go_region_law
    (first
      | (refine step_append_lies _ (by rfl) _ _ 245 (by rfl) base 247 i1 _ 2 24 Tryz.underlying245 hi1 hx0 hx1 hx2 (by rfl) (by decide) _ _ _ (by rfl) (ra6.alloc _) ⟨wc.heap.size, 0, none⟩ 1 1 [.string s, .int .i64 (a : Int)] (by rfl) (by rfl) (World.news_of_block (fr := (0, 0)) (t := 247) (cs := #[.string s, .int .i64 (a : Int)]) (heap_alloc_new _ _)) (fun u hu => by simp at hu; rcases hu with rfl | rfl <;> rfl) (by decide) (by unfold maxLen; omega) (by omega) (by simp; omega) (wc.heap.size + 1) (by simp) ?_; intro g4 cp4 w4 hown4 hgrow4 hat4 hlt4; (have k4 : w4.cell? ⟨BL6, b, none⟩ = some (.slice Au6 m6 cq6) := hgrow4.cell ((World.cell?_alloc_lt wc _ ⟨BL6, b, none⟩ hBL6).trans cu6) hlB6); (have j4 : w4.cell? ⟨fp, 1, none⟩ = some (.slice (some ⟨BL6, 0, none⟩) n6 n6) := hgrow4.cell ((World.cell?_alloc_lt wc _ ⟨fp, 1, none⟩ hfx6).trans cc6) hlf6); (have f4 : w4.frozen? ⟨BL6, b, none⟩ = false := (hgrow4.frozen_far ⟨BL6, b, none⟩ (by simp; omega) hlB6).trans ((World.frozen?_alloc_old wc _ ⟨BL6, b, none⟩ (Nat.ne_of_lt hBL6)).trans zu6)))
      | (trace_state; fail))
  all_goals go_wp2_with fail
  all_goals go_end0
  all_goals refine ⟨rfl, ?_⟩
  all_goals exact tw_end HR6.out.1 HBE6.out HR6.out.2.1 HR6.out.2.2.1 HR6.out.2.2.2 hbx6 hown4 hgrow4 hat4

end Go.Proofs.YtmpkcioeodlbcaaGreatDoor
namespace Go.Proofs.YtmpkcioeodlbcaaGreatDoor
open Go.Maps Go.RowKit
set_option linter.unusedVariables false
set_option maxRecDepth 100000
/-- elements taken one by one -/
def growF (f : Nat) (want : Nat → Bool) (nodes : List Nm) : List Elm → Fr_God → Option Fr_God
  | [], F => some F
  | x :: t, F => if want x.k = true then match F.take f (bl x.n) (posL nodes (bl x.a)) (posL nodes (bl x.b)) with
    | none => none
    | some F' => growF f want nodes t F'
    else growF f want nodes t F
/-- a forest of nodes without elements -/
def Fr_God.new (nodes : List Nm) : Fr_God := ⟨nodes, List.replicate nodes.length [], [], []⟩
/-- how great a forest is behind i elements -/
structure Fr_God.fit (F : Fr_God) (n i : Nat) : Prop where
  n : F.tw.length = n
  t : ∀ ts ∈ F.tw, ts.length ≤ 2 * i
  r : F.tr.length ≤ i
  l : F.lp.length ≤ i
theorem Fr_God.fit.new (nodes : List Nm) : (Fr_God.new nodes).fit nodes.length 0 :=
  ⟨by simp [Fr_God.new], fun ts h => by simp [Fr_God.new] at h; rw [h.2]; simp, Nat.le_refl _, Nat.le_refl _⟩
theorem Fr_God.fit.ok {F : Fr_God} {n i : Nat} (h : F.fit n i) (hn : n ≤ 10000) (hi : i ≤ 10000) : F.ok := ⟨by have := h.n; omega, fun ts q => by have := h.t ts q; omega, by have := h.r; omega, by have := h.l; omega⟩
theorem push_fit {tw : List (List Tw)} {a : Nat} {t : Tw} {m : Nat} (h : ∀ ts ∈ tw, ts.length ≤ m) : ∀ ts ∈ pushT tw a t, ts.length ≤ m + 1 := by
  intro ts hts
  unfold pushT at hts
  rcases List.mem_or_eq_of_mem_set hts with q | q
  · have := h ts q; omega
  · rw [q, List.length_append]
    by_cases ha : a < tw.length
    · rw [List.getD_eq_getElem?_getD, List.getElem?_eq_getElem ha]
      have := h _ (List.getElem_mem ha)
      simp; omega
    · rw [List.getD_eq_getElem?_getD, List.getElem?_eq_none (by omega)]; simp
theorem Fr_God.fit.take {F F' : Fr_God} {n i f : Nat} {nm : Nm} {a b : Nat} (h : F.fit n i) (ht : F.take f nm a b = some F') : F'.fit n (i + 1) := by
  unfold Fr_God.take at ht
  have hr := h.r
  have hl := h.l
  split at ht
  · cases ht
  · cases ht
    exact ⟨h.n, fun ts q => by have := h.t ts q; omega, by show F.tr.length ≤ _; omega, by show (F.lp ++ _).length ≤ _; simp; omega⟩
  · cases ht
    refine ⟨by show (pushT (pushT F.tw a _) b _).length = n; unfold pushT; simp [h.n], fun ts q => ?_, by show (F.tr ++ _).length ≤ _; simp; omega, by show F.lp.length ≤ _; omega⟩
    have := push_fit (push_fit h.t) ts q
    omega
theorem Fr_God.fit.mono {F : Fr_God} {n i j : Nat} (h : F.fit n i) (hij : i ≤ j) : F.fit n j := ⟨h.n, fun ts q => by have := h.t ts q; omega, by have := h.r; omega, by have := h.l; omega⟩
def EntG (F : FuncId) : Prop := ∀ (args : Array Value) (w : World), (callFunc F args).run Tryz.prog w = .ok (.enter F args) w
theorem pos_lt {xs : List Nm} {s : Nm} (h : s ∈ xs) : posL xs s < xs.length := by unfold posL; rw [if_pos h]; exact List.idxOf_lt_length_of_mem h
theorem pos_ne {xs : List Nm} {s t : Nm} (h : s ∈ xs) (h2 : t ∈ xs) (hne : s ≠ t) : posL xs s ≠ posL xs t := by
  unfold posL
  rw [if_pos h, if_pos h2]
  intro e
  have h3 := List.getElem_idxOf (List.idxOf_lt_length_of_mem h)
  have h4 := List.getElem_idxOf (List.idxOf_lt_length_of_mem h2)
  apply hne
  rw [← h3, ← h4]
  simp only [e]
/-- what is asked of the elements that are taken -/
structure ElN (nodes : List Nm) (x : Elm) : Prop where
  a : bl x.a ∈ nodes
  b : bl x.b ∈ nodes
  ne : bl x.a ≠ bl x.b
  sn : x.n.size ≤ 100000
  sa : x.a.size ≤ 100000
  sb : x.b.size ≤ 100000
theorem mkmap (h : Int) (w : World) : (Instr.makeMap 62 (some (.int .i64 h))).run Tryz.prog w = .ok (.map (some w.heap.size)) (w.alloc (.map #[] 0)) := by
  have hu := run_underlying Tryz.underlying62
  unfold Instr.makeMap
  simp [hu, go_sem]
/-- while the places are laid: nodes in a row, k of them in the map -/
structure Gp (w wr : World) (qA MB k : Nat) (v : Value) (nodes : List Nm) : Prop where
  row : wr.ownsRow qA 9 1 v nodes.length (nodes.map sv)
  mp : Mp wr MB (nodes.take k)
  lo : qA ≤ MB
  bel : Below qA w wr
theorem Gp.step {w wr w' : World} {qA MB k : Nat} {v : Value} {nodes : List Nm} (h : Gp w wr qA MB k v nodes) (hm : Mp w' MB (nodes.take (k + 1))) (hg : wr.grownBy w' (some MB)) (hq : qA ≤ wr.heap.size) : Gp w w' qA MB (k + 1) v nodes :=
  ⟨row_block h.row fun g hg2 => hg.block g (row_ge h.row hg2).2 (fun e => h.mp.row h.row (by rw [hg2, e])), hm, h.lo, h.bel.trans ⟨hg.os, hg.tape, hg.output, hg.size, fun j hj => hg.block j (by omega) (fun e => by have := h.lo; cases e; omega)⟩⟩
theorem made_rep_Goh (z : Value) (n : Nat) : (madeCells #[z] n).toList = List.replicate n z := by
  apply List.ext_getElem?
  intro i
  simp only [madeCells]
  by_cases h : i < n
  · simp [h, Nat.mod_one]
  · simp [h]
theorem Tryz.infoTS : (Tryz.prog.info? 245).map (fun i => (i.zero, i.size, i.bytes)) = some (some (.slice none 0 0), 1, 24) := by kernel_rfl
/-- a forest begins -/
theorem Fo.start {w w5 : World} {base BL m : Nat} {v : Value} {nodes : List Nm} (hn : nodes.length = m) (hr : w.ownsRow base 9 1 v nodes.length (nodes.map sv)) (ho : w5.ownsRow base 245 1 (.slice (some ⟨BL, 0, none⟩) m m) m (List.replicate m (.slice none 0 0))) (hg : w.grownBy w5 none) (hb : base ≤ w.heap.size) :
    Fo (w5.alloc (.cells #[v, .slice (some ⟨BL, 0, none⟩) m m, .slice none 0 0, .slice none 0 0] 241)) base w5.heap.size (Fr_God.new nodes) ⟨v, BL, .slice none 0 0, .slice none 0 0, List.replicate m (.slice none 0 0), []⟩ := by
  have hl : (Fr_God.new nodes).tw.length = m := by simp [Fr_God.new, hn]
  have hs := hg.size
  refine ⟨?_, by omega, ?_, ?_, World.ownsRow_nil _ _ _ _, LL.nil _ _ (by decide) _ _, (fun g q => by cases q), (fun u q => by cases q)⟩
  · rw [hl]; exact heap_alloc_new _ _
  · exact (hr.kept hg (by cases q : v.ownBlock with | none => exact .inl rfl | some g => exact .inr (by simp))).alloc _
  · rw [hl]
    have hrep : ∀ (j : Nat) (u : Value), (List.replicate m (Value.slice none 0 0))[j]? = some u → u = .slice none 0 0 := fun j u h => (List.getElem?_replicate.symm.trans h |> fun q => by split at q; exact (Option.some.inj q).symm; cases q)
    refine ⟨by decide, by rw [List.length_replicate]; exact ho.alloc _, by rw [hl, List.length_replicate], fun j u l h1 h2 => ?_, fun i j u u' h1 h2 _ g q => ?_⟩
    · rw [hrep j u h1]
      have : l = [] := by
        have h3 : (List.replicate nodes.length ([] : List Tw))[j]? = some l := h2
        rw [List.getElem?_replicate] at h3
        split at h3
        · exact (Option.some.inj h3).symm
        · cases h3
      rw [this]; exact World.ownsRow_nil _ _ _ _
    · rw [hrep i u h1] at q; cases q
theorem take_any_Goh (w : World) (base fp a b f : Nat) (F F2 : Fr_God) (B : Fb) (s : ByteArray) (h : Fo w base fp F B) (hok : F.ok) (hf : f ≤ 10000) (ha : a < F.tw.length) (hb : b < F.tw.length) (hab : a ≠ b) (hr : F.take f (bl s) a b = some F2) (hs : s.size ≤ 100000) :
    Calls Tryz.prog 171 #[.pointer (some ⟨fp, 0, none⟩), .string s, .int .i64 (a : Int), .int .i64 (b : Int)] w fun e w' => e = .returned (.tuple #[]) ∧ (∃ B', Fo w' base fp F2 B') ∧ Below base w w' ∧ Kq w w' := by
  unfold Fr_God.take at hr
  cases q : skF F.tw b f a (-1) with
  | none => rw [q] at hr; cases hr
  | some o =>
    rw [q] at hr
    cases o with
    | none => cases hr; exact take_tree w base fp a b f F B s h hok hf ha hb q hs
    | some way => cases hr; exact take_loop w base fp a b f F B s way h hok hf hab q hs
theorem row_kq {w w' : World} {base : Nat} {v : Value} {n : Nat} {xs : List Value} (h : w.ownsRow base 96 8 v n xs) (hk : Kq w w') : w'.ownsRow base 96 8 v n xs := by
  obtain ⟨h0, h1 | ⟨g, cap, cur, h1, h2, h3, h4⟩⟩ := h
  · exact ⟨h0, .inl h1⟩
  · exact ⟨h0, .inr ⟨g, cap, cur, h1, h2, hk g _ h3 (.inr ⟨_, _, rfl⟩), h4⟩⟩
theorem Mp.kq {w w' : World} {B : Nat} {xs : List (List UInt8)} (h : Mp w B xs) (hk : Kq w w') : Mp w' B xs := by
  obtain ⟨D, ⟨es, clock, h1, h2⟩, h3⟩ := h
  exact ⟨D, ⟨es, clock, hk B _ h1 (.inl ⟨_, _, rfl⟩), h2⟩, h3⟩
/-- while elements are taken -/
structure Gi (w wr : World) (qA MB fp n i : Nat) (nodes : List Nm) (F : Fr_God) (B : Fb) : Prop where
  fo : Fo wr qA fp F B
  mp : Mp wr MB nodes
  bel : Below qA w wr
  fit : F.fit n i
theorem Gi.below {w wr w' : World} {qA MB fp n i : Nat} {nodes : List Nm} {F : Fr_God} {B : Fb} (h : Gi w wr qA MB fp n i nodes F B) (hb : Below wr.heap.size wr w') : Gi w w' qA MB fp n i nodes F B :=
  ⟨h.fo.below hb, h.mp.blk (hb.block MB h.mp.lt), h.bel.trans (hb.mono (by have := h.fo.lo; have := h.fo.lt; omega)), h.fit⟩
theorem e8_row {w : World} {base g cap n : Nat} {l : List Elm} (h : w.ownsRow base 96 8 (.slice (some ⟨g, 0, none⟩) n cap) n (elCs l)) {i : Nat} {x : Elm} (hx : l[i]? = some x) (hi : i < n) : E8 w g (i * 8) x := by
  have hc : ∀ c v, c < 8 → (elC x)[c]? = some v → w.cell? ⟨g, i * 8 + c, none⟩ = some v := fun c v h1 h2 => by rw [h.cellAt (i * 8 + c) (by omega), elCs_get hx h1]; exact h2
  exact ⟨hc 0 _ (by omega) rfl, hc 1 _ (by omega) rfl, hc 2 _ (by omega) rfl, hc 3 _ (by omega) rfl, hc 4 _ (by omega) rfl, hc 5 _ (by omega) rfl, hc 6 _ (by omega) rfl, hc 7 _ (by omega) rfl⟩
set_option maxHeartbeats 4000000 in
theorem grow_any (K : FuncId) (want : Nat → Bool) (hE : EntG K) (hK : ∀ (k : Nat) (W : World), Calls Tryz.prog K #[.int .u8 (k : Int)] W fun e w' => e = .returned (.bool (want k)) ∧ w' = W)
    (w : World) (b0 p f : Nat) (N : Ns) (b : Nb) (F' : Fr_God) (h : Nt w b0 p N b) (hnm : [] ∉ N.nm) (hnd : ([48] :: N.nd).Nodup) (hn1 : N.nd.length ≤ 1000) (hne : N.es.length ≤ 1000) (hel : ∀ x ∈ N.es, ElN ([48] :: N.nd) x) (hf : f ≤ 10000) (hg : growF f want ([48] :: N.nd) N.es (Fr_God.new ([48] :: N.nd)) = some F') (hs8 : ∀ s ∈ N.nd, s.length ≤ 100000) :
    Calls Tryz.prog 131 #[.pointer (some ⟨p, 0, none⟩), .func (.func K) #[] #[]] w fun e w' => ∃ fp B', e = .returned (.tuple #[.pointer (some ⟨fp, 0, none⟩), .bool true]) ∧ Fo w' w.heap.size fp F' B' ∧ Below w.heap.size w w' := by
  have hwo := without_no h hnm
  have HNT : Hid _ := h
  have HK : Hid (∀ (k : Nat) (W : World), Calls Tryz.prog K #[.int .u8 (k : Int)] W fun e w' => e = .returned (.bool (want k)) ∧ w' = W) := hK
  have HEL : Hid _ := hel
  have HG : Hid _ := hg
  have HND : Hid _ := hnd
  have HS8 : Hid (∀ s ∈ N.nd, s.length ≤ 100000) := hs8
  clear h hK hel hg hnd hs8
  unfold EntG at hE
  obtain ⟨i0, hi0, hy0, hy1, hy2⟩ := info_parts Tryz.infoS
  have hbp : b0 ≤ w.heap.size := HNT.out.hi
  obtain ⟨wA, hwA⟩ : ∃ wA, w.alloc (.cells #[.string ⟨#[48]⟩] 9) = wA := ⟨_, rfl⟩
  obtain ⟨qA, hqA⟩ : ∃ qA, w.heap.size = qA := ⟨_, rfl⟩
  have bA : Below qA w wA := by rw [← hwA]; exact (Below.refl _ _).alloc (by omega) _
  have sA : wA.heap.size = qA + 1 := by rw [← hwA, ← hqA]; simp
  have hnod := nodes_made (HNT.out.below (by rw [hqA]; exact bA)) (by omega)
  have HSA : Hid (wA.heap.size = qA + 1 ∧ Below qA w wA ∧ wA.heap[qA]? = some (.cells #[.string ⟨#[48]⟩] 9 (0, 0))) := ⟨sA, bA, by rw [← hwA, ← hqA]; exact heap_alloc_new _ _⟩
  clear bA sA
  have hmk := mkmap
  obtain ⟨n, hn⟩ : ∃ n, N.nd.length = n := ⟨_, rfl⟩
  rw [hn] at hnod
  have HN : Hid (N.nd.length = n) := hn
  have hn1' : n ≤ 1000 := by omega
  clear hn
  go_enter Tryz.func131, Tryz.ntmps131
  go_upto_region 4 with (first | (go_at_call 92; (with_reducible refine hwo.mono ?_); rintro e1 w1 ⟨rfl, hw1⟩; (have hw2 := hw1.symm); clear hw1; subst hw2))
  clear hmk
  go_cut [8] (fun v wc => ∃ g3 cp3, v = .slice (some ⟨g3, 0, none⟩) (1 + n) cp3 ∧ wc.ownsRow qA 9 1 (.slice (some ⟨g3, 0, none⟩) (1 + n) cp3) (1 + n) ([.string ⟨#[48]⟩] ++ N.nd.map sv) ∧ Below qA w wc ∧ qA + 1 ≤ wc.heap.size)
  case first =>
    go_wp2_with fail
    refine hnod.mono ?_
    rintro e2 w2 ⟨v2, rfl, ho2, hb2⟩
    have rowA : w2.ownsRow qA 9 1 (.slice (some ⟨qA, 0, none⟩) 1 1) 1 [.string ⟨#[48]⟩] := ⟨rfl, .inr ⟨qA, 1, #[.string ⟨#[48]⟩], rfl, Nat.le_refl _, by rw [hb2.block qA (by have := HSA.out.1; omega)]; exact HSA.out.2.2, by decide, by decide, rfl, rfl⟩⟩
    have hs2 : qA + 1 ≤ w2.heap.size := by have := hb2.size; have := HSA.out.1; omega
    have HB2 : Hid (Below qA w w2) := HSA.out.2.1.trans (hb2.mono (by have := HSA.out.1; omega))
    by_cases hn0 : n = 0
    · subst hn0
      have hnil : N.nd = [] := List.length_eq_zero_iff.1 HN.out
      obtain ⟨A2, c2, hv2⟩ : ∃ A cap, v2 = .slice A 0 cap := row_slice ho2
      subst hv2
      clear ho2 hb2 hwA
      cases A2 with
      | none =>
        go_wp2_with fail
        go_meet
        exact ⟨qA, 1, rfl, by rw [hnil]; exact rowA, HB2.out, hs2⟩
      | some A2 =>
        go_wp2_with fail
        go_meet
        exact ⟨qA, 1, rfl, by rw [hnil]; exact rowA, HB2.out, hs2⟩
    · have hn0 : 0 < n := by omega
      obtain ⟨gn, cn, rfl⟩ := row_some ho2 hn0
      have HcW : Hid (∀ j u, (N.nd.map sv)[j]? = some u → w2.cell? ((⟨gn, 0, none⟩ : Addr).add j) = some u) := fun j u hj => ho2.cells (g := gn) rfl j u hj
      have HML : Hid ((N.nd.map sv).length = n * 1 ∧ ∀ u ∈ N.nd.map sv, u.oneCell' = true) := ⟨by simp [HN.out], fun u hu => by obtain ⟨x, _, rfl⟩ := List.mem_map.1 hu; rfl⟩
      clear ho2 hb2 hwA
      go_wp2_with (at_builtin; refine wpList_append_lies _ (by rfl) _ _ 61 (by rfl) qA 9 i0 (.string ByteArray.empty) 1 16 Tryz.underlying61 hi0 hy0 hy1 hy2 (by rfl) (by decide) _ _ _ (by rfl) rowA ⟨gn, 0, none⟩ n cn (N.nd.map sv) (by rfl) HML.out.1 HcW.out HML.out.2 hn0 (by unfold maxLen; omega) (by omega) (by omega) w2.heap.size rfl ?_; intro g3 cp3 w3 hown3 hgrow3 hat3 hlt3)
      go_meet
      exact ⟨g3, cp3, rfl, hown3, HB2.out.trans ⟨hgrow3.os, hgrow3.tape, hgrow3.output, hgrow3.size, fun k hk => hgrow3.block k (by omega) (fun e => by have e2 : k = qA := Option.some.inj e; omega)⟩, by have := hgrow3.size; omega⟩
  obtain ⟨g3, cp3, hv3, hown3, HB3a, hs3⟩ := hcut
  obtain ⟨w3, hw3⟩ : ∃ w3, wc = w3 := ⟨_, rfl⟩
  subst hw3
  have HB3 : Hid (Below qA w wc) := HB3a
  subst hv3
  have hmk := mkmap
  clear hwo hnod hwA HB3a
  obtain ⟨m, hm⟩ : ∃ m, 1 + n = m := ⟨_, rfl⟩
  have hmi : (1 : Int) + (n : Int) = (m : Int) := by omega
  have hm1 : m ≤ 1001 := by omega
  go_wp2_with fail
  have HNN : Hid (([48] :: N.nd).length = n + 1) := by show N.nd.length + 1 = n + 1; rw [HN.out]
  obtain ⟨nodes, hnodes⟩ : ∃ nodes, [48] :: N.nd = nodes := ⟨_, rfl⟩
  have hown4 : wc.ownsRow qA 9 1 (.slice (some ⟨g3, 0, none⟩) (1 + n) cp3) (1 + n) (nodes.map sv) := by rw [← hnodes]; exact hown3
  rw [hnodes] at HNN HND HEL HG
  have HS9 : Hid (∀ s ∈ nodes, s.length ≤ 100000) := by
    rw [← hnodes]
    intro s hs
    rcases List.mem_cons.1 hs with rfl | q
    · decide
    · exact HS8.out s q
  rw [hm] at hown4
  have HM : Hid (nodes.length = m ∧ m ≤ 1001 ∧ 0 < m) := ⟨by rw [HNN.out]; omega, by omega, by omega⟩
  obtain ⟨w4, hw4⟩ : ∃ w4, wc.alloc (.map #[] 0) = w4 := ⟨_, rfl⟩
  obtain ⟨MB, hMB⟩ : ∃ MB, wc.heap.size = MB := ⟨_, rfl⟩
  have G0 : Hid (Gp w w4 qA MB 0 (.slice (some ⟨g3, 0, none⟩) m cp3) nodes ∧ qA ≤ w4.heap.size) := by
    rw [← hw4, ← hMB]
    refine ⟨⟨by rw [HM.out.1]; exact hown4.alloc _, ⟨_, World.ownsMap_made wc Tryz.prog 9 (plainElem Tryz.prog 3), MdOk.empty⟩, by omega, HB3.out.alloc (by omega) _⟩, by simp; omega⟩
  clear hown3 hown4 hnodes hi0 hy0 hy1 hy2 HNN hs3
  rw [hw4, hMB]
  try rw [hm]
  clear hmk hw4 hMB hmi hm
  go_loopw [31] (fun iv wr => ∃ (k : Nat), k ≤ m ∧ iv = .int .i64 k ∧ Hid (Gp w wr qA MB k (.slice (some ⟨g3, 0, none⟩) m cp3) nodes ∧ qA ≤ wr.heap.size)) (fun iv _ => m - (intOf iv).toNat)
  case atStart => exact ⟨0, Nat.zero_le _, rfl, G0⟩
  case round =>
    obtain ⟨k, hle, rfl, HGp⟩ := hrel
    clear G0
    by_cases hp4 : k < m
    · have hpk : (k : Int) < (m : Int) := by omega
      obtain ⟨x, hx⟩ : ∃ x, nodes[k]? = some x := ⟨_, List.getElem?_eq_getElem (by have := HM.out.1; omega)⟩
      have hxc : wr.cell? ⟨g3, k, none⟩ = some (.string ⟨x.toArray⟩) := by
        have h1 := HGp.out.1.row
        rw [HM.out.1] at h1
        rw [h1.cellAt k (by omega), List.getElem?_map, hx]; rfl
      obtain ⟨D, hown, hD⟩ := HGp.out.1.mp
      have hkey := key_s x (HS9.out x (List.mem_of_getElem? hx))
      have htl : (nodes.take k).length = k := by rw [List.length_take, HM.out.1]; omega
      rw [htl] at hown
      have hnx : x ∉ nodes.take k := by
        intro hmem
        obtain ⟨j, hj⟩ := List.mem_iff_getElem?.1 hmem
        have hjk : j < k := by have := (List.getElem?_eq_some_iff.1 hj).1; rw [htl] at this; exact this
        rw [List.getElem?_take, if_pos hjk] at hj
        have h1 := (List.getElem?_eq_some_iff.1 hj)
        have h2 := (List.getElem?_eq_some_iff.1 hx)
        have h3 := (List.pairwise_iff_getElem.1 HND.out) j k h1.1 h2.1 hjk
        exact h3 (by rw [h1.2, h2.2])
      have HD : Hid (MdOk (D.put (kyS x) (.lit (.int .i64 k))) (nodes.take (k + 1))) := by
        have h1 := hD.push hnx
        rw [htl] at h1
        rw [List.take_add_one, hx]; exact h1
      clear hnx hx
      go_wp2_with (at_mapUpdate; refine wpList_mapUpdate_own _ rfl _ _ _ 62 rfl 9 3 lawS Tryz.underlying62 (plainElem Tryz.prog 3) MB k D rfl hown (by unfold maxLen; omega) _ _ _ rfl rfl hkey _ _ (plainElem_int (H := Unit) Tryz.underlying3 (a := (k : Int)) (WalkArith.wf_i64 (by omega))) ?_; intro w5 ho5 hg5)
      go_roundw
      case rel => exact ⟨k + 1, by omega, by go_num, HGp.out.1.step ⟨_, by rw [List.length_take, HM.out.1, Nat.min_eq_left (by omega)]; exact ho5, HD.out⟩ hg5 HGp.out.2, by have := hg5.size; have := HGp.out.2; omega⟩
      case measure => simp [intOf]; omega
    · have hkm : k = m := by omega
      subst hkm
      have hkk : ¬ ((k : Int) < (k : Int)) := by omega
      have HGQ : Hid (Gp w wr qA MB k (.slice (some ⟨g3, 0, none⟩) k cp3) nodes ∧ qA ≤ wr.heap.size) := HGp.out
      clear HGp
      obtain ⟨j0, hj0, hx0, hx1, hx2⟩ := info_parts Tryz.infoTS
      go_wp2_with (at_make; (refine wpList_make_full _ rfl _ _ 238 rfl qA 245 j0 (.slice none 0 0) 1 Tryz.underlying238 hj0 hx0 hx1 _ _ _ _ k rfl rfl rfl rfl (by rw [hx2]; omega) (by unfold maxLen; omega) HGQ.out.2 ?_); intro w5 hown5 hgrow5)
      rw [show (madeCells (Value.slice none 0 0).cells (k * 1)).toList = List.replicate k (.slice none 0 0) from by rw [Nat.mul_one]; exact made_rep_Goh _ _] at hown5
      have hF6 := Fo.start HM.out.1 HGQ.out.1.row hown5 hgrow5 HGQ.out.2
      have hM5 : Mp w5 MB nodes := by
        have h1 := HGQ.out.1.mp
        rw [← HM.out.1, List.take_length] at h1
        exact h1.blk (hgrow5.block MB h1.lt (by simp))
      obtain ⟨w6, hw6⟩ : ∃ w6, w5.alloc (.cells #[.slice (some ⟨g3, 0, none⟩) k cp3, .slice (some ⟨wr.heap.size, 0, none⟩) k k, .slice none 0 0, .slice none 0 0] 241) = w6 := ⟨_, rfl⟩
      obtain ⟨fp, hfp⟩ : ∃ fp, w5.heap.size = fp := ⟨_, rfl⟩
      rw [hw6, hfp] at hF6
      have hb5 : Below qA w w5 := HGQ.out.1.bel.trans ⟨hgrow5.os, hgrow5.tape, hgrow5.output, hgrow5.size, fun j hj => hgrow5.block j (by have := HGQ.out.2; omega) (by simp)⟩
      have hb6 : Below qA w w6 := by rw [← hw6]; exact hb5.alloc (by have := HGQ.out.2; have := hgrow5.size; omega) _
      have hM6 : Mp w6 MB nodes := hM5.blk (by rw [← hw6, Below.heap_alloc _ _ _ hM5.lt])
      have hels := elements_made (HNT.out.below (by rw [hqA]; exact hb6)) (by omega)
      have HI : Hid (Gi w w6 qA MB fp k 0 nodes (Fr_God.new nodes) _) := ⟨hF6, hM6, hb6, by have := Fr_God.fit.new nodes; rw [HM.out.1] at this; exact this⟩
      clear hown5 hgrow5 hF6 hM5 hb5 hb6 hM6 HGQ hj0 hx0 hx1 hx2 hle hp4
      go_wp2_with fail
      rw [hw6, hfp]
      refine hels.mono ?_
      rintro e7 w7 ⟨ve, rfl, ho7, hb7⟩
      have HI7 : Hid _ := HI.out.below hb7
      obtain ⟨Ae, ce, rfl⟩ := row_slice ho7
      obtain ⟨ne, hne2⟩ : ∃ ne, N.es.length = ne := ⟨_, rfl⟩
      obtain ⟨es, hes⟩ : ∃ es, N.es = es := ⟨_, rfl⟩
      obtain ⟨b6, hb6⟩ : ∃ b6, w6.heap.size = b6 := ⟨_, rfl⟩
      rw [hes, hb6] at ho7
      rw [hes] at HG HEL
      have hne3 : es.length = ne := by rw [← hes]; exact hne2
      rw [hne3] at ho7
      rw [hne2] at hne ⊢
      have HR7 : Hid (w7.ownsRow b6 96 8 (.slice Ae ne ce) ne (elCs es)) := ho7
      have HNE : Hid (es.length = ne) := hne3
      clear ho7 hb7 hels HI hes hne2 hne3 hw6 hfp hb6 hkk
      go_wp2_with fail
      go_loopw [49] (fun iv wr => ∃ (i : Nat) (F : Fr_God) (B : Fb), i ≤ ne ∧ iv = .int .i64 i ∧ Hid (Gi w wr qA MB fp k i nodes F B) ∧ Hid (wr.ownsRow b6 96 8 (.slice Ae ne ce) ne (elCs es)) ∧ Hid (growF f want nodes (es.drop i) F = some F')) (fun iv _ => ne - (intOf iv).toNat)
      case atStart => exact ⟨0, _, _, Nat.zero_le _, rfl, HI7, HR7, HG.out⟩
      case round =>
        obtain ⟨i, F, B, hle, rfl, HI, HR, HW⟩ := hrel
        clear HI7 HR7 HG
        by_cases hp4 : i < ne
        · have hpi : (i : Int) < (ne : Int) := by omega
          obtain ⟨x, hx⟩ : ∃ x, es[i]? = some x := ⟨_, List.getElem?_eq_getElem (by have := HNE.out; omega)⟩
          obtain ⟨ge, ce2, hve⟩ := row_some HR.out (by omega)
          rw [hve] at HR ⊢
          obtain ⟨c0, c1, c2, c3, c4, c5, c6, c7⟩ := e8_row HR.out hx hp4
          have HX : Hid (ElN nodes x) := HEL.out x (List.mem_of_getElem? hx)
          have hdr : es.drop i = x :: es.drop (i + 1) := (List.drop_eq_getElem_cons (by have := HNE.out; omega)).trans (by rw [(List.getElem?_eq_some_iff.1 hx).2])
          have hW := HW.out
          rw [hdr] at hW
          obtain ⟨we, hwe⟩ : ∃ we, wr.alloc (.cells #[.int .u8 (x.k : Int), .string x.n, .string x.a, .string x.b, .string x.c, .string x.d, .float .f64 x.v, .int .i64 x.ph] 96) = we := ⟨_, rfl⟩
          obtain ⟨q, hq⟩ : ∃ q, wr.heap.size = q := ⟨_, rfl⟩
          have BE : Below wr.heap.size wr we := by rw [← hwe]; exact (Below.refl _ _).alloc (Nat.le_refl _) _
          have HIE : Hid (Gi w we qA MB fp k i nodes F B ∧ we.ownsRow b6 96 8 (.slice Ae ne ce) ne (elCs es)) := ⟨HI.out.below BE, by rw [hve]; exact row_block HR.out fun g hg => BE.block g (row_ge HR.out hg).2⟩
          have hqe : we.heap[q]? = some (.cells (elA x) 96 (0, 0)) := by rw [← hwe, ← hq]; exact heap_alloc_new _ _
          obtain ⟨⟨d0, d1, d2, d3, d4, d5, d6, d7⟩, _⟩ := eight hqe
          have HVE : Hid (.slice Ae ne ce = (.slice (some ⟨ge, 0, none⟩) ne ce2 : Value)) := hve
          clear BE HI HR HW hdr hve hqe hx
          go_wp2_with fail
          refine (HK.out x.k we).mono ?_
          rintro e8 w8 ⟨rfl, hw8⟩
          have hw9 := hw8.symm
          clear hw8
          subst hw9
          clear hwe hq c0 c1 c2 c3 c4 c5 c6 c7
          cases hwt : want x.k with
          | false =>
            rw [growF, if_neg (by rw [hwt]; decide)] at hW
            have HW2 : Hid (growF f want nodes (es.drop (i + 1)) F = some F') := hW
            clear hW
            go_wp2_with fail
            go_roundw
            case rel => exact ⟨i + 1, F, B, by omega, by go_num, ⟨HIE.out.1.fo, HIE.out.1.mp, HIE.out.1.bel, HIE.out.1.fit.mono (by omega)⟩, by have := HIE.out.2; rw [HVE.out] at this; exact this, HW2.out⟩
            case measure => simp [intOf]; omega
          | true =>
            rw [growF, if_pos hwt] at hW
            cases htk : F.take f (bl x.n) (posL nodes (bl x.a)) (posL nodes (bl x.b)) with
            | none => rw [htk] at hW; cases hW
            | some F2 =>
              rw [htk] at hW
              have HW2 : Hid (growF f want nodes (es.drop (i + 1)) F2 = some F') := hW
              have hla := pos_lt HX.out.a
              have hlb := pos_lt HX.out.b
              have hab := pos_ne HX.out.a HX.out.b HX.out.ne
              have hnk := HIE.out.1.fit.n
              rw [HM.out.1] at hla hlb
              have htake := take_any_Goh we qA fp (posL nodes (bl x.a)) (posL nodes (bl x.b)) f F F2 B x.n HIE.out.1.fo (HIE.out.1.fit.ok (by omega) (by omega)) hf (by omega) (by omega) hab htk HX.out.sn
              have HFT : Hid (F2.fit k (i + 1)) := HIE.out.1.fit.take htk
              obtain ⟨D, hown, hD⟩ := HIE.out.1.mp
              have hkA : keyOf Tryz.prog 9 (.string x.a) = some (kyS (bl x.a)) := key_s (bl x.a) HX.out.sa
              have hkB : keyOf Tryz.prog 9 (.string x.b) = some (kyS (bl x.b)) := key_s (bl x.b) HX.out.sb
              have HDA : Hid (∀ c, D.atKey (kyS (bl x.a)) (.lit (.int .i64 0)) = .lit (.int .i64 c) → c = ((posL nodes (bl x.a) : Nat) : Int)) := fun c hc => by rw [hD.ak] at hc; exact (Lit.int.inj (DataW.lit.inj hc)).2.symm
              have HDB : Hid (∀ c, D.atKey (kyS (bl x.b)) (.lit (.int .i64 0)) = .lit (.int .i64 c) → c = ((posL nodes (bl x.b) : Nat) : Int)) := fun c hc => by rw [hD.ak] at hc; exact (Lit.int.inj (DataW.lit.inj hc)).2.symm
              clear hW htk hla hlb hab hnk hD
              go_wp2_with (first
                | (at_lookup; refine wpList_lookup_own_int _ rfl _ _ 62 rfl 9 3 .i64 lawS Tryz.underlying62 Tryz.underlying3 (zeroI _) MB nodes.length D rfl hown (.string x.a) _ rfl hkA ?_; intro cA hatA hwA; (have eA := HDA.out cA hatA); clear hatA hwA; subst eA)
                | (at_lookup; refine wpList_lookup_own_int _ rfl _ _ 62 rfl 9 3 .i64 lawS Tryz.underlying62 Tryz.underlying3 (zeroI _) MB nodes.length D rfl hown (.string x.b) _ rfl hkB ?_; intro cB hatB hwB; (have eB := HDB.out cB hatB); clear hatB hwB; subst eB)
                | (go_at_call 171; (with_reducible refine htake.mono ?_); rintro e9 w9 ⟨rfl, ⟨B9, hF9⟩, hb9, hk9⟩))
              go_roundw
              case rel => exact ⟨i + 1, F2, B9, by omega, by go_num, ⟨hF9, HIE.out.1.mp.kq hk9, HIE.out.1.bel.trans hb9, HFT.out⟩, row_kq (by have := HIE.out.2; rw [HVE.out] at this; exact this) hk9, HW2.out⟩
              case measure => simp [intOf]; omega
        · have hin : i = ne := by omega
          subst hin
          have hii : ¬ ((i : Int) < (i : Int)) := by omega
          have hFF : F = F' := by
            have := HW.out
            rw [List.drop_eq_nil_of_le (by have := HNE.out; omega)] at this
            exact Option.some.inj this
          subst hFF
          clear HW HR
          go_wp2_with fail
          go_ret2
          exact ⟨fp, rfl, ⟨B, HI.out.fo⟩, HI.out.bel⟩

end Go.Proofs.YtmpkcioeodlbcaaGreatDoor
namespace Go.Proofs.YtmpkcioeodlbcaaGreatDoor
open Go.Maps Go.RowKit
set_option linter.unusedVariables false
set_option maxRecDepth 100000
def wJ (k : Nat) : Bool := k == 1 || k == 2 || k == 3 || k == 5 || k == 7 || k == 8
theorem retB {a b : Bool} (h : a = b) : Ending.returned (.bool a) = .returned (.bool b) := by rw [h]
theorem joins_any (k : Nat) (W : World) : Calls Tryz.prog 132 #[.int .u8 (k : Int)] W fun e w' => e = .returned (.bool (wJ k)) ∧ w' = W := by
  go_enter Tryz.func132, Tryz.ntmps132
  go_wp2_with fail
  all_goals go_ret
  all_goals refine ⟨retB ?_, rfl⟩
  all_goals (unfold wJ; simp_all; try omega)
theorem ent_joins : EntG 132 := fun _ _ => by go_simp
/-- what is asked of a net that graph looks at; F: the forest of the elements that are wanted -/
structure Gn (w : World) (p f : Nat) (N : Ns) (want : Nat → Bool) (F : Fr_God) : Prop where
  nt : ∃ b0 b, Nt w b0 p N b
  nm : [] ∉ N.nm
  nd : ([48] :: N.nd).Nodup
  n1 : N.nd.length ≤ 1000
  ne : N.es.length ≤ 1000
  el : ∀ x ∈ N.es, ElN ([48] :: N.nd) x
  fu : f ≤ 10000
  g : growF f want ([48] :: N.nd) N.es (Fr_God.new ([48] :: N.nd)) = some F
  s : ∀ s ∈ N.nd, s.length ≤ 100000
theorem growF_fit {f : Nat} {want : Nat → Bool} {nodes : List Nm} {n : Nat} : ∀ {es : List Elm} {F F' : Fr_God} {i : Nat}, F.fit n i → growF f want nodes es F = some F' → F'.fit n (i + es.length) := by
  intro es
  induction es with
  | nil => intro F F' i h hg; cases hg; exact h
  | cons x t ih =>
    intro F F' i h hg
    rw [growF] at hg
    split at hg
    · cases q : F.take f (bl x.n) (posL nodes (bl x.a)) (posL nodes (bl x.b)) with
      | none => rw [q] at hg; cases hg
      | some F2 =>
        rw [q] at hg
        have := ih (h.take q) hg
        rw [List.length_cons, show i + (t.length + 1) = i + 1 + t.length by omega]; exact this
    · have := ih (h.mono (show i ≤ i + 1 by omega)) hg
      rw [List.length_cons, show i + (t.length + 1) = i + 1 + t.length by omega]; exact this
theorem Gn.fit {w : World} {p f : Nat} {N : Ns} {want : Nat → Bool} {F : Fr_God} (h : Gn w p f N want F) : F.fit (N.nd.length + 1) N.es.length := by
  have := growF_fit (Fr_God.fit.new ([48] :: N.nd)) h.g
  rw [Nat.zero_add] at this; exact this
theorem Gn.below {w w' : World} {p f : Nat} {N : Ns} {want : Nat → Bool} {F : Fr_God} (h : Gn w p f N want F) (hb : Below w.heap.size w w') : Gn w' p f N want F := by
  obtain ⟨b0, b, h1⟩ := h.nt
  exact ⟨⟨b0, b, h1.below hb⟩, h.nm, h.nd, h.n1, h.ne, h.el, h.fu, h.g, h.s⟩
theorem grow_j {w : World} {p f : Nat} {N : Ns} {F : Fr_God} (h : Gn w p f N wJ F) : Calls Tryz.prog 131 #[.pointer (some ⟨p, 0, none⟩), .func (.func 132) #[] #[]] w fun e w' => ∃ fp B', e = .returned (.tuple #[.pointer (some ⟨fp, 0, none⟩), .bool true]) ∧ Fo w' w.heap.size fp F B' ∧ Below w.heap.size w w' := by
  obtain ⟨b0, b, hN⟩ := h.nt
  exact grow_any _ _ ent_joins joins_any w b0 p f N b F hN h.nm h.nd h.n1 h.ne h.el h.fu h.g h.s
end Go.Proofs.YtmpkcioeodlbcaaGreatDoor
namespace Go.Proofs.YtmpkcioeodlbcaaGreatDoor
open Go.Maps Go.RowKit
set_option linter.unusedVariables false
set_option maxRecDepth 100000
theorem maskG (a : Nat) (ha : a < 18446744073709551616) : bits .and .u64 (a : Int) 4294967295 = ((a % 4294967296 : Nat) : Int) := by
  have h := bits_and_u64_nat a 4294967295 ha (by omega)
  have e : a &&& 4294967295 = a % 4294967296 := Nat.and_two_pow_sub_one_eq_mod a 32
  rw [e] at h
  exact h
theorem mul64_one (n : Nat) (hn : n ≤ 100000) (W : World) : Calls Tryz.prog 230 #[.int .u64 1, .int .u64 (n : Int)] W fun e w' => e = .returned (.tuple #[.int .u64 0, .int .u64 (n : Int)]) ∧ w' = W := by
  have h1 : bits BinOp.and IntKind.u64 1 4294967295 = 1 := by decide +kernel
  have h0 : bits BinOp.and IntKind.u64 0 4294967295 = 0 := by decide +kernel
  have h2 : bits BinOp.and IntKind.u64 (n : Int) 4294967295 = (n : Int) := by rw [maskG n (by omega), Nat.mod_eq_of_lt (by omega)]
  have h3 : (n : Int) / 4294967296 = 0 := by omega
  have w0 : IntKind.u64.wrap 0 = 0 := by decide +kernel
  have w1 : IntKind.u64.wrap (n : Int) = (n : Int) := by rw [IntKind.wrap_u64]; omega
  go_enter Tryz.func230, Tryz.ntmps230
  go_wp2_with fail
  go_ret2
  exact ⟨rfl, rfl⟩
theorem mul_oneN (n : Nat) (hn : n ≤ 100000) (W : World) : Calls Tryz.prog 206 #[.int .u64 1, .int .u64 (n : Int)] W fun e w' => e = .returned (.tuple #[.int .u64 0, .int .u64 (n : Int)]) ∧ w' = W := by
  have hm := mul64_one n hn
  go_enter Tryz.func206, Tryz.ntmps206
  go_wp2_with (go_at_call 230; (with_reducible refine (hm _).mono ?_); rintro e1 w1 ⟨rfl, rfl⟩)
  go_ret2
  exact ⟨rfl, rfl⟩
/-- a block of whole numbers -/
def Ib (w : World) (G : Nat) (st : List Int) : Prop := w.heap[G]? = some (.cells (st.map (Value.int .i64)).toArray 3 (0, 0))
theorem Tryz.infoIg : (Tryz.prog.info? 3).map (fun i => (i.zero, i.size, i.bytes)) = some (some (.int .i64 0), 1, 8) := by kernel_rfl
theorem Tryz.infoIh : (Tryz.prog.info? 3).map (·.size) = some 1 := by kernel_rfl
/-- m times -1, then noughts -/
def rpM (n m : Nat) : List Value := (List.replicate m (-1) ++ List.replicate (n - m) 0).map (Value.int .i64)
theorem rpM_len {n m : Nat} (h : m ≤ n) : (rpM n m).length = n := by simp [rpM]; omega
theorem rpM_get {n m : Nat} (h : m ≤ n) (i : Nat) : (rpM n m)[i]? = if i < n then some (.int .i64 (if i < m then -1 else 0)) else none := by
  unfold rpM
  rw [List.getElem?_map]
  by_cases h1 : i < m
  · rw [List.getElem?_append_left (by simp; omega), List.getElem?_replicate, if_pos h1, if_pos (by omega), if_pos h1]; rfl
  · rw [List.getElem?_append_right (by simp; omega), List.getElem?_replicate, List.length_replicate]
    by_cases h2 : i < n
    · rw [if_pos (by omega), if_pos h2, if_neg h1]; rfl
    · rw [if_neg (by omega), if_neg h2]; rfl
theorem rpM_splice {n m c : Nat} (h : m + c ≤ n) : splice (rpM n m) m (List.replicate c (.int .i64 (-1))) = rpM n (m + c) := by
  apply List.ext_getElem?
  intro i
  rw [rpM_get h]
  unfold splice
  rw [List.length_replicate]
  have hl := rpM_len (show m ≤ n by omega)
  by_cases h1 : i < m
  · rw [List.getElem?_append_left (by rw [List.length_take, hl]; omega), List.getElem?_take, if_pos h1, rpM_get (by omega), if_pos (by omega), if_pos h1, if_pos (by omega), if_pos (by omega)]
  · rw [List.getElem?_append_right (by rw [List.length_take, hl]; omega), List.length_take, hl, Nat.min_eq_left (by omega)]
    by_cases h2 : i < m + c
    · rw [List.getElem?_append_left (by rw [List.length_replicate]; omega), List.getElem?_replicate, if_pos (by omega), if_pos (by omega), if_pos h2]
    · rw [List.getElem?_append_right (by rw [List.length_replicate]; omega), List.getElem?_drop, List.length_replicate, show m + c + (i - m - c) = i by omega, rpM_get (by omega)]
      by_cases h3 : i < n
      · rw [if_pos h3, if_neg h1, if_pos h3, if_neg h2]
      · rw [if_neg h3, if_neg h3]
theorem made_blk {w : World} {base g n : Nat} {e : TypeId} {xs : List Value} (h : w.ownsRow base e 1 (.slice (some ⟨g, 0, none⟩) n n) n xs) : w.heap[g]? = some (.cells xs.toArray e (0, 0)) := by
  obtain ⟨h0, ⟨q, _⟩ | ⟨g2, cap, cur, q, _, h3, _, _, h5, h6⟩⟩ := h
  · cases q
  · cases q
    have e1 : cur.toList = xs := by
      rw [← h6]
      exact (List.take_of_length_le (by rw [Array.length_toList, h5]; omega)).symm
    rw [h3, ← e1]
theorem one_rep (c : Nat) : ∀ v ∈ List.replicate c (Value.int .i64 (-1)), v.oneCell' = true := fun v hv => by rw [List.eq_of_mem_replicate hv]; rfl
theorem mdz (n : Nat) : (madeCells (Value.int .i64 0).cells (n * 1)).toList = rpM n 0 := by
  rw [Nat.mul_one]
  show (madeCells #[Value.int .i64 0] n).toList = _
  rw [made_rep_Goh]; simp [rpM]
theorem one_src {w : World} {b : Nat} {x : Value} (h : w.cell? ⟨b, 0, none⟩ = some x) {j : Nat} {v : Value} (hj : (List.replicate 1 x)[j]? = some v) : w.cell? ((⟨b, 0, none⟩ : Addr).add j) = some v := by
  match j, hj with
  | 0, hj => cases hj; exact h
  | j + 1, hj => simp at hj
set_option maxHeartbeats 4000000 in
theorem repeat_any (w : World) (b n : Nat) (hn0 : 0 < n) (hn : n ≤ 100000) (hx : w.cell? ⟨b, 0, none⟩ = some (.int .i64 (-1))) :
    Calls Tryz.prog 172 #[.slice (some ⟨b, 0, none⟩) 1 1, .int .i64 (n : Int)] w fun e w' => ∃ G, e = .returned (.slice (some ⟨G, 0, none⟩) n n) ∧ Ib w' G (List.replicate n (-1)) ∧ w.heap.size ≤ G ∧ Below w.heap.size w w' := by
  have hm := mul_oneN n hn
  have hni : ¬ (n : Int) < 0 := by omega
  have hc1 : IntKind.u64.wrap 1 = 1 := by decide +kernel
  have hc2 : IntKind.u64.wrap (n : Int) = (n : Int) := by rw [IntKind.wrap_u64]; omega
  have hc3 : IntKind.i64.wrap (n : Int) = (n : Int) := by rw [IntKind.wrap_i64]; omega
  have hbig : ¬ (9223372036854775807 : Int) < (n : Int) := by omega
  obtain ⟨i0, hi, hz0, hz1, hz2⟩ := info_parts Tryz.infoIg
  have HX : Hid (∀ W, Below w.heap.size w W → W.cell? ⟨b, 0, none⟩ = some (.int .i64 (-1))) := fun W hW => (hW.cell (World.block_lt_of_cell? w _ hx)).trans hx
  go_enter Tryz.func172, Tryz.ntmps172
  go_wp2_with (first
    | (go_at_call 206; (with_reducible refine (hm _).mono ?_); rintro e1 w1 ⟨rfl, hw1⟩; (have hw2 := hw1.symm); clear hw1; subst hw2)
    | (at_make; (refine wpList_make_full _ rfl _ _ 160 rfl w.heap.size 3 i0 (.int .i64 0) 1 Tryz.underlying160 hi hz0 hz1 _ _ _ _ n rfl rfl rfl rfl (by rw [hz2]; omega) (by unfold maxLen; omega) (Nat.le_refl _) ?_); intro w2 hown hgrow; (rw [show (madeCells (Value.int .i64 0).cells (n * 1)).toList = rpM n 0 from mdz n] at hown); (have hcur := made_blk hown); (have HB2 : Below w.heap.size w w2 := ⟨hgrow.os, hgrow.tape, hgrow.output, hgrow.size, fun k hk => hgrow.block k hk (by simp)⟩); clear hown hgrow)
    | (refine wpList_copy_splice rfl _ _ _ _ rfl 3 Tryz.underlying160 Tryz.infoIh _ _ _ _ _ _ rfl rfl w.heap.size 0 (rpM n 0) _ hcur (List.replicate 1 (.int .i64 (-1))) (by rw [List.length_replicate]; exact (Nat.min_eq_left (by omega)).symm) (fun _ => ⟨rfl, _, rfl, fun j v hj => one_src (HX.out w2 HB2) hj⟩) (by rw [rpM_len (Nat.zero_le _)]; simp; omega) (one_rep 1) w.heap.size w HB2 (Nat.le_refl _) ?_; intro w3 hb3 B3; clear hcur HB2))
  obtain ⟨G, hG⟩ : ∃ G, w.heap.size = G := ⟨_, rfl⟩
  rw [rpM_splice (show 0 + 1 ≤ n by omega), hG] at hb3
  rw [hG] at B3 ⊢
  have HG : Hid (w.heap.size = G) := hG
  clear hG hm hi hz0 hz1 hz2 hc1 hc2 hc3 hbig hni
  go_loopw [8] (fun iv wr => ∃ (m : Nat), 1 ≤ m ∧ m ≤ n ∧ iv = .int .i64 m ∧ Hid (wr.heap[G]? = some (.cells (rpM n m).toArray 3 (0, 0)) ∧ Below G w wr)) (fun iv _ => n - (intOf iv).toNat)
  case atStart => exact ⟨1, by omega, by omega, rfl, hb3.out, B3⟩
  case round =>
    obtain ⟨m, hm1, hmn, rfl, HR⟩ := hrel
    clear hb3 B3
    by_cases hlt : m < n
    · have hli : (m : Int) < (n : Int) := by omega
      obtain ⟨c, hc⟩ : ∃ c, Nat.min m (n - m) = c := ⟨_, rfl⟩
      have hc2 : c ≤ m ∧ c ≤ n - m ∧ 1 ≤ c := by
        have h1 : c = min m (n - m) := hc.symm
        omega
      have hmi : (m : Int) ≤ (n : Int) := by omega
      have hcur := HR.out.1
      have HB : Hid (Below G w wr) := HR.out.2
      have HB2 : Hid (Below G w wr.drew) := HB.out.drew
      have hcurD : wr.drew.heap[G]? = some (.cells (rpM n m).toArray 3 (0, 0)) := hcur
      have HCD : Hid (wr.drew.heap[G]? = some (.cells (rpM n m).toArray 3 (0, 0))) := hcurD
      have HS : Hid (∀ j v, (List.replicate c (Value.int .i64 (-1)))[j]? = some v → wr.drew.cell? ((⟨G, 0, none⟩ : Addr).add j) = some v) := fun j v hj => by
        have hjc : j < c := by have := (List.getElem?_eq_some_iff.1 hj).1; simpa using this
        rw [List.getElem?_replicate, if_pos hjc] at hj
        cases hj
        rw [Addr.add_lit]
        have h5 : wr.cell? ⟨G, 0 + j, none⟩ = some (.int .i64 (-1)) := by
          rw [cell_of_row wr G _ _ _ (0, 0) hcur, Nat.zero_add, List.getElem?_toArray, rpM_get hmn, if_pos (by omega), if_pos (by omega)]
        exact h5
      have HC : Hid (Nat.min m (n - m) = c) := hc
      have hsub : ((n : Int) - (m : Int)) = ((n - m : Nat) : Int) := by omega
      have hnm : ¬ n = m := by omega
      obtain ⟨d, hd⟩ : ∃ d, n - m = d := ⟨_, rfl⟩
      have HD : Hid (n - m = d) := hd
      have hwr : IntKind.i64.wrap ((m : Int) + (c : Int)) = ((m + c : Nat) : Int) := by rw [IntKind.wrap_i64]; omega
      clear hc HR hcur hcurD
      go_wp2_with fail
      go_region_law
        (first | (refine step_copy_splice rfl _ _ 160 160 rfl 3 Tryz.underlying160 Tryz.infoIh (some ⟨G, m, none⟩) (some ⟨G, 0, none⟩) d d m n (by go_simp) (by go_simp) G m (rpM n m) 3 HCD.out (List.replicate c (.int .i64 (-1))) (by rw [List.length_replicate, ← HD.out]; exact HC.out.symm) (fun _ => ⟨rfl, _, rfl, HS.out⟩) (by rw [rpM_len hmn, List.length_replicate]; omega) (one_rep c) G w HB2.out (Nat.le_refl _) ?_; intro w4 hb4 B4))
      all_goals (rw [rpM_splice (show m + c ≤ n by omega)] at hb4)
      all_goals go_simp
      all_goals go_wp2_with fail
      all_goals go_roundw
      case rel => exact ⟨m + c, by omega, by omega, by go_num, hb4.out, B4⟩
      case measure => simp [intOf]; omega
    · have hmn2 : m = n := by omega
      subst hmn2
      have hnn : ¬ (m : Int) < (m : Int) := by omega
      go_wp2_with fail
      go_ret
      refine ⟨G, rfl, ?_, by rw [HG.out]; exact Nat.le_refl _, by rw [HG.out]; exact HR.out.2⟩
      have := HR.out.1
      unfold rpM at this
      rw [Nat.sub_self, List.replicate_zero, List.append_nil] at this
      exact this

end Go.Proofs.YtmpkcioeodlbcaaGreatDoor
namespace Go.Proofs.YtmpkcioeodlbcaaGreatDoor
open Go.Maps Go.RowKit
set_option linter.unusedVariables false
set_option maxRecDepth 100000
/-- what mark lays, node by node; none: it did not come to an end -/
def mkL (go : Nat → List Int → Option (List Int)) : List Tw → List Int → Option (List Int)
  | [], st => some st
  | t :: r, st => match st[t.2]? with
    | none => none
    | some v => if v = -1 then match go t.2 st with
      | none => none
      | some st' => mkL go r st'
      else mkL go r st
def mkF (tw : List (List Tw)) (c : Int) : Nat → Nat → List Int → Option (List Int)
  | 0, _, _ => none
  | f + 1, a, st => if a < st.length then match tw[a]? with
    | none => none
    | some ts => mkL (mkF tw c f) ts (st.set a c)
    else none
/-- while mark goes on -/
structure Mk (w : World) (L Q G fp n : Nat) (c : Int) (tw : List (List Tw)) (st : List Int) : Prop where
  cf : w.cell? ⟨L, 0, none⟩ = some (.pointer (some ⟨fp, 0, none⟩))
  ci : w.cell? ⟨Q, 0, none⟩ = some (.slice (some ⟨G, 0, none⟩) n n)
  cc : w.cell? ⟨Q + 1, 0, none⟩ = some (.int .i64 c)
  cm : w.cell? ⟨Q + 2, 0, none⟩ = some (.func (.func 173) #[] #[.pointer (some ⟨Q + 1, 0, none⟩), .pointer (some ⟨Q, 0, none⟩), .pointer (some ⟨L, 0, none⟩), .pointer (some ⟨Q + 2, 0, none⟩)])
  ib : Ib w G st
  len : st.length = n
  tw : TwR w fp L tw
  lG : L < G
  GQ : G < Q
  zc : w.frozen? ⟨Q + 1, 0, none⟩ = false
theorem Ib.lt {w : World} {G : Nat} {st : List Int} (h : Ib w G st) : G < w.heap.size := (Array.getElem?_eq_some_iff.1 h).1
/-- only the block G has turned -/
theorem Mk.turn {w w' : World} {L Q G fp n : Nat} {c : Int} {tw : List (List Tw)} {st st' : List Int} (h : Mk w L Q G fp n c tw st) (hg : w.grownBy w' (some G)) (hi : Ib w' G st') (hl : st'.length = n) : Mk w' L Q G fp n c tw st' := by
  have h1 := h.lG
  have h2 := h.GQ
  have hc : ∀ (a : Addr) (v : Value), a.block ≠ G → w.cell? a = some v → w'.cell? a = some v := fun a v q1 q2 => (World.cell?_of_block (hg.block a.block (World.block_lt_of_cell? w a q2) (by simpa using q1))).trans q2
  exact ⟨hc _ _ (by simp only; omega) h.cf, hc _ _ (by simp only; omega) h.ci, hc _ _ (by simp only; omega) h.cc, hc _ _ (by simp only; omega) h.cm, hi, hl, h.tw.kept ⟨hg.os, hg.tape, hg.output, hg.size, fun k hk => hg.block k (by have := World.block_lt_of_cell? w _ h.cf; simp at this; omega) (by simp; omega)⟩, h1, h2, (World.frozen?_of_block (a := ⟨Q + 1, 0, none⟩) (hg.block (Q + 1) (World.block_lt_of_cell? w _ h.cc) (by simp; omega))).trans h.zc⟩
theorem Ib.cell {w : World} {G : Nat} {st : List Int} (h : Ib w G st) {i : Nat} {v : Int} (hi : st[i]? = some v) : w.cell? ⟨G, i, none⟩ = some (.int .i64 v) := by
  rw [cell_of_row w G _ _ _ (0, 0) h, List.getElem?_toArray, List.getElem?_map, hi]; rfl
theorem Ib.set {w : World} {G : Nat} {st : List Int} (h : Ib w G st) (i : Nat) (v : Int) : Ib (w.setCell ⟨G, i, none⟩ (.int .i64 v)) G (st.set i v) := by
  have := heap_setCell_same w G i _ _ (.int .i64 v) h
  unfold Ib
  rw [this]
  simp
theorem gb_set {w : World} {G i : Nat} {u : Value} : w.grownBy (w.setCell ⟨G, i, none⟩ u) (some G) := grown_setN
theorem gb_trans {w w1 w2 : World} {G : Nat} (h : w.grownBy w1 (some G)) (h2 : w1.grownBy w2 (some G)) : w.grownBy w2 (some G) :=
  ⟨h2.os.trans h.os, h2.tape.trans h.tape, h2.output.trans h.output, Nat.le_trans h.size h2.size, fun k hk hne => (h2.block k (Nat.lt_of_lt_of_le hk h.size) hne).trans (h.block k hk hne)⟩
theorem gb_bel {w w1 : World} {G : Nat} (h : Below w.heap.size w w1) : w.grownBy w1 (some G) := ⟨h.os, h.tape, h.output, h.size, fun k hk _ => h.block k hk⟩
theorem gb_refl (w : World) (G : Nat) : w.grownBy w (some G) := ⟨rfl, rfl, rfl, Nat.le_refl _, fun _ _ _ => rfl⟩
set_option maxHeartbeats 4000000 in
theorem mark_any_Gok (L Q G fp n : Nat) (c : Int) (tw : List (List Tw)) (f : Nat) : ∀ (a : Nat) (st st' : List Int) (w : World), Mk w L Q G fp n c tw st → mkF tw c f a st = some st' →
    Calls Tryz.prog 173 #[.int .i64 (a : Int), .pointer (some ⟨Q + 1, 0, none⟩), .pointer (some ⟨Q, 0, none⟩), .pointer (some ⟨L, 0, none⟩), .pointer (some ⟨Q + 2, 0, none⟩)] w fun e w' => e = .returned (.tuple #[]) ∧ Mk w' L Q G fp n c tw st' ∧ w.grownBy w' (some G) := by
  induction f with
  | zero => intro a st st' w _ h; cases h
  | succ f ih =>
    intro a st st' w hS hr
    have HI : Hid (∀ (a : Nat) (st st' : List Int) (w : World), Mk w L Q G fp n c tw st → mkF tw c f a st = some st' →
      Calls Tryz.prog 173 #[.int .i64 (a : Int), .pointer (some ⟨Q + 1, 0, none⟩), .pointer (some ⟨Q, 0, none⟩), .pointer (some ⟨L, 0, none⟩), .pointer (some ⟨Q + 2, 0, none⟩)] w fun e w' => e = .returned (.tuple #[]) ∧ Mk w' L Q G fp n c tw st' ∧ w.grownBy w' (some G)) := ih
    clear ih
    unfold mkF at hr
    split at hr
    · rename_i hal
      cases hq : tw[a]? with
      | none => rw [hq] at hr; cases hr
      | some ts =>
        rw [hq] at hr
        have han : a < n := by have := hS.len; omega
        have hai : (a : Int) < (n : Int) := by omega
        have cc := hS.cc
        have ci := hS.ci
        have hzG : w.frozen? ⟨G, a, none⟩ = false := frozen_of_row w G a _ _ hS.ib
        obtain ⟨v0, hv0⟩ : ∃ v, st[a]? = some v := ⟨_, List.getElem?_eq_getElem hal⟩
        have cG := hS.ib.cell hv0
        have S1 := hS.turn (w' := w.setCell ⟨G, a, none⟩ (.int .i64 c)) gb_set (hS.ib.set a c) (by simp [hS.len])
        obtain ⟨w1, hw1⟩ : ∃ w1, w.setCell ⟨G, a, none⟩ (.int .i64 c) = w1 := ⟨_, rfl⟩
        rw [hw1] at S1
        have G1 : w.grownBy w1 (some G) := by rw [← hw1]; exact gb_set
        obtain ⟨BL, cap, c1, hBL, hts⟩ := S1.tw.r
        obtain ⟨u, cu, A, cA, rfl, hA⟩ := hts a ts hq
        have cf := S1.cf
        have hlt : a < tw.length := (List.getElem?_eq_some_iff.1 hq).1
        have hni := S1.tw.n
        have hti := S1.tw.t ts (List.mem_of_getElem? hq)
        obtain ⟨m, hm⟩ : ∃ m, ts.length = m := ⟨_, rfl⟩
        obtain ⟨nt, hnt⟩ : ∃ nt, tw.length = nt := ⟨_, rfl⟩
        rw [hnt] at c1 hlt hni
        rw [hm] at cu hti
        have hati : (a : Int) < (nt : Int) := by omega
        have HM : Hid (ts.length = m) := hm
        have HA : Hid _ := hA
        have HS1 : Hid (Mk w1 L Q G fp n c tw (st.set a c) ∧ w.grownBy w1 (some G)) := ⟨S1, G1⟩
        have HR : Hid (mkL (mkF tw c f) ts (st.set a c) = some st') := hr
        have HLG : Hid (L < G) := S1.lG
        clear hm hnt hA hts hr hS hq S1 G1
        go_enter Tryz.func173, Tryz.ntmps173
        go_wp2_with fail
        clear hw1 cG hzG hv0 cf
        go_loopw [20] (fun iv wr => ∃ (k : Nat) (s2 : List Int), k ≤ m ∧ iv = .int .i64 k ∧ Hid (Mk wr L Q G fp n c tw s2 ∧ w.grownBy wr (some G) ∧ w1.grownBy wr (some G)) ∧ Hid (mkL (mkF tw c f) (ts.drop k) s2 = some st')) (fun iv _ => m - (intOf iv).toNat)
        case atStart => exact ⟨0, _, Nat.zero_le _, rfl, ⟨HS1.out.1, HS1.out.2, gb_refl _ _⟩, HR.out⟩
        case round =>
          obtain ⟨k, s2, hle, rfl, HS2, HR2⟩ := hrel
          clear HR cc ci c1 cu
          by_cases hp4 : k < m
          · have hpk : (k : Int) < (m : Int) := by omega
            obtain ⟨⟨nm, far⟩, hx⟩ : ∃ t, ts[k]? = some t := ⟨_, List.getElem?_eq_getElem (by have := HM.out; omega)⟩
            obtain ⟨g, rfl, hg, hcs⟩ := HA.out.resolve_left (by intro e; rw [e] at hx; cases hx)
            obtain ⟨d0, d1⟩ := hcs k _ hx
            have hgG : g ≠ G := by have := HLG.out; omega
            have e0 := (HS2.out.2.2.cell_far ⟨g, k * 2, none⟩ (World.block_lt_of_cell? w1 _ d0) (by simpa using hgG)).trans d0
            have e1 := (HS2.out.2.2.cell_far ⟨g, k * 2 + 1, none⟩ (World.block_lt_of_cell? w1 _ d1) (by simpa using hgG)).trans d1
            have hdr : ts.drop k = (nm, far) :: ts.drop (k + 1) := (List.drop_eq_getElem_cons (by have := HM.out; omega)).trans (by rw [(List.getElem?_eq_some_iff.1 hx).2])
            have hr2 := HR2.out
            rw [hdr] at hr2
            unfold mkL at hr2
            cases hfv : s2[far]? with
            | none => simp only [hfv] at hr2; cases hr2
            | some vf =>
              simp only [hfv] at hr2
              have hfl : far < n := by have := (List.getElem?_eq_some_iff.1 hfv).1; have := HS2.out.1.len; omega
              have hfli : (far : Int) < (n : Int) := by omega
              obtain ⟨wa, hwa⟩ : ∃ wa, wr.alloc (.cells #[.string ⟨nm.toArray⟩, .int .i64 (far : Int)] 247) = wa := ⟨_, rfl⟩
              obtain ⟨q, hq⟩ : ∃ q, wr.heap.size = q := ⟨_, rfl⟩
              have BA : Below wr.heap.size wr wa := by rw [← hwa]; exact (Below.refl _ _).alloc (Nat.le_refl _) _
              have SA := HS2.out.1.turn (gb_bel BA) (by unfold Ib; rw [BA.block G HS2.out.1.ib.lt]; exact HS2.out.1.ib) HS2.out.1.len
              have ciA := SA.ci
              have cmA := SA.cm
              have cGf := SA.ib.cell hfv
              have t1 : wa.cell? ⟨q, 1, none⟩ = some (.int .i64 (far : Int)) := by rw [← hwa, ← hq]; exact World.cell?_alloc_new _ _ _ _
              have HSA : Hid (Mk wa L Q G fp n c tw s2 ∧ w.grownBy wa (some G) ∧ w1.grownBy wa (some G)) := ⟨SA, gb_trans HS2.out.2.1 (gb_bel BA), gb_trans HS2.out.2.2 (gb_bel BA)⟩
              clear SA BA HS2 d0 d1 hcs hdr hx hfv
              simp only [sv] at e0 e1
              by_cases hm1 : vf = -1
              · rw [if_pos hm1] at hr2
                subst hm1
                cases hq2 : mkF tw c f far s2 with
                | none => rw [hq2] at hr2; cases hr2
                | some s3 =>
                  rw [hq2] at hr2
                  have hcall := HI.out far s2 s3 wa HSA.out.1 hq2
                  have HR3 : Hid (mkL (mkF tw c f) (ts.drop (k + 1)) s3 = some st') := hr2
                  clear hr2 hq2
                  go_wp2_with fail
                  refine hcall.mono ?_
                  rintro e5 w5 ⟨rfl, S5, G5⟩
                  have HS5 : Hid (Mk w5 L Q G fp n c tw s3 ∧ w.grownBy w5 (some G) ∧ w1.grownBy w5 (some G)) := ⟨S5, gb_trans HSA.out.2.1 G5, gb_trans HSA.out.2.2 G5⟩
                  clear S5 G5 hcall
                  go_wp2_with fail
                  go_roundw
                  case rel => exact ⟨k + 1, s3, by omega, by go_num, HS5.out, HR3.out⟩
                  case measure => simp [intOf]; omega
              · rw [if_neg hm1] at hr2
                have HR3 : Hid (mkL (mkF tw c f) (ts.drop (k + 1)) s2 = some st') := hr2
                have hmb : (vf == -1) = false := by rw [beq_eq_false_iff_ne]; exact hm1
                clear hr2
                go_wp2_with fail
                go_roundw
                case rel => exact ⟨k + 1, s2, by omega, by go_num, HSA.out, HR3.out⟩
                case measure => simp [intOf]; omega
          · have hkm : k = m := by omega
            subst hkm
            have hss : s2 = st' := by
              have := HR2.out
              rw [List.drop_eq_nil_of_le (by have := HM.out; omega)] at this
              exact Option.some.inj this
            subst hss
            have hkk : ¬ ((k : Int) < (k : Int)) := by omega
            clear HR2
            go_wp2_with fail
            go_end0
            exact ⟨rfl, HS2.out.1, HS2.out.2.1⟩
    · cases hr

end Go.Proofs.YtmpkcioeodlbcaaGreatDoor
namespace Go.Proofs.YtmpkcioeodlbcaaGreatDoor
open Go.Maps Go.RowKit
set_option linter.unusedVariables false
set_option maxRecDepth 100000
/-- what parts lays, from node a on; r nodes are left, c parts are counted -/
def paF (f : Nat) (tw : List (List Tw)) : Nat → Nat → Nat → List Int → Option (List Int)
  | 0, _, _, st => some st
  | r + 1, a, c, st => match st[a]? with
    | none => none
    | some v => if v = -1 then match mkF tw (c : Int) f a st with
      | none => none
      | some st' => paF f tw r (a + 1) (c + 1) st'
      else paF f tw r (a + 1) c st
theorem Mk.count {w : World} {L Q G fp n : Nat} {c c' : Int} {tw : List (List Tw)} {st : List Int} (h : Mk w L Q G fp n c tw st) : Mk (w.setCell ⟨Q + 1, 0, none⟩ (.int .i64 c')) L Q G fp n c' tw st := by
  have h1 := h.lG
  have h2 := h.GQ
  have hc : ∀ (a : Addr) (v : Value), a.block ≠ Q + 1 → w.cell? a = some v → (w.setCell ⟨Q + 1, 0, none⟩ (.int .i64 c')).cell? a = some v := fun a v q1 q2 => (World.cell?_of_block (heap_setCell_other w ⟨Q + 1, 0, none⟩ a.block _ (by simpa using q1))).trans q2
  refine ⟨hc _ _ (by simp only; omega) h.cf, hc _ _ (by simp only; omega) h.ci, World.cell?_setCell_same w _ _ h.cc, hc _ _ (by simp only; omega) h.cm, ?_, h.len, h.tw.kept ⟨rfl, rfl, rfl, by simp [World.setCell], fun k hk => heap_setCell_other w ⟨Q + 1, 0, none⟩ k _ (by simp; omega)⟩, h1, h2, by rw [show (w.setCell ⟨Q + 1, 0, none⟩ (.int .i64 c')).frozen? ⟨Q + 1, 0, none⟩ = w.frozen? ⟨Q + 1, 0, none⟩ by simp]; exact h.zc⟩
  unfold Ib
  rw [heap_setCell_other w ⟨Q + 1, 0, none⟩ G _ (by simp; omega)]; exact h.ib
theorem mk_start (w1 : World) (L Q G fp n : Nat) (tw : List (List Tw)) (hQ : w1.heap.size = Q) (hLG : L < G) (hGQ : G < Q) (kL : w1.cell? ⟨L, 0, none⟩ = some (.pointer (some ⟨fp, 0, none⟩))) (ib : Ib w1 G (List.replicate n (-1))) (ht : TwR w1 fp L tw) :
    Mk (((w1.alloc (.cells #[.slice (some ⟨G, 0, none⟩) n n] 160)).alloc (.cells #[.int .i64 0] 3)).alloc (.cells #[.func (.func 173) #[] #[.pointer (some ⟨Q + 1, 0, none⟩), .pointer (some ⟨Q, 0, none⟩), .pointer (some ⟨L, 0, none⟩), .pointer (some ⟨Q + 2, 0, none⟩)]] 244)) L Q G fp n 0 tw (List.replicate n (-1)) ∧ Below Q w1 (((w1.alloc (.cells #[.slice (some ⟨G, 0, none⟩) n n] 160)).alloc (.cells #[.int .i64 0] 3)).alloc (.cells #[.func (.func 173) #[] #[.pointer (some ⟨Q + 1, 0, none⟩), .pointer (some ⟨Q, 0, none⟩), .pointer (some ⟨L, 0, none⟩), .pointer (some ⟨Q + 2, 0, none⟩)]] 244)) := by
  obtain ⟨w2, h2⟩ : ∃ w2, w2 = w1.alloc (.cells #[.slice (some ⟨G, 0, none⟩) n n] 160) := ⟨_, rfl⟩
  rw [← h2]
  obtain ⟨w3, h3⟩ : ∃ w3, w3 = w2.alloc (.cells #[.int .i64 0] 3) := ⟨_, rfl⟩
  rw [← h3]
  obtain ⟨w4, h4⟩ : ∃ w4, w4 = w3.alloc (.cells #[.func (.func 173) #[] #[.pointer (some ⟨Q + 1, 0, none⟩), .pointer (some ⟨Q, 0, none⟩), .pointer (some ⟨L, 0, none⟩), .pointer (some ⟨Q + 2, 0, none⟩)]] 244) := ⟨_, rfl⟩
  rw [← h4]
  have s2 : w2.heap.size = Q + 1 := by rw [h2, ← hQ]; simp
  have s3 : w3.heap.size = Q + 2 := by rw [h3]; simp [s2]
  have s4 : w4.heap.size = Q + 3 := by rw [h4]; simp [s3]
  have b2 : Below Q w1 w2 := by rw [h2]; exact (Below.refl _ _).alloc (by omega) _
  have b3 : Below (Q + 1) w2 w3 := by rw [h3]; exact (Below.refl _ _).alloc (by omega) _
  have b4 : Below (Q + 2) w3 w4 := by rw [h4]; exact (Below.refl _ _).alloc (by omega) _
  have k2 : w2.heap[Q]? = some (.cells #[.slice (some ⟨G, 0, none⟩) n n] 160 (0, 0)) := by rw [h2, ← hQ]; exact heap_alloc_new _ _
  have k3 : w3.heap[Q + 1]? = some (.cells #[.int .i64 0] 3 (0, 0)) := by rw [h3, ← s2]; exact heap_alloc_new _ _
  have k4 : w4.heap[Q + 2]? = some (.cells #[.func (.func 173) #[] #[.pointer (some ⟨Q + 1, 0, none⟩), .pointer (some ⟨Q, 0, none⟩), .pointer (some ⟨L, 0, none⟩), .pointer (some ⟨Q + 2, 0, none⟩)]] 244 (0, 0)) := by rw [h4]; have := heap_alloc_new w3 (.cells #[.func (.func 173) #[] #[.pointer (some ⟨Q + 1, 0, none⟩), .pointer (some ⟨Q, 0, none⟩), .pointer (some ⟨L, 0, none⟩), .pointer (some ⟨Q + 2, 0, none⟩)]] 244); rw [s3] at this; exact this
  have q2 : w4.heap[Q]? = some (.cells #[.slice (some ⟨G, 0, none⟩) n n] 160 (0, 0)) := by rw [b4.block _ (by omega), b3.block _ (by omega)]; exact k2
  have q3 : w4.heap[Q + 1]? = some (.cells #[.int .i64 0] 3 (0, 0)) := by rw [b4.block _ (by omega)]; exact k3
  have hB : Below Q w1 w4 := b2.trans ((b3.mono (by omega)).trans (b4.mono (by omega)))
  refine ⟨⟨(hB.cell (p := ⟨L, 0, none⟩) (by simp only; omega)).trans kL, by rw [cell_of_row w4 Q 0 _ _ (0, 0) q2]; rfl, by rw [cell_of_row w4 (Q + 1) 0 _ _ (0, 0) q3]; rfl, by rw [cell_of_row w4 (Q + 2) 0 _ _ (0, 0) k4]; rfl, ?_, by simp, ht.kept (hB.mono (by omega)), hLG, hGQ, frozen_of_row w4 (Q + 1) 0 _ _ q3⟩, hB⟩
  unfold Ib
  rw [hB.block G hGQ]; exact ib
set_option maxHeartbeats 4000000 in
theorem parts_any (w : World) (base fp f n : Nat) (F : Fr_God) (B : Fb) (st : List Int) (h : Fo w base fp F B) (hok : F.ok) (hnd : F.nd.length = n) (hn0 : 0 < n) (hn : n ≤ 10000) (hp : paF f F.tw n 0 0 (List.replicate n (-1)) = some st) :
    Calls Tryz.prog 133 #[.pointer (some ⟨fp, 0, none⟩)] w fun e w' => ∃ G, e = .returned (.slice (some ⟨G, 0, none⟩) n n) ∧ Ib w' G st ∧ st.length = n ∧ w.heap.size ≤ G ∧ Below w.heap.size w w' := by
  obtain ⟨L, hL⟩ : ∃ L, w.heap.size = L := ⟨_, rfl⟩
  obtain ⟨c0, c1, c2, c3⟩ := h.c
  obtain ⟨An, cn, hvn⟩ := row_slice h.nd
  rw [hvn, hnd] at c0
  have HT : Hid (TwR w fp L F.tw) := by rw [← hL]; exact h.twR hok
  have hfp : fp < w.heap.size := h.lt
  have HP : Hid _ := hp
  have HF : Hid _ := h
  clear h hp hok c1 c2 c3 hvn
  obtain ⟨wA, hwA⟩ : ∃ wA, (w.alloc (.cells #[.pointer (some ⟨fp, 0, none⟩)] 194)).alloc (.cells #[.int .i64 (-1)] 3) = wA := ⟨_, rfl⟩
  have hsA : wA.heap.size = L + 2 := by rw [← hwA, ← hL]; simp
  have bA : Below L w wA := by rw [← hwA]; exact ((Below.refl _ w).alloc (by omega) _).alloc (by simp; omega) _
  have kL : wA.cell? ⟨L, 0, none⟩ = some (.pointer (some ⟨fp, 0, none⟩)) := by
    rw [← hwA, World.cell?_alloc_lt _ _ _ (by simp; omega), ← hL]; exact World.cell?_alloc_new _ _ _ _
  have kL1 : wA.cell? ⟨L + 1, 0, none⟩ = some (.int .i64 (-1)) := by
    rw [← hwA]
    have := World.cell?_alloc_new (w.alloc (.cells #[.pointer (some ⟨fp, 0, none⟩)] 194)) #[.int .i64 (-1)] 3 0
    simpa [hL] using this
  have c0A : wA.cell? ⟨fp, 0, none⟩ = some (.slice An n cn) := (bA.cell (p := ⟨fp, 0, none⟩) (by simp only; omega)).trans c0
  have hrep := repeat_any wA (L + 1) n hn0 (by omega) kL1
  have HA : Hid (wA.heap.size = L + 2 ∧ Below L w wA) := ⟨hsA, bA⟩
  clear hsA bA kL1 c0
  go_enter Tryz.func133, Tryz.ntmps133
  go_wp2_with fail
  refine hrep.mono ?_
  rintro e1 w1 ⟨G, rfl, ib1, hG1, b1⟩
  obtain ⟨Q, hQ⟩ : ∃ Q, w1.heap.size = Q := ⟨_, rfl⟩
  have hA2 := HA.out.1
  have hst := mk_start w1 L Q G fp n F.tw hQ (by omega) (by have := ib1.lt; omega) ((b1.cell (World.block_lt_of_cell? wA _ kL)).trans kL) ib1 ((HT.out.kept HA.out.2).kept (b1.mono (by omega)))
  have B1 : Below L w w1 := HA.out.2.trans (b1.mono (by omega))
  have c0B : w1.cell? ⟨fp, 0, none⟩ = some (.slice An n cn) := (b1.cell (World.block_lt_of_cell? wA _ c0A)).trans c0A
  obtain ⟨W, hW⟩ : ∃ W, (((w1.alloc (.cells #[.slice (some ⟨G, 0, none⟩) n n] 160)).alloc (.cells #[.int .i64 0] 3)).alloc (.cells #[.func (.func 173) #[] #[.pointer (some ⟨Q + 1, 0, none⟩), .pointer (some ⟨Q, 0, none⟩), .pointer (some ⟨L, 0, none⟩), .pointer (some ⟨Q + 1 + 1, 0, none⟩)]] 244)) = W := ⟨_, rfl⟩
  have hSW : Mk W L Q G fp n 0 F.tw (List.replicate n (-1)) ∧ Below Q w1 W := by rw [← hW]; exact hst
  have cfW := hSW.1.cf
  have HS : Hid (Mk W L Q G fp n 0 F.tw (List.replicate n (-1)) ∧ Below Q w1 W) := hSW
  have hLQ : L + 2 ≤ Q := by have := b1.size; omega
  have HC0 : Hid (∀ W, Below L w W → W.cell? ⟨fp, 0, none⟩ = some (.slice An n cn) ∧ W.cell? ⟨fp, 0, none⟩ = w.cell? ⟨fp, 0, none⟩) := fun W hW => by
    have h1 := hW.cell (p := ⟨fp, 0, none⟩) (by simp only; omega)
    have h2 := B1.cell (p := ⟨fp, 0, none⟩) (by simp only; omega)
    exact ⟨by rw [h1, ← h2]; exact c0B, h1⟩
  have HB1 : Hid (Below L w w1) := B1
  have HGL : Hid (L ≤ G) := by show L ≤ G; omega
  have fpQ : fp < w1.heap.size := World.block_lt_of_cell? w1 _ c0B
  have kLQ : w1.cell? ⟨L, 0, none⟩ = some (.pointer (some ⟨fp, 0, none⟩)) := (b1.cell (World.block_lt_of_cell? wA _ kL)).trans kL
  have LQ1 : L < w1.heap.size := by omega
  have c0W : W.cell? ⟨fp, 0, none⟩ = some (.slice An n cn) := (hSW.2.cell (p := ⟨fp, 0, none⟩) (by simp only; omega)).trans c0B
  clear hrep hst b1 B1 hG1 ib1 hwA kL c0A hSW
  go_wp2_with fail
  clear hW
  go_loopw [20] (fun iv wr => ∃ (k c : Nat) (s2 : List Int), k ≤ n ∧ iv = .int .i64 k ∧ c ≤ k ∧ Hid (Mk wr L Q G fp n (c : Int) F.tw s2 ∧ Below L w wr) ∧ Hid (paF f F.tw (n - k) k c s2 = some st)) (fun iv _ => n - (intOf iv).toNat)
  case atStart => exact ⟨0, 0, _, Nat.zero_le _, rfl, Nat.le_refl _, ⟨HS.out.1, HB1.out.trans (HS.out.2.mono (by omega))⟩, HP.out⟩
  case round =>
    obtain ⟨k, c, s2, hle, rfl, hck, HM, HW⟩ := hrel
    clear HS kLQ c0B fpQ LQ1 c0W cfW
    by_cases hp4 : k < n
    · have hpk : (k : Int) < (n : Int) := by omega
      have ci := HM.out.1.ci
      have cm := HM.out.1.cm
      have cc := HM.out.1.cc
      have hW := HW.out
      rw [show n - k = (n - (k + 1)) + 1 by omega, paF] at hW
      cases hv : s2[k]? with
      | none => simp only [hv] at hW; cases hW
      | some v =>
        simp only [hv] at hW
        have cv := HM.out.1.ib.cell hv
        have hwc : IntKind.i64.wrap ((c : Int) + 1) = ((c + 1 : Nat) : Int) := by rw [IntKind.wrap_i64]; omega
        by_cases hm1 : v = -1
        · rw [if_pos hm1] at hW
          subst hm1
          cases hq : mkF F.tw (c : Int) f k s2 with
          | none => rw [hq] at hW; cases hW
          | some s3 =>
            rw [hq] at hW
            have hcall := mark_any_Gok L Q G fp n (c : Int) F.tw f k s2 s3 wr HM.out.1 hq
            have HW3 : Hid (paF f F.tw (n - (k + 1)) (k + 1) (c + 1) s3 = some st) := hW
            clear hW hq hv
            go_wp2_with fail
            refine hcall.mono ?_
            rintro e5 w5 ⟨rfl, S5, G5⟩
            have cc5 := S5.cc
            have HS5 : Hid (Mk w5 L Q G fp n (c : Int) F.tw s3 ∧ Below L w w5) := ⟨S5, HM.out.2.trans ⟨G5.os, G5.tape, G5.output, G5.size, fun j hj => G5.block j (by have := HM.out.2.size; omega) (by simp; have := HGL.out; omega)⟩⟩
            have z5 := S5.zc
            clear S5 G5 hcall
            go_wp2_with fail
            go_roundw
            case rel => exact ⟨k + 1, c + 1, s3, by omega, by go_num, by omega, ⟨HS5.out.1.count, HS5.out.2.trans ⟨rfl, rfl, rfl, by simp [World.setCell], fun j hj => heap_setCell_other w5 ⟨Q + 1, 0, none⟩ j _ (by simp; omega)⟩⟩, HW3.out⟩
            case measure => simp [intOf]; omega
        · rw [if_neg hm1] at hW
          have HW3 : Hid (paF f F.tw (n - (k + 1)) (k + 1) c s2 = some st) := hW
          have hmb : (v == -1) = false := by rw [beq_eq_false_iff_ne]; exact hm1
          clear hW hv
          go_wp2_with fail
          go_roundw
          case rel => exact ⟨k + 1, c, s2, by omega, by go_num, by omega, HM.out, HW3.out⟩
          case measure => simp [intOf]; omega
    · have hkn : k = n := by omega
      subst hkn
      have hkk : ¬ ((k : Int) < (k : Int)) := by omega
      have ci := HM.out.1.ci
      have hss : s2 = st := by
        have := HW.out
        rw [Nat.sub_self] at this
        exact Option.some.inj this
      subst hss
      clear HW
      go_wp2_with fail
      go_ret
      exact ⟨G, rfl, HM.out.1.ib, HM.out.1.len, HGL.out, HM.out.2⟩

end Go.Proofs.YtmpkcioeodlbcaaGreatDoor
namespace Go.Proofs.YtmpkcioeodlbcaaGreatDoor
open Go.Maps Go.RowKit
set_option linter.unusedVariables false
set_option maxRecDepth 100000
/-- the first node that is in another part than the ground -/
def grF : Nat → List Int → Int × Int
  | _, [] => (0, 0)
  | a, v :: t => if v ≠ 0 then (11, (a : Int) - 1) else grF (a + 1) t
theorem take_nd {F F' : Fr_God} {f : Nat} {nm : Nm} {a b : Nat} (h : F.take f nm a b = some F') : F'.nd = F.nd := by
  unfold Fr_God.take at h
  split at h
  · cases h
  · cases h; rfl
  · cases h; rfl
theorem growF_nd {f : Nat} {want : Nat → Bool} {nodes : List Nm} : ∀ {es : List Elm} {F F' : Fr_God}, growF f want nodes es F = some F' → F'.nd = F.nd := by
  intro es
  induction es with
  | nil => intro F F' hg; cases hg; rfl
  | cons x t ih =>
    intro F F' hg
    rw [growF] at hg
    split at hg
    · cases q : F.take f (bl x.n) (posL nodes (bl x.a)) (posL nodes (bl x.b)) with
      | none => rw [q] at hg; cases hg
      | some F2 => rw [q] at hg; rw [ih hg, take_nd q]
    · exact ih hg
theorem Gn.ndF {w : World} {p f : Nat} {N : Ns} {want : Nat → Bool} {F : Fr_God} (h : Gn w p f N want F) : F.nd = [48] :: N.nd := growF_nd h.g
/-- the parts of a net's forest -/
theorem parts_gn {w w1 : World} {p f fp : Nat} {N : Ns} {F : Fr_God} {B : Fb} {st : List Int} (h : Gn w p f N wJ F) (hF : Fo w1 w.heap.size fp F B) (hp : paF f F.tw (N.nd.length + 1) 0 0 (List.replicate (N.nd.length + 1) (-1)) = some st) :
    Calls Tryz.prog 133 #[.pointer (some ⟨fp, 0, none⟩)] w1 fun e w' => ∃ G, e = .returned (.slice (some ⟨G, 0, none⟩) (N.nd.length + 1) (N.nd.length + 1)) ∧ Ib w' G st ∧ st.length = N.nd.length + 1 ∧ w1.heap.size ≤ G ∧ Below w1.heap.size w1 w' := by
  have h1 := h.n1
  have h2 := h.ne
  exact parts_any w1 w.heap.size fp f (N.nd.length + 1) F B st hF (h.fit.ok (by omega) (by omega)) (by rw [h.ndF]; rfl) (by omega) (by omega) hp
set_option maxHeartbeats 4000000 in
theorem grounded_any {w : World} {p f : Nat} {N : Ns} {F : Fr_God} {st : List Int} (h : Gn w p f N wJ F) (hp : paF f F.tw (N.nd.length + 1) 0 0 (List.replicate (N.nd.length + 1) (-1)) = some st) : Calls Tryz.prog 100 #[.pointer (some ⟨p, 0, none⟩)] w fun e w' => e = .returned (.agg #[.int .i64 (grF 0 st).1, .int .i64 (grF 0 st).2]) ∧ Below w.heap.size w w' := by
  obtain ⟨L, hL⟩ : ∃ L, w.heap.size = L := ⟨_, rfl⟩
  obtain ⟨wA, hwA⟩ : ∃ wA, w.alloc (.cells #[.int .i64 0, .int .i64 0] 69) = wA := ⟨_, rfl⟩
  have bA : Below w.heap.size w wA := by rw [← hwA]; exact (Below.refl _ _).alloc (Nat.le_refl _) _
  have kA : wA.heap[L]? = some (.cells #[.int .i64 0, .int .i64 0] 69 (0, 0)) := by rw [← hwA, ← hL]; exact heap_alloc_new _ _
  have hA := h.below bA
  have hg := grow_j hA
  have hn1 := h.n1
  obtain ⟨n, hn⟩ : ∃ n, N.nd.length + 1 = n := ⟨_, rfl⟩
  have HA : Hid (Gn wA p f N wJ F ∧ Below w.heap.size w wA ∧ wA.heap[L]? = some (.cells #[.int .i64 0, .int .i64 0] 69 (0, 0)) ∧ L < wA.heap.size) := ⟨hA, bA, kA, (Array.getElem?_eq_some_iff.1 kA).1⟩
  have HP : Hid _ := hp
  clear hA bA kA h hp
  go_enter Tryz.func100, Tryz.ntmps100
  go_wp2_with fail
  refine hg.mono ?_
  rintro e1 w1 ⟨fp, B, rfl, hF, hb⟩
  have hpc := parts_gn HA.out.1 hF HP.out
  rw [hn] at hpc
  have HB1 : Hid (Below wA.heap.size wA w1) := hb
  clear hg hF hb hwA
  go_wp2_with fail
  refine hpc.mono ?_
  rintro e2 w2 ⟨G, rfl, ib, hlen, hGe, hb2⟩
  have k2 : w2.heap[L]? = some (.cells #[.int .i64 0, .int .i64 0] 69 (0, 0)) := by
    rw [hb2.block L (Nat.lt_of_lt_of_le HA.out.2.2.2 HB1.out.size), HB1.out.block L HA.out.2.2.2]; exact HA.out.2.2.1
  have HB2 : Hid (Below L w w2) := by
    rw [← hL]
    exact HA.out.2.1.trans ((HB1.out.mono HA.out.2.1.size).trans (hb2.mono (Nat.le_trans HA.out.2.1.size HB1.out.size)))
  have HIB : Hid (Ib w2 G st ∧ st.length = n) := ⟨ib, hlen⟩
  have HK2 : Hid _ := k2
  clear hpc ib hlen hb2 hGe k2
  go_wp2_with fail
  go_loopw [18] (fun iv wr => ∃ (k : Nat), k ≤ n ∧ iv = .int .i64 k ∧ wr = w2 ∧ Hid (grF k (st.drop k) = grF 0 st)) (fun iv _ => n - (intOf iv).toNat)
  case atStart => exact ⟨0, Nat.zero_le _, rfl, rfl, rfl⟩
  case round =>
    obtain ⟨k, hle, rfl, hwr, HW⟩ := hrel
    subst hwr
    obtain ⟨z0, z1, z2, z3⟩ := tw_c HK2.out
    by_cases hp4 : k < n
    · have hpk : (k : Int) < (n : Int) := by omega
      obtain ⟨v, hv⟩ : ∃ v, st[k]? = some v := ⟨_, List.getElem?_eq_getElem (by have := HIB.out.2; omega)⟩
      have cv := HIB.out.1.cell hv
      have hdr : st.drop k = v :: st.drop (k + 1) := (List.drop_eq_getElem_cons (by have := HIB.out.2; omega)).trans (by rw [(List.getElem?_eq_some_iff.1 hv).2])
      have hW := HW.out
      rw [hdr, grF] at hW
      clear hv hdr
      by_cases hv0 : v = 0
      · rw [if_neg (by simp [hv0])] at hW
        have HW2 : Hid (grF (k + 1) (st.drop (k + 1)) = grF 0 st) := hW
        have hvb : (v != 0) = false := by simp [hv0]
        clear hW
        go_wp2_with fail
        go_roundw
        case rel => exact ⟨k + 1, by omega, by go_num, by first | trivial | rfl, HW2.out⟩
        case measure => simp [intOf]; omega
      · rw [if_pos hv0] at hW
        have hvb : (v != 0) = true := by simp [hv0]
        have hwk : IntKind.i64.wrap ((k : Int) - 1) = (k : Int) - 1 := by rw [IntKind.wrap_i64]; omega
        obtain ⟨y0, y1⟩ := tw_set HK2.out (.int .i64 11) (.int .i64 ((k : Int) - 1))
        have HW2 : Hid (((11 : Int), (k : Int) - 1) = grF 0 st) := hW
        clear hW
        go_wp2_with fail
        (try simp only [Exit.inBlock, Exit.then])
        refine bodyPost_ret (by simp [results, Tryz.results100, go_sem, y0, y1]; try rfl) rfl ?_
        refine ⟨by rw [← HW2.out], ?_⟩
        first | exact tw_bel HB2.out (Nat.le_refl _) _ _ | (rw [hL]; exact tw_bel HB2.out (Nat.le_refl _) _ _)
    · have hkn : k = n := by omega
      subst hkn
      have hkk : ¬ ((k : Int) < (k : Int)) := by omega
      have HW2 : Hid (((0 : Int), (0 : Int)) = grF 0 st) := by
        have := HW.out
        rw [List.drop_eq_nil_of_le (by have := HIB.out.2; omega)] at this
        exact this
      obtain ⟨y0, y1⟩ := tw_set HK2.out (.int .i64 0) (.int .i64 0)
      clear HW
      go_wp2_with fail
      (try simp only [Exit.inBlock, Exit.then])
      refine bodyPost_ret (by simp [results, Tryz.results100, go_sem, y0, y1]; try rfl) rfl ?_
      refine ⟨by rw [← HW2.out], ?_⟩
      first | exact tw_bel HB2.out (Nat.le_refl _) _ _ | (rw [hL]; exact tw_bel HB2.out (Nat.le_refl _) _ _)

end Go.Proofs.YtmpkcioeodlbcaaGreatDoor
namespace Go.Proofs.YtmpkcioeodlbcaaGreatDoor
open Go.Maps Go.RowKit
set_option linter.unusedVariables false
set_option maxRecDepth 100000
/-- a row of elements that is owned: its i-th element's cells -/
theorem de8_row {w : World} {base : Nat} {v : Value} {n : Nat} {l : List Elm} (h : w.ownsRow base 96 8 v n (elCs l)) (hn : l.length = n) {i : Nat} {x : Elm} (hx : l[i]? = some x) : ∃ g cap, v = .slice (some ⟨g, 0, none⟩) n cap ∧ E8 w g (i * 8) x := by
  have hi : i < n := by rw [← hn]; exact (List.getElem?_eq_some_iff.1 hx).1
  obtain ⟨g, cap, hv⟩ : ∃ g cap, v = .slice (some ⟨g, 0, none⟩) n cap := by
    obtain ⟨_, ⟨h1, h2⟩ | ⟨g, cap, cur, h1, _⟩⟩ := h
    · omega
    · exact ⟨_, _, h1⟩
  subst hv
  have hc : ∀ c v, c < 8 → (elC x)[c]? = some v → w.cell? ⟨g, i * 8 + c, none⟩ = some v := fun c v h1 h2 => by rw [h.cellAt (i * 8 + c) (by omega), elCs_get hx h1]; exact h2
  exact ⟨g, cap, rfl, hc 0 _ (by omega) rfl, hc 1 _ (by omega) rfl, hc 2 _ (by omega) rfl, hc 3 _ (by omega) rfl, hc 4 _ (by omega) rfl, hc 5 _ (by omega) rfl, hc 6 _ (by omega) rfl, hc 7 _ (by omega) rfl⟩
theorem drow_slice {w : World} {base : Nat} {e : TypeId} {sz : Nat} {v : Value} {n : Nat} {xs : List Value} (h : w.ownsRow base e sz v n xs) : ∃ A cap, v = .slice A n cap := by
  obtain ⟨_, ⟨h1, h2⟩ | ⟨g, cap, cur, h1, _⟩⟩ := h
  · exact ⟨none, 0, by rw [h1, h2]⟩
  · exact ⟨_, _, h1⟩
end Go.Proofs.YtmpkcioeodlbcaaGreatDoor
