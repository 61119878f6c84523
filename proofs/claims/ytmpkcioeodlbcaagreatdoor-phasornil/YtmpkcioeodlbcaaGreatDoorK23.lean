/-
  Kept of Nod.
-/
import Derived.Test.YtmpkcioeodlbcaaGreatDoorK22
import Derived.Test.YtmpkcioeodlbcaaGreatDoorK05
namespace Go.Proofs.YtmpkcioeodlbcaaGreatDoor
open Go.Maps Go.RowKit
set_option linter.unusedVariables false
set_option maxRecDepth 100000
/-- eight cells from an address on -/
structure E8 (w : World) (b o : Nat) (x : Elm) : Prop where
  c0 : w.cell? ⟨b, o, none⟩ = some (.int .u8 (x.k : Int))
  c1 : w.cell? ⟨b, o + 1, none⟩ = some (.string x.n)
  c2 : w.cell? ⟨b, o + 2, none⟩ = some (.string x.a)
  c3 : w.cell? ⟨b, o + 3, none⟩ = some (.string x.b)
  c4 : w.cell? ⟨b, o + 4, none⟩ = some (.string x.c)
  c5 : w.cell? ⟨b, o + 5, none⟩ = some (.string x.d)
  c6 : w.cell? ⟨b, o + 6, none⟩ = some (.float .f64 x.v)
  c7 : w.cell? ⟨b, o + 7, none⟩ = some (.int .i64 x.ph)
theorem E8.bel {w w' : World} {b o n : Nat} {x : Elm} (h : E8 w b o x) (hn : b < n) (hb : Below n w w') : E8 w' b o x :=
  ⟨(hb.cell (p := ⟨b, o, none⟩) hn).trans h.c0, (hb.cell (p := ⟨b, o + 1, none⟩) hn).trans h.c1, (hb.cell (p := ⟨b, o + 2, none⟩) hn).trans h.c2, (hb.cell (p := ⟨b, o + 3, none⟩) hn).trans h.c3, (hb.cell (p := ⟨b, o + 4, none⟩) hn).trans h.c4, (hb.cell (p := ⟨b, o + 5, none⟩) hn).trans h.c5, (hb.cell (p := ⟨b, o + 6, none⟩) hn).trans h.c6, (hb.cell (p := ⟨b, o + 7, none⟩) hn).trans h.c7⟩
theorem E8.lt {w : World} {b o : Nat} {x : Elm} (h : E8 w b o x) : b < w.heap.size := World.block_lt_of_cell? w _ h.c0
/-- the value v reads as the elements l -/
def RdE (w : World) (v : Value) (l : List Elm) : Prop :=
  l.length ≤ 1000000000 ∧ ∃ A c, v = .slice A l.length c ∧ (l = [] ∨ ∃ b, A = some ⟨b, 0, none⟩ ∧ ∀ (k : Nat) (x : Elm), l[k]? = some x → E8 w b (k * 8) x)
theorem RdE.kept {w w' : World} {v : Value} {l : List Elm} (h : RdE w v l) (hb : Below w.heap.size w w') : RdE w' v l := by
  obtain ⟨h0, A, c, h1, h2⟩ := h
  refine ⟨h0, A, c, h1, h2.imp id ?_⟩
  rintro ⟨b, h3, h4⟩
  exact ⟨b, h3, fun k x hk => (h4 k x hk).bel (h4 k x hk).lt hb⟩
/-- names that are laid are short -/
theorem chk_short {x : Elm} (h : chkI x = 0) : x.n.size ≤ 16 ∧ 2 ≤ x.n.size ∧ x.a.size ≤ 16 ∧ x.b.size ≤ 16 ∧ x.c.size ≤ 16 ∧ x.d.size ≤ 16 := by
  unfold chkI at h
  by_cases h1 : ltr x.k = 0
  · rw [if_pos h1] at h; cases h
  rw [if_neg h1] at h
  by_cases h2 : naF x = false
  · rw [if_pos h2] at h; cases h
  rw [if_neg h2] at h
  by_cases h3 : (x.a.toList == x.b.toList) = true ∨ spF x = false
  · rw [if_pos h3] at h; cases h
  have h2' : naF x = true := by simpa using h2
  have h3' : spF x = true := by
    cases q : spF x
    · exact absurd (Or.inr q) h3
    · rfl
  unfold naF at h2'
  simp only [Bool.and_eq_true] at h2'
  obtain ⟨⟨⟨⟨q1, q2⟩, q3⟩, q4⟩, q5⟩ := h2'
  have hnm : 2 ≤ x.n.size ∧ x.n.size ≤ 16 := by
    by_cases h : 2 ≤ x.n.size ∧ x.n.size ≤ 16
    · exact h
    · rw [nm_out h] at q1; simp at q1
  have hnd : ∀ s, ndF s = true → s.size ≤ 16 := by
    intro s hs
    unfold ndF at hs
    simp at hs
    exact hs.1.2
  unfold spF at h3'
  simp only [Bool.and_eq_true, Bool.or_eq_true] at h3'
  refine ⟨hnm.2, hnm.1, hnd _ q3, hnd _ q4, ?_, ?_⟩
  · cases hf : fou x.k
    · have := (h3'.1.resolve_left (by rw [hf]; simp)).1
      rw [ByteArray.toList_eq] at this
      have e : x.c.data = #[] := by simpa using this
      have e2 : x.c.size = x.c.data.size := rfl
      rw [e] at e2
      rw [e2]; decide
    · rw [hf] at q5; simp at q5; exact hnd _ q5.1
  · cases hf : fou x.k
    · have := (h3'.1.resolve_left (by rw [hf]; simp)).2
      rw [ByteArray.toList_eq] at this
      have e : x.d.data = #[] := by simpa using this
      have e2 : x.d.size = x.d.data.size := rfl
      rw [e] at e2
      rw [e2]; decide
    · rw [hf] at q5; simp at q5; exact hnd _ q5.2
theorem place_s (w : World) (p f B : Nat) (xs : List (List UInt8)) (s : ByteArray) (hl : s.size ≤ 100000) (hc : w.cell? ⟨p, f + 1, none⟩ = some (.map (some B))) (hm : Mp w B xs) :
    Calls Tryz.prog 82 #[.pointer (some ⟨p, f, none⟩), .string s] w fun e w' => e = .returned (.tuple #[.int .i64 (posL xs (bl s)), .bool (decide (bl s ∈ xs))]) ∧ w' = w := nplace_any w p f B xs (bl s) hl hc hm
theorem norder_made {w : World} {base p : Nat} {N : Ns} {b : Nb} (h : Nt w base p N b) (h1 : N.nd.length ≤ 1000000) (h2 : N.br.length ≤ 1000000) : Calls Tryz.prog 74 #[.pointer (some ⟨p, 0, none⟩)] w fun e w' => e = .returned (.int .i64 ((N.nd.length + N.br.length : Nat) : Int)) ∧ Below w.heap.size w w' := by
  obtain ⟨A, cap, hv3⟩ : ∃ A cap, b.v3 = .slice A N.nd.length cap := by
    obtain ⟨_, ⟨h1, h2⟩ | ⟨g, cap, cur, h1, _⟩⟩ := h.nd.row
    · exact ⟨none, 0, by rw [h1, h2]⟩
    · exact ⟨_, _, h1⟩
  obtain ⟨A5, cap5, hv5⟩ : ∃ A cap, b.v5 = .slice A N.br.length cap := by
    obtain ⟨_, ⟨h1, h2⟩ | ⟨g, cap, cur, h1, _⟩⟩ := h.br.row
    · exact ⟨none, 0, by rw [h1, h2]⟩
    · exact ⟨_, _, h1⟩
  have c3 := h.nd.c0
  have c5 := h.br.c0
  have c2 := h.nm.c1
  rw [hv3] at c3
  rw [hv5] at c5
  have hw : wrap64 ((N.nd.length : Int) + (N.br.length : Int)) = (N.nd.length : Int) + (N.br.length : Int) := by unfold wrap64; omega
  go_enter Tryz.func74, Tryz.ntmps74
  go_wp2_with (go_at_call 66; (with_reducible refine (made_yes c2).mono ?_); rintro e1 w1 ⟨rfl, rfl⟩)
  go_region_held_law (fun W => W.cell? ⟨p, 3, none⟩ = some (.slice A N.nd.length cap) ∧ W.cell? ⟨p, 5, none⟩ = some (.slice A5 N.br.length cap5)) (first | exact ⟨c3, c5⟩ | go_keep) (fail)
  go_wp2_with fail
  go_ret
  refine ⟨?_, (Below.refl _ _).drew⟩
  simp
  rw [IntKind.wrap_i64]; omega
/-- what is known while Of goes on -/
structure Oi (wF wr : World) (base p i : Nat) (l : List Elm) (N : Ns) (b : Nb) : Prop where
  nt : Nt wr base p N b
  lw : Lw wF.heap.size p b
  bel : Below wF.heap.size wF wr
  fit : N.fits i
  rest : ofR N i (l.drop i) = ofR Ns.nil 0 l
theorem Oi.start {wF w1 w2 w3 : World} {B2 B4 B6 : Nat} {l : List Elm} (b1 : Below wF.heap.size wF w1) (b2 : Below w1.heap.size w1 w2) (b3 : Below w2.heap.size w2 w3) (m1 : Mp w1 B2 []) (m2 : Mp w2 B4 []) (m3 : Mp w3 B6 []) (h1 : wF.heap.size ≤ B2 ∧ B2 < w1.heap.size) (h2 : w1.heap.size ≤ B4 ∧ B4 < w2.heap.size) (h3 : w2.heap.size ≤ B6 ∧ B6 < w3.heap.size) :
    Oi wF (w3.alloc (.cells #[.slice none 0 0, .slice none 0 0, .map (some B2), .slice none 0 0, .map (some B4), .slice none 0 0, .map (some B6)] 66)) (w3.heap.size + 1) w3.heap.size 0 l Ns.nil ⟨.slice none 0 0, .slice none 0 0, .slice none 0 0, .slice none 0 0, B2, B4, B6⟩ := by
  have s1 := b1.size
  have s2 := b2.size
  have s3 := b3.size
  obtain ⟨W, hW⟩ : ∃ W, W = w3.alloc (.cells #[.slice none 0 0, .slice none 0 0, .map (some B2), .slice none 0 0, .map (some B4), .slice none 0 0, .map (some B6)] 66) := ⟨_, rfl⟩
  have hb : W.heap[w3.heap.size]? = some (.cells #[.slice none 0 0, .slice none 0 0, .map (some B2), .slice none 0 0, .map (some B4), .slice none 0 0, .map (some B6)] 66 (0, 0)) := by rw [hW]; exact heap_alloc_new _ _
  have h3W : Below w3.heap.size w3 W := by rw [hW]; exact (Below.refl _ _).alloc (Nat.le_refl _) _
  have hs : W.heap.size = w3.heap.size + 1 := by rw [hW]; simp
  rw [← hW]
  have M1 : Mp W B2 [] := m1.blk (by rw [h3W.block _ (by omega), b3.block _ (by omega), b2.block _ (by omega)])
  have M2 : Mp W B4 [] := m2.blk (by rw [h3W.block _ (by omega), b3.block _ (by omega)])
  have M3 : Mp W B6 [] := m3.blk (by rw [h3W.block _ (by omega)])
  have hc : ∀ j v, (#[.slice none 0 0, .slice none 0 0, .map (some B2), .slice none 0 0, .map (some B4), .slice none 0 0, .map (some B6)] : Array Value)[j]? = some v → W.cell? ⟨w3.heap.size, j, none⟩ = some v := fun j v hj => by rw [cell_of_row W w3.heap.size _ _ _ (0, 0) hb]; exact hj
  have hf : ∀ j, W.frozen? ⟨w3.heap.size, j, none⟩ = false := fun j => frozen_of_row W w3.heap.size j _ _ hb
  refine ⟨⟨hc 0 _ rfl, hf 0, World.ownsRow_nil _ _ _ _, ⟨hc 1 _ rfl, hc 2 _ rfl, hf 1, World.ownsRow_nil _ _ _ _, M1⟩, ⟨hc 3 _ rfl, hc 4 _ rfl, hf 3, World.ownsRow_nil _ _ _ _, M2⟩, ⟨hc 5 _ rfl, hc 6 _ rfl, hf 5, World.ownsRow_nil _ _ _ _, M3⟩, by omega, by omega, by simp only; omega, by simp only; omega, by simp only; omega, (fun g h => by cases h), (fun g h => by cases h), (fun g h => by cases h)⟩, ⟨by omega, h1.1, by simp only; omega, by simp only; omega⟩, ?_, Ns.fits.nil, rfl⟩
  exact b1.trans ((b2.mono s1).trans ((b3.mono (by omega)).trans (h3W.mono (by omega))))
theorem ofR_bad {N : Ns} {i : Nat} {x : Elm} {t : List Elm} (h : chkI x ≠ 0) : ofR N i (x :: t) = ((chkI x, (i : Int)), N) := by unfold ofR; rw [if_pos h]
theorem ofR_there {N : Ns} {i : Nat} {x : Elm} {t : List Elm} (h : chkI x = 0) (h2 : bl x.n ∈ N.nm) : ofR N i (x :: t) = ((9, (i : Int)), N) := by unfold ofR; rw [if_neg (by simp [h]), if_pos h2]
theorem ofR_go {N : Ns} {i : Nat} {x : Elm} {t : List Elm} (h : chkI x = 0) (h2 : bl x.n ∉ N.nm) : ofR N i (x :: t) = ofR (N.lay x) (i + 1) t := by rw [ofR, if_neg (by simp [h]), if_neg h2]
/-- what Of answers, in memory -/
def OfP (w : World) (l : List Elm) (e : Ending) (w' : World) : Prop :=
  Below w.heap.size w w' ∧ ((ofA l).1 = (0, 0) ∧ (∃ base p b, e = .returned (.tuple #[.pointer (some ⟨p, 0, none⟩), .agg #[.int .i64 0, .int .i64 0]]) ∧ Nt w' base p (ofA l).2 b ∧ w.heap.size ≤ p ∧ (ofA l).2.fits l.length) ∨ (ofA l).1.1 ≠ 0 ∧ e = .returned (.tuple #[.pointer none, .agg #[.int .i64 (ofA l).1.1, .int .i64 (ofA l).1.2]]))
theorem Nt.but {w w' : World} {n base p F : Nat} {N : Ns} {b : Nb} (h : Nt w base p N b) (hl : Lw n p b) (hF : F < n) (hs : w.heap.size ≤ w'.heap.size) (hk : ∀ k, k ≠ F → w'.heap[k]? = w.heap[k]?) : Nt w' base p N b := by
  have hp := hl.p
  have hlo := h.lo
  have hpb : w'.heap[p]? = w.heap[p]? := hk p (by omega)
  have hR : ∀ {f v B xs}, n ≤ B → Rn w base p f v B xs → Rn w' base p f v B xs := fun hB q => ⟨(World.cell?_of_block hpb).trans q.c0, (World.cell?_of_block hpb).trans q.c1, (World.frozen?_of_block hpb).trans q.fz, row_block q.row fun g hg => hk g (by have := (row_ge q.row hg).1; omega), q.mp.blk (hk _ (by omega))⟩
  exact ⟨(World.cell?_of_block hpb).trans h.c0, (World.frozen?_of_block hpb).trans h.f0, row_block h.es fun g hg => hk g (by have := (row_ge h.es hg).1; omega), hR hl.b2 h.nm, hR hl.b4 h.nd, hR hl.b6 h.br, h.lo, Nat.le_trans h.hi hs, h.m1, h.m2, h.m3, h.s1, h.s2, h.s3⟩
theorem check_w (x : Elm) (w : World) (h : x.ok) : Calls Tryz.prog 81 #[.agg #[.int .u8 (x.k : Int), .string x.n, .string x.a, .string x.b, .string x.c, .string x.d, .float .f64 x.v, .int .i64 x.ph]] w fun e w' => e = .returned (.int .i64 (chkI x)) ∧ Below w.heap.size w w' := check_any x w h
theorem lay_w (w : World) (n base p : Nat) (N : Ns) (b : Nb) (x : Elm) (hN : Nt w base p N b) (hL : Lw n p b) (h1 : x.n.size ≤ 100000) (h2 : x.a.size ≤ 100000) (h3 : x.b.size ≤ 100000) (h4 : x.c.size ≤ 100000) (h5 : x.d.size ≤ 100000) (hf : N.fits N.es.length) (hlen : N.es.length ≤ 1000) :
    Calls Tryz.prog 83 #[.pointer (some ⟨p, 0, none⟩), .agg #[.int .u8 (x.k : Int), .string x.n, .string x.a, .string x.b, .string x.c, .string x.d, .float .f64 x.v, .int .i64 x.ph]] w fun e w' => e = .returned (.tuple #[]) ∧ ∃ b', Nt w' base p (N.lay x) b' ∧ Lw n p b' ∧ Below n w w' := lay_any w n base p N b x hN hL h1 h2 h3 h4 h5 hf hlen
theorem Oi.below {wF wr w' : World} {base p i : Nat} {l : List Elm} {N : Ns} {b : Nb} (h : Oi wF wr base p i l N b) (hb : Below wr.heap.size wr w') : Oi wF w' base p i l N b :=
  ⟨h.nt.below hb, h.lw, h.bel.trans (hb.mono h.bel.size), h.fit, h.rest⟩
set_option maxHeartbeats 4000000 in
theorem netOf_any (w : World) (v : Value) (l : List Elm) (hv : RdE w v l) (hok : ∀ x ∈ l, x.ok) : Calls Tryz.prog 37 #[v] w (OfP w l) := by
  obtain ⟨hl9, A, cA, rfl, hA⟩ := hv
  have HA : Hid (l = [] ∨ ∃ b, A = some ⟨b, 0, none⟩ ∧ ∀ (k : Nat) (x : Elm), l[k]? = some x → E8 w b (k * 8) x) := hA
  have HOK : Hid (∀ x ∈ l, x.ok) := hok
  clear hA hok
  obtain ⟨n, hn⟩ : ∃ n, l.length = n := ⟨_, rfl⟩
  rw [hn] at hl9 ⊢
  have HN : Hid (l.length = n) := hn
  clear hn
  by_cases hbig : 256 < n
  · have hbi : (256 : Int) < (n : Int) := by omega
    go_enter Tryz.func37, Tryz.ntmps37
    go_wp2_with fail
    (try simp only [Exit.inBlock, Exit.then])
    refine bodyPost_ret (by simp [results, Tryz.results37, go_sem]; try rfl) rfl ?_
    have hA3 : ofA l = ((3, -1), Ns.nil) := if_pos (by have := HN.out; omega)
    exact ⟨(Below.refl _ w).alloc (Nat.le_refl _) _, .inr ⟨by rw [hA3]; simp, by rw [hA3]⟩⟩
  · have hbi : ¬ (256 : Int) < (n : Int) := by omega
    have HnR : Hid (∀ W : World, Calls Tryz.prog 80 #[] W fun e w' => ∃ B, e = .returned (.agg #[.slice none 0 0, .map (some B)]) ∧ Mp w' B [] ∧ Below W.heap.size W w' ∧ W.heap.size ≤ B ∧ B < w'.heap.size) := newRow_any
    go_enter Tryz.func37, Tryz.ntmps37
    go_wp2_with fail
    refine (HnR.out _).mono ?_
    rintro e1 w1 ⟨B2, rfl, m1, b1, g1, g1'⟩
    go_wp2_with fail
    refine (HnR.out _).mono ?_
    rintro e2 w2 ⟨B4, rfl, m2, b2, g2, g2'⟩
    go_wp2_with fail
    refine (HnR.out _).mono ?_
    rintro e3 w3 ⟨B6, rfl, m3, b3, g3, g3'⟩
    have HO : Hid _ := Oi.start (l := l) b1 b2 b3 m1 m2 m3 ⟨g1, g1'⟩ ⟨g2, g2'⟩ ⟨g3, g3'⟩
    clear m1 m2 m3 b1 b2 b3 g1 g1' g2 g2' g3 g3'
    go_wp2_with fail
    obtain ⟨wF, hwF⟩ : ∃ wF, w.alloc (.cells #[.int .i64 0, .int .i64 0] 69) = wF := ⟨_, rfl⟩
    obtain ⟨F, hF⟩ : ∃ F, w.heap.size = F := ⟨_, rfl⟩
    obtain ⟨p, hp⟩ : ∃ p, w3.heap.size = p := ⟨_, rfl⟩
    obtain ⟨W0, hW0⟩ : ∃ W0, w3.alloc (.cells #[.slice none 0 0, .slice none 0 0, .map (some B2), .slice none 0 0, .map (some B4), .slice none 0 0, .map (some B6)] 66) = W0 := ⟨_, rfl⟩
    rw [hwF, hp, hW0] at HO
    rw [hF, hp, hW0]
    have HF : Hid (wF.heap[F]? = some (.cells #[.int .i64 0, .int .i64 0] 69 (0, 0)) ∧ wF.heap.size = F + 1 ∧ Below F w wF ∧ w.heap.size = F) := by
      rw [← hwF, ← hF]
      exact ⟨heap_alloc_new w _, by simp, (Below.refl _ w).alloc (Nat.le_refl _) _, rfl⟩
    clear hwF hF hp hW0 HnR hbi
    go_loopw [21] (fun iv wr => ∃ (i : Nat) (N : Ns) (b : Nb), i ≤ n ∧ iv = .int .i64 i ∧ Hid (Oi wF wr (p + 1) p i l N b)) (fun iv _ => n - (intOf iv).toNat)
    case atStart => exact ⟨0, _, _, Nat.zero_le _, rfl, HO⟩
    case round =>
      obtain ⟨i, N, b, hle, rfl, HI⟩ := hrel
      clear HO
      by_cases hp4 : i < n
      · have hpi : (i : Int) < (n : Int) := by omega
        obtain ⟨x, hx⟩ : ∃ x, l[i]? = some x := ⟨_, List.getElem?_eq_getElem (by have := HN.out; omega)⟩
        obtain ⟨ba, rfl, hca⟩ := HA.out.resolve_left (by intro e; rw [e] at hx; cases hx)
        have hbF : ba < F := by have := (hca i x hx).lt; have := HF.out.2.2.2; omega
        have hE := ((hca i x hx).bel hbF HF.out.2.2.1).bel (n := wF.heap.size) (by have := HF.out.2.1; omega) HI.out.bel
        have HX : Hid (l[i]? = some x) := hx
        have HXo : Hid x.ok := HOK.out x (List.mem_of_getElem? hx)
        obtain ⟨c0, c1, c2, c3, c4, c5, c6, c7⟩ := hE
        clear hca hx
        obtain ⟨t, ht⟩ : ∃ t, l.drop i = x :: t := ⟨_, (List.drop_eq_getElem_cons (by have := HN.out; omega)).trans (by rw [(List.getElem?_eq_some_iff.1 HX.out).2])⟩
        have HR : Hid (ofR N i (x :: t) = ofR Ns.nil 0 l ∧ l.drop (i + 1) = t) := ⟨by rw [← ht]; exact HI.out.rest, by rw [List.drop_add_one_eq_tail_drop, ht]; rfl⟩
        obtain ⟨we, hwe⟩ : ∃ we, wr.alloc (.cells #[.int .u8 (x.k : Int), .string x.n, .string x.a, .string x.b, .string x.c, .string x.d, .float .f64 x.v, .int .i64 x.ph] 96) = we := ⟨_, rfl⟩
        obtain ⟨q, hq⟩ : ∃ q, wr.heap.size = q := ⟨_, rfl⟩
        have HE : Hid (Oi wF we (p + 1) p i l N b ∧ we.heap[q]? = some (.cells (elA x) 96 (0, 0)) ∧ q < we.heap.size) := by
          rw [← hwe, ← hq]
          exact ⟨HI.out.below ((Below.refl _ wr).alloc (Nat.le_refl _) _), heap_alloc_new wr _, by simp⟩
        obtain ⟨⟨d0, d1, d2, d3, d4, d5, d6, d7⟩, _⟩ := eight HE.out.2.1
        go_wp2_with fail
        clear d0 d1 d2 d3 d4 d5 d6 d7
        clear hwe hq c0 c1 c2 c3 c4 c5 c6 c7 HI ht
        refine (check_w x _ HXo.out).mono ?_
        rintro e4 w4 ⟨rfl, bk⟩
        have HO4 : Hid (Oi wF w4 (p + 1) p i l N b) := HE.out.1.below bk
        have hq4 : w4.heap[q]? = some (.cells (elA x) 96 (0, 0)) := by rw [bk.block q HE.out.2.2]; exact HE.out.2.1
        have hF4 : w4.heap[F]? = some (.cells #[.int .i64 0, .int .i64 0] 69 (0, 0)) := by rw [HO4.out.bel.block F (by have := HF.out.2.1; omega)]; exact HF.out.1
        clear bk HE
        by_cases hchk : chkI x = 0
        · obtain ⟨hs1, hs1', hs2, hs3, hs4, hs5⟩ := chk_short hchk
          have hck : ((chkI x) != 0) = false := by simp [hchk]
          obtain ⟨⟨d0, d1, d2, d3, d4, d5, d6, d7⟩, _⟩ := eight hq4
          have hmp := HO4.out.nt.nm.mp
          have hmc := HO4.out.nt.nm.c1
          have HPL : Hid (Calls Tryz.prog 82 #[.pointer (some ⟨p, 1, none⟩), .string x.n] w4.drew fun e w' => e = .returned (.tuple #[.int .i64 (posL N.nm (bl x.n)), .bool (decide (bl x.n ∈ N.nm))]) ∧ w' = w4.drew) := place_s w4.drew p 1 b.B2 N.nm x.n (by omega) hmc (hmp.blk rfl)
          clear hmp hmc
          rw [hchk]
          by_cases hin : bl x.n ∈ N.nm
          · have hin2 : decide (bl x.n ∈ N.nm) = true := decide_eq_true hin
            rw [hin2] at HPL
            go_wp2_with fail
            go_region_held_law (fun W => W.cell? ⟨q, 1, none⟩ = some (.string x.n)) (first | exact d1 | go_keep) (first | (go_at_call 82; (with_reducible refine HPL.out.mono ?_); rintro e5 w5 ⟨rfl, rfl⟩))
            obtain ⟨z0, z1, z2, z3⟩ := tw_c hF4
            have y0 : (w4.setCell ⟨F, 0, none⟩ (.int .i64 9)).cell? ⟨F, 0, none⟩ = some (.int .i64 9) := World.cell?_setCell_same _ _ _ z0
            have y1 := (tw_set hF4 (.int .i64 9) (.int .i64 (i : Int))).2
            go_wp2_with fail
            (try simp only [Exit.inBlock, Exit.then])
            refine bodyPost_ret (by simp [results, Tryz.results37, go_sem, y0, y1]; try rfl) rfl ?_
            have hA3 : ofA l = ((9, (i : Int)), N) := by unfold ofA; rw [if_neg (by have := HN.out; omega), ← HR.out.1, ofR_there hchk hin]
            refine ⟨(tw_bel (w' := w4) (f := F) (n := w.heap.size) ?_ (by have := HF.out.2.2.2; omega) _ _).drew, .inr ⟨by rw [hA3]; simp, by rw [hA3]⟩⟩
            exact (HF.out.2.2.1.mono (by have := HF.out.2.2.2; omega)).trans (HO4.out.bel.mono (by have := HF.out.2.1; have := HF.out.2.2.2; omega))
          · have hin2 : decide (bl x.n ∈ N.nm) = false := decide_eq_false hin
            rw [hin2] at HPL
            go_wp2_with fail
            go_region_held_law (fun W => W.cell? ⟨q, 1, none⟩ = some (.string x.n)) (first | exact d1 | go_keep) (first | (go_at_call 82; (with_reducible refine HPL.out.mono ?_); rintro e5 w5 ⟨rfl, rfl⟩))
            have HO5 : Hid (Oi wF w4.drew (p + 1) p i l N b) := HO4.out.below ((Below.refl _ w4).drew)
            have hly := lay_w w4.drew wF.heap.size (p + 1) p N b x HO5.out.nt HO5.out.lw (by omega) (by omega) (by omega) (by omega) (by omega) (by rw [HO5.out.fit.es]; exact HO5.out.fit) (by rw [HO5.out.fit.es]; omega)
            go_wp2_with fail
            refine hly.mono ?_
            rintro e6 w6 ⟨rfl, b6, hn6, hl6, hb6⟩
            have HO6 : Hid (Oi wF w6 (p + 1) p (i + 1) l (N.lay x) b6) := ⟨hn6, hl6, HO5.out.bel.trans hb6, HO5.out.fit.lay x, by rw [HR.out.2, ← ofR_go hchk hin]; exact HR.out.1⟩
            clear hn6 hl6 hb6
            go_wp2_with fail
            go_roundw
            case rel => exact ⟨i + 1, _, _, by omega, by go_num, HO6⟩
            case measure => simp [intOf]; omega
        · have hck : ((chkI x) != 0) = true := by simpa using hchk
          obtain ⟨z0, z1, z2, z3⟩ := tw_c hF4
          obtain ⟨y0, y1⟩ := tw_set hF4 (.int .i64 (chkI x)) (.int .i64 (i : Int))
          go_wp2_with fail
          (try simp only [Exit.inBlock, Exit.then])
          refine bodyPost_ret (by simp [results, Tryz.results37, go_sem, y0, y1]; try rfl) rfl ?_
          have hA3 : ofA l = ((chkI x, (i : Int)), N) := by unfold ofA; rw [if_neg (by have := HN.out; omega), ← HR.out.1, ofR_bad hchk]
          refine ⟨tw_bel ?_ (by have := HF.out.2.2.2; omega) _ _, .inr ⟨by rw [hA3]; exact hchk, by rw [hA3]⟩⟩
          exact (HF.out.2.2.1.mono (by have := HF.out.2.2.2; omega)).trans (HO4.out.bel.mono (by have := HF.out.2.1; have := HF.out.2.2.2; omega))
      · have hin : i = n := by omega
        subst hin
        have hnlt : ¬ ((i : Int) < (i : Int)) := by omega
        have hdr : l.drop i = [] := List.drop_eq_nil_of_le (by have := HN.out; omega)
        have HR : Hid (ofR N i [] = ofR Ns.nil 0 l) := by rw [← hdr]; exact HI.out.rest
        clear hdr
        obtain ⟨Ad, capd, hv3⟩ : ∃ A cap, b.v3 = .slice A N.nd.length cap := by
          obtain ⟨_, ⟨h1, h2⟩ | ⟨g, cap, cur, h1, _⟩⟩ := HI.out.nt.nd.row
          · exact ⟨none, 0, by rw [h1, h2]⟩
          · exact ⟨_, _, h1⟩
        have c3 := HI.out.nt.nd.c0
        rw [hv3] at c3
        have hnd1 : N.nd.length ≤ 1100 := by have := HI.out.fit.nd; omega
        have hbr1 : N.br.length ≤ 1100 := by have := HI.out.fit.br; omega
        obtain ⟨nd, hnd⟩ : ∃ nd, N.nd.length = nd := ⟨_, rfl⟩
        obtain ⟨br, hbr⟩ : ∃ br, N.br.length = br := ⟨_, rfl⟩
        have HOR : Hid (Calls Tryz.prog 74 #[.pointer (some ⟨p, 0, none⟩)] wr fun e w' => e = .returned (.int .i64 ((nd + br : Nat) : Int)) ∧ Below wr.heap.size wr w') := by
          rw [← hnd, ← hbr]; exact norder_made HI.out.nt (by omega) (by omega)
        rw [hnd] at c3 hnd1
        rw [hbr] at hbr1
        have HNB : Hid (N.nd.length = nd ∧ N.br.length = br) := ⟨hnd, hbr⟩
        clear hnd hbr hv3
        have hFr : wr.heap[F]? = some (.cells #[.int .i64 0, .int .i64 0] 69 (0, 0)) := by rw [HI.out.bel.block F (by have := HF.out.2.1; omega)]; exact HF.out.1
        by_cases h32 : 32 < nd
        · have h32i : (32 : Int) < (nd : Int) := by omega
          obtain ⟨z0, z1, z2, z3⟩ := tw_c hFr
          obtain ⟨y0, y1⟩ := tw_set hFr (.int .i64 3) (.int .i64 (-1))
          go_wp2_with fail
          (try simp only [Exit.inBlock, Exit.then])
          refine bodyPost_ret (by simp [results, Tryz.results37, go_sem, y0, y1]; try rfl) rfl ?_
          have hA3 : ofA l = ((3, -1), N) := by unfold ofA; rw [if_neg (by have := HN.out; omega), ← HR.out]; unfold ofR; rw [if_pos (by rw [HNB.out.1]; exact .inl h32)]
          refine ⟨tw_bel ?_ (by have := HF.out.2.2.2; omega) _ _, .inr ⟨by rw [hA3]; simp, by rw [hA3]⟩⟩
          exact (HF.out.2.2.1.mono (by have := HF.out.2.2.2; omega)).trans (HI.out.bel.mono (by have := HF.out.2.1; have := HF.out.2.2.2; omega))
        · have h32i : ¬ (32 : Int) < (nd : Int) := by omega
          by_cases h64 : 64 < nd + br
          · have h64i : (64 : Int) < ((nd + br : Nat) : Int) := by omega
            go_wp2_with (first | (go_at_call 74; (with_reducible refine HOR.out.mono ?_); rintro e6 w6 ⟨rfl, hb6⟩; (have hF6 : w6.heap[F]? = some (.cells #[.int .i64 0, .int .i64 0] 69 (0, 0)) := (by rw [hb6.block F (by have := (Array.getElem?_eq_some_iff.1 hFr).1; exact this)]; exact hFr)); (obtain ⟨z0, z1, z2, z3⟩ := tw_c hF6); (obtain ⟨y0, y1⟩ := tw_set hF6 (.int .i64 3) (.int .i64 (-1))); (have HB6 : Hid _ := hb6); clear hb6))
            (try simp only [Exit.inBlock, Exit.then])
            refine bodyPost_ret (by simp [results, Tryz.results37, go_sem, y0, y1]; try rfl) rfl ?_
            have hA3 : ofA l = ((3, -1), N) := by unfold ofA; rw [if_neg (by have := HN.out; omega), ← HR.out]; unfold ofR; rw [if_pos (by rw [HNB.out.1, HNB.out.2]; exact .inr h64)]
            refine ⟨tw_bel ?_ (by have := HF.out.2.2.2; omega) _ _, .inr ⟨by rw [hA3]; simp, by rw [hA3]⟩⟩
            exact ((HF.out.2.2.1.mono (by have := HF.out.2.2.2; omega)).trans (HI.out.bel.mono (by have := HF.out.2.1; have := HF.out.2.2.2; omega))).trans (HB6.out.mono (by have := HI.out.bel.size; have := HF.out.2.1; have := HF.out.2.2.2; omega))
          · have h64i : ¬ (64 : Int) < ((nd + br : Nat) : Int) := by omega
            go_wp2_with (first | (go_at_call 74; (with_reducible refine HOR.out.mono ?_); rintro e6 w6 ⟨rfl, hb6⟩; (have hF6 : w6.heap[F]? = some (.cells #[.int .i64 0, .int .i64 0] 69 (0, 0)) := (by rw [hb6.block F (by have := (Array.getElem?_eq_some_iff.1 hFr).1; exact this)]; exact hFr)); (obtain ⟨z0, z1, z2, z3⟩ := tw_c hF6); (obtain ⟨y0, y1⟩ := tw_set hF6 (.int .i64 0) (.int .i64 0)); (have HB6 : Hid _ := hb6); clear hb6))
            (try simp only [Exit.inBlock, Exit.then])
            refine bodyPost_ret (by simp [results, Tryz.results37, go_sem, y0, y1]; try rfl) rfl ?_
            have hA3 : ofA l = ((0, 0), N) := by unfold ofA; rw [if_neg (by have := HN.out; omega), ← HR.out]; unfold ofR; rw [if_neg (by rw [HNB.out.1, HNB.out.2]; rintro (q | q); exact h32 q; exact h64 q)]
            have O6 := HI.out.below HB6.out
            refine ⟨tw_bel ?_ (by have := HF.out.2.2.2; omega) _ _, .inl ⟨by rw [hA3], p + 1, p, b, rfl, ?_, by have := O6.lw.p; have := HF.out.2.1; have := HF.out.2.2.2; omega, by rw [hA3, HN.out]; exact O6.fit⟩⟩
            · exact (HF.out.2.2.1.mono (by have := HF.out.2.2.2; omega)).trans (O6.bel.mono (by have := HF.out.2.1; have := HF.out.2.2.2; omega))
            · rw [hA3]
              exact O6.nt.but (F := F) O6.lw (by have := HF.out.2.1; omega) (by simp [World.setCell]) (fun k hk => by rw [heap_setCell_other _ _ _ _ (by simpa using hk), heap_setCell_other _ _ _ _ (by simpa using hk)])
end Go.Proofs.YtmpkcioeodlbcaaGreatDoor
