/-
  The net of the document's examples of graph.
-/
import Derived.Test.YtdlecihkjokeiaaGon
namespace Go.Proofs.Ytdlecihkjokeiaa
open Go.Maps Go.RowKit
set_option linter.unusedVariables false
set_option maxRecDepth 100000

def spG (x : Elm) : Bool := (fou x.k || (x.c.data.toList.isEmpty && x.d.data.toList.isEmpty)) && (phs x.k || x.ph == 0)
def chkG (x : Elm) : Int := if ltr x.k = 0 then 2 else if naF x = false then 8 else if (x.a.data.toList == x.b.data.toList) = true ∨ spG x = false then 2 else if 2 < kdB x.v then 5 else if abv x.k = true ∧ posV x.v = false then 2 else 0
theorem chk_G (x : Elm) : chkI x = chkG x := by
  unfold chkI chkG spF spG
  simp only [ByteArray.toList_eq]
def ofG (N : Ns) (i : Nat) : List Elm → (Int × Int) × Ns
  | [] => if 32 < N.nd.length ∨ 64 < N.nd.length + N.br.length then ((3, -1), N) else ((0, 0), N)
  | x :: t => if chkG x ≠ 0 then ((chkG x, i), N) else if bl x.n ∈ N.nm then ((9, i), N) else ofG (N.lay x) (i + 1) t
theorem of_G (l : List Elm) : ∀ (N : Ns) (i : Nat), ofR N i l = ofG N i l := by
  induction l with
  | nil => intro N i; rfl
  | cons x t ih => intro N i; unfold ofR ofG; rw [chk_G, ih]
def exE (k : Nat) (n a b : ByteArray) : Elm := ⟨k, n, a, b, ⟨#[]⟩, ⟨#[]⟩, 4607182418800017408, 0⟩
/-- the elements of the examples -/
def exL : List Elm := [exE 5 ⟨#[86, 49]⟩ ⟨#[97]⟩ ⟨#[48]⟩, exE 1 ⟨#[82, 49]⟩ ⟨#[97]⟩ ⟨#[98]⟩, exE 3 ⟨#[67, 49]⟩ ⟨#[98]⟩ ⟨#[48]⟩, exE 1 ⟨#[82, 50]⟩ ⟨#[98]⟩ ⟨#[48]⟩, exE 4 ⟨#[73, 49]⟩ ⟨#[99]⟩ ⟨#[100]⟩, exE 1 ⟨#[82, 51]⟩ ⟨#[100]⟩ ⟨#[99]⟩, exE 1 ⟨#[82, 52]⟩ ⟨#[99]⟩ ⟨#[100]⟩]
def exV : Elm := exE 5 ⟨#[86, 50]⟩ ⟨#[97]⟩ ⟨#[48]⟩
def exM : List Elm := exL ++ [exV]
def netOf (l : List Elm) : Ns := (ofG Ns.nil 0 l).2
theorem of_ex : ofA exL = ((0, 0), netOf exL) := by
  unfold ofA
  rw [if_neg (by decide), of_G]
  kernel_rfl
theorem of_exM : ofA exM = ((0, 0), netOf exM) := by
  unfold ofA
  rw [if_neg (by decide), of_G]
  kernel_rfl
def exF : Fr := ⟨[[48], [97], [98], [99], [100]], [[([86, 49], 1)], [([86, 49], 0), ([82, 49], 2)], [([82, 49], 1)], [([82, 51], 4)], [([82, 51], 3)]], [[86, 49], [82, 49], [82, 51]], [[[67, 49], [86, 49], [82, 49]], [[82, 50], [86, 49], [82, 49]], [[82, 52], [82, 51]]]⟩
theorem gr_J : growF 100 wJ ([48] :: (netOf exL).nd) (netOf exL).es (Fr.new ([48] :: (netOf exL).nd)) = some exF := by kernel_rfl
def exB : Fr := ⟨[[48], [97], [98], [99], [100]], [[([86, 49], 1)], [([86, 49], 0)], [], [], []], [[86, 49]], []⟩
theorem gr_B : growF 100 wB ([48] :: (netOf exL).nd) (netOf exL).es (Fr.new ([48] :: (netOf exL).nd)) = some exB := by kernel_rfl
def exC : Fr := ⟨[[48], [97], [98], [99], [100]], [[([86, 49], 1)], [([86, 49], 0)], [], [], []], [[86, 49]], [[[86, 50], [86, 49]]]⟩
theorem gr_C : growF 100 wB ([48] :: (netOf exM).nd) (netOf exM).es (Fr.new ([48] :: (netOf exM).nd)) = some exC := by kernel_rfl
theorem pa_ex : paF 100 exF.tw ((netOf exL).nd.length + 1) 0 0 (List.replicate ((netOf exL).nd.length + 1) (-1)) = some [0, 0, 0, 1, 1] := by kernel_rfl
theorem ps_ex : psF ([48] :: (netOf exL).nd) [0, 0, 0, 1, 1] [] = some [[[48], [97], [98]], [[99], [100]]] := by kernel_rfl
theorem nd_ex : (netOf exL).nd = [[97], [98], [99], [100]] := by kernel_rfl
theorem ndM_ex : (netOf exM).nd = [[97], [98], [99], [100]] := by kernel_rfl
theorem nm_ex : (netOf exL).nm = [[86, 49], [82, 49], [67, 49], [82, 50], [73, 49], [82, 51], [82, 52]] := by kernel_rfl
theorem nmM_ex : (netOf exM).nm = [[86, 49], [82, 49], [67, 49], [82, 50], [73, 49], [82, 51], [82, 52], [86, 50]] := by kernel_rfl
theorem es_ex : (netOf exL).es = exL := by kernel_rfl
theorem esM_ex : (netOf exM).es = exM := by kernel_rfl
theorem elN_ex (x : Elm) (h : x ∈ exM) : ElN [[48], [97], [98], [99], [100]] x := by
  simp only [exM, exL, exV, List.mem_append, List.mem_cons, List.not_mem_nil, or_false] at h
  rcases h with (rfl | rfl | rfl | rfl | rfl | rfl | rfl) | rfl <;> exact ⟨by decide, by decide, by decide, by decide, by decide, by decide⟩
theorem ok_ex (x : Elm) (h : x ∈ exM) : x.ok := by
  simp only [exM, exL, exV, List.mem_append, List.mem_cons, List.not_mem_nil, or_false] at h
  rcases h with (rfl | rfl | rfl | rfl | rfl | rfl | rfl) | rfl <;> exact ⟨by decide, by decide, by decide, by decide, by decide, by decide, by decide⟩
theorem memL {x : Elm} (h : x ∈ exL) : x ∈ exM := List.mem_append_left _ h
theorem gn_J {w : World} {b0 p : Nat} {b : Nb} (h : Nt w b0 p (netOf exL) b) : Gn w p 100 (netOf exL) wJ exF :=
  ⟨⟨b0, b, h⟩, by rw [nm_ex]; decide, by rw [nd_ex]; decide, by rw [nd_ex]; decide, by rw [nd_ex]; decide, by rw [es_ex]; decide, by rw [es_ex, nd_ex]; exact fun x hx => elN_ex x (memL hx), by decide, gr_J, by rw [nd_ex]; decide⟩
theorem gn_B {w : World} {b0 p : Nat} {b : Nb} (h : Nt w b0 p (netOf exL) b) : Gn w p 100 (netOf exL) wB exB :=
  ⟨⟨b0, b, h⟩, by rw [nm_ex]; decide, by rw [nd_ex]; decide, by rw [nd_ex]; decide, by rw [nd_ex]; decide, by rw [es_ex]; decide, by rw [es_ex, nd_ex]; exact fun x hx => elN_ex x (memL hx), by decide, gr_B, by rw [nd_ex]; decide⟩
theorem gn_C {w : World} {b0 p : Nat} {b : Nb} (h : Nt w b0 p (netOf exM) b) : Gn w p 100 (netOf exM) wB exC :=
  ⟨⟨b0, b, h⟩, by rw [nmM_ex]; decide, by rw [ndM_ex]; decide, by rw [ndM_ex]; decide, by rw [ndM_ex]; decide, by rw [esM_ex]; decide, by rw [esM_ex, ndM_ex]; exact fun x hx => elN_ex x hx, by decide, gr_C, by rw [ndM_ex]; decide⟩
theorem element_any (k : Nat) (n a b : ByteArray) (w : World) : Calls Try.prog 33 #[.int .u8 (k : Int), .string n, .string a, .string b] w fun e w' => e = .returned (.agg #[.int .u8 (k : Int), .string n, .string a, .string b, .string ⟨#[]⟩, .string ⟨#[]⟩, .float .f64 4607182418800017408, .int .i64 0]) ∧ Below w.heap.size w w' := by
  go_enter Try.func33, Try.ntmps33
  go_wp2_with fail
  refine bodyPost_ret (by simp [results, Try.results33, go_sem]; try rfl) rfl ?_
  exact ⟨rfl, (Below.refl _ w).alloc (Nat.le_refl _) _⟩
/-- elements that are written out -/
theorem rdE_lit (w : World) (l : List Elm) (hl : l.length ≤ 1000) : RdE (w.alloc (.cells (elCs l).toArray 61)) (.slice (some ⟨w.heap.size, 0, none⟩) l.length l.length) l := by
  refine ⟨by omega, _, _, rfl, .inr ⟨w.heap.size, rfl, fun k x hk => ?_⟩⟩
  have hb := heap_alloc_new w (.cells (elCs l).toArray 61)
  have hc : ∀ c v, c < 8 → (elC x)[c]? = some v → (w.alloc (.cells (elCs l).toArray 61)).cell? ⟨w.heap.size, k * 8 + c, none⟩ = some v := fun c v h1 h2 => by
    rw [cell_of_row _ w.heap.size _ _ _ (0, 0) hb, List.getElem?_toArray, elCs_get hk h1]; exact h2
  exact ⟨hc 0 _ (by omega) rfl, hc 1 _ (by omega) rfl, hc 2 _ (by omega) rfl, hc 3 _ (by omega) rfl, hc 4 _ (by omega) rfl, hc 5 _ (by omega) rfl, hc 6 _ (by omega) rfl, hc 7 _ (by omega) rfl⟩
theorem of_yes {w w' : World} {l : List Elm} {N : Ns} {e : Ending} (h : ofA l = ((0, 0), N)) (hp : OfP w l e w') : Below w.heap.size w w' ∧ ∃ p b0 b, e = .returned (.tuple #[.pointer (some ⟨p, 0, none⟩), .agg #[.int .i64 0, .int .i64 0]]) ∧ Nt w' b0 p N b := by
  obtain ⟨hb, ⟨_, b0, p, b, he, hN, _⟩ | ⟨hne, _⟩⟩ := hp
  · rw [h] at hN
    exact ⟨hb, p, b0, b, he, hN⟩
  · rw [h] at hne; exact absurd rfl hne
set_option maxHeartbeats 4000000 in
theorem example_any (w : World) : Calls Try.prog 34 #[] w fun e w' => ∃ p b0 b, e = .returned (.pointer (some ⟨p, 0, none⟩)) ∧ Nt w' b0 p (netOf exL) b ∧ Below w.heap.size w w' := by
  have he := element_any
  have HEn : Hid (∀ (k : Nat) (n a b : ByteArray) (w : World), Calls Try.prog 33 #[.int .u8 (k : Int), .string n, .string a, .string b] w fun e w' => e = .returned (.agg #[.int .u8 (k : Int), .string n, .string a, .string b, .string ⟨#[]⟩, .string ⟨#[]⟩, .float .f64 4607182418800017408, .int .i64 0]) ∧ Below w.heap.size w w') := he
  clear he
  go_enter Try.func34, Try.ntmps34
  go_wp2_with fail
  refine (HEn.out 5 _ _ _ _).mono ?_
  rintro e1 w1 ⟨rfl, b1⟩
  go_wp2_with fail
  refine (HEn.out 1 _ _ _ _).mono ?_
  rintro e2 w2 ⟨rfl, b2⟩
  go_wp2_with fail
  refine (HEn.out 3 _ _ _ _).mono ?_
  rintro e3 w3 ⟨rfl, b3⟩
  go_wp2_with fail
  refine (HEn.out 1 _ _ _ _).mono ?_
  rintro e4 w4 ⟨rfl, b4⟩
  go_wp2_with fail
  refine (HEn.out 4 _ _ _ _).mono ?_
  rintro e5 w5 ⟨rfl, b5⟩
  go_wp2_with fail
  refine (HEn.out 1 _ _ _ _).mono ?_
  rintro e6 w6 ⟨rfl, b6⟩
  go_wp2_with fail
  refine (HEn.out 1 _ _ _ _).mono ?_
  rintro e7 w7 ⟨rfl, b7⟩
  have B7 : Below w.heap.size w w7 := b1.trans ((b2.mono b1.size).trans ((b3.mono (Nat.le_trans b1.size b2.size)).trans ((b4.mono (Nat.le_trans b1.size (Nat.le_trans b2.size b3.size))).trans ((b5.mono (Nat.le_trans b1.size (Nat.le_trans b2.size (Nat.le_trans b3.size b4.size)))).trans ((b6.mono (Nat.le_trans b1.size (Nat.le_trans b2.size (Nat.le_trans b3.size (Nat.le_trans b4.size b5.size))))).trans (b7.mono (Nat.le_trans b1.size (Nat.le_trans b2.size (Nat.le_trans b3.size (Nat.le_trans b4.size (Nat.le_trans b5.size b6.size)))))))))))
  have hof := netOf_any _ _ exL (rdE_lit w7 exL (by decide)) (fun x hx => ok_ex x (memL hx))
  have HB7 : Hid _ := B7
  clear b1 b2 b3 b4 b5 b6 b7 HEn B7
  go_wp2_with fail
  refine hof.mono ?_
  rintro e8 w8 hp8
  obtain ⟨b8, p, b0, b, rfl, hN8⟩ := of_yes of_ex hp8
  have HN8 : Hid (Nt w8 b0 p (netOf exL) b ∧ Below w.heap.size w w8) := ⟨hN8, HB7.out.trans (((Below.refl _ w7).alloc (Nat.le_refl _) _).trans (b8.mono (by simp)) |>.mono HB7.out.size)⟩
  clear hof hp8 b8 hN8
  go_wp2_with fail
  go_ret
  exact ⟨p, b0, b, rfl, HN8.out.1.below ((Below.refl _ w8).alloc (Nat.le_refl _) _), HN8.out.2.alloc HN8.out.2.size _⟩

end Go.Proofs.Ytdlecihkjokeiaa
