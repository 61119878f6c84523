/-
  Several texts in one: Qa Qap Qb Qc Qd Qe Qf Qr Ql Qm.
-/
import Derived.Test.YtmpkcioeodlbcaaGreatDoorK02
import Derived.Test.YtmpkcioeodlbcaaGreatDoorK14
import Derived.Lib.Mul64
import Derived.Laws.Bits64b
import Derived.Laws.Externs
import Derived.Deep.RegionWith
import Derived.Deep.RegionHeldLaw
import Derived.Deep.AppendLies
import Derived.Lib.BitFns
namespace Go.Proofs.YtmpkcioeodlbcaaGreatDoor
open RowKit
theorem Tryz.info64 : (Tryz.prog.info? 47).map (fun i => (i.zero, i.size, i.bytes)) = some (some (.int .u64 0), 1, 8) := by kernel_rfl
/-- all blocks but those of S are as they were -/
structure Only (S : Nat → Prop) (w w' : World) : Prop where
  os : w'.os = w.os
  tape : w'.tape = w.tape
  output : w'.output = w.output
  size : w.heap.size ≤ w'.heap.size
  block : ∀ k, k < w.heap.size → ¬ S k → w'.heap[k]? = w.heap[k]?
theorem Only.refl (S : Nat → Prop) (w : World) : Only S w w := ⟨rfl, rfl, rfl, Nat.le_refl _, fun _ _ _ => rfl⟩
theorem Only.trans {S : Nat → Prop} {a b c : World} (h : Only S a b) (k : Only S b c) : Only S a c :=
  ⟨k.os.trans h.os, k.tape.trans h.tape, k.output.trans h.output, Nat.le_trans h.size k.size, fun i hi hs => (k.block i (Nat.lt_of_lt_of_le hi h.size) hs).trans (h.block i hi hs)⟩
/-- what is turned behind may be new -/
theorem Only.next {S T : Nat → Prop} {a b c : World} (h : Only S a b) (k : Only T b c) (ht : ∀ i, T i → S i ∨ a.heap.size ≤ i) : Only S a c :=
  ⟨k.os.trans h.os, k.tape.trans h.tape, k.output.trans h.output, Nat.le_trans h.size k.size, fun i hi hs => (k.block i (Nat.lt_of_lt_of_le hi h.size) (fun x => (ht i x).elim hs (fun y => by omega))).trans (h.block i hi hs)⟩
theorem Only.mono {S T : Nat → Prop} {a b : World} (h : Only S a b) (ht : ∀ i, i < a.heap.size → S i → T i) : Only T a b :=
  ⟨h.os, h.tape, h.output, h.size, fun i hi hs => h.block i hi (fun x => hs (ht i hi x))⟩
theorem Only.alloc {S : Nat → Prop} {a b : World} (h : Only S a b) (c : Obj) : Only S a (b.alloc c) :=
  ⟨h.os, h.tape, h.output, Nat.le_trans h.size (by simp), fun i hi hs => by rw [← h.block i hi hs]; exact Below.heap_alloc _ _ _ (Nat.lt_of_lt_of_le hi h.size)⟩
theorem Only.drewN {S : Nat → Prop} {a b : World} (h : Only S a b) (n : Nat) : Only S a (b.drewN n) := ⟨h.os, h.tape, h.output, h.size, h.block⟩
theorem Only.set {S : Nat → Prop} {a b : World} (h : Only S a b) (p : Addr) (x : Value) (hp : S p.block ∨ a.heap.size ≤ p.block) : Only S a (b.setCell p x) :=
  ⟨h.os, h.tape, h.output, by simpa using h.size, fun i hi hs => by rw [← h.block i hi hs]; exact Below.heap_setCell _ _ _ _ (fun e => by subst e; rcases hp with y | y; exact hs y; omega)⟩
theorem Only.below {S : Nat → Prop} {a b : World} (h : Only S a b) (B : Nat) (hB : B ≤ a.heap.size) (hs : ∀ i, S i → B ≤ i) : Below B a b :=
  ⟨h.os, h.tape, h.output, h.size, fun i hi => h.block i (by omega) (fun x => by have := hs i x; omega)⟩
theorem Only.of_below {S : Nat → Prop} {a b : World} (h : Below a.heap.size a b) : Only S a b :=
  ⟨h.os, h.tape, h.output, h.size, fun i hi _ => h.block i hi⟩
theorem Only.grown {S : Nat → Prop} {a b c : World} {r : Option Nat} (h : Only S a b) (k : b.grownBy c r) (hr : ∀ i, r = some i → S i ∨ a.heap.size ≤ i) : Only S a c :=
  ⟨k.os.trans h.os, k.tape.trans h.tape, k.output.trans h.output, Nat.le_trans h.size k.size, fun i hi hs => (k.block i (Nat.lt_of_lt_of_le hi h.size) (fun e => by rcases hr i e.symm with y | y; exact hs y; omega)).trans (h.block i hi hs)⟩
/-- words as values -/
def qv (ws : List Nat) : List Value := ws.map fun x => .int .u64 ((x : Nat) : Int)
theorem qv_len (ws : List Nat) : (qv ws).length = ws.length := by simp [qv]
theorem qv_get (ws : List Nat) (j : Nat) (hj : j < ws.length) : (qv ws)[j]? = some (.int .u64 ((ws.getD j 0 : Nat) : Int)) := by
  unfold qv; rw [List.getElem?_map]; simp [List.getD_eq_getElem?_getD, hj]
theorem qv_set (ws : List Nat) (j x : Nat) : (qv ws).set j (.int .u64 ((x : Nat) : Int)) = qv (ws.set j x) := by
  unfold qv; rw [List.map_set]
theorem qv_snoc (os : List Nat) (x : Nat) : qv os ++ [.int .u64 ((x : Nat) : Int)] = qv (os ++ [x]) := by simp [qv]
/-- a whole number in memory of its own -/
def Wh (w : World) (base : Nat) (v : Value) (z L : Nat) : Prop := ∃ ws, w.ownsRow base 47 1 v ws.length (qv ws) ∧ okQ ws ∧ trimQ ws ∧ qn ws = z ∧ ws.length ≤ L
def Ob (v : Value) : Nat → Prop := fun k => v.ownBlock = some k
theorem ownsRow_only {w w' : World} {base n : Nat} {e : TypeId} {size : Nat} {v : Value} {xs : List Value} (h : w.ownsRow base e size v n xs) {S : Nat → Prop} (ho : Only S w w') (hs : ∀ k, Ob v k → ¬ S k) : w'.ownsRow base e size v n xs := by
  refine ⟨h.1, ?_⟩
  rcases h.2 with h1 | ⟨g, cap, cur, hv, hb, hg, h3⟩
  · exact .inl h1
  · refine .inr ⟨g, cap, cur, hv, hb, ?_, h3⟩
    rw [ho.block g (Array.getElem?_eq_some_iff.1 hg).1 (hs g (by subst hv; rfl))]; exact hg
theorem Wh.only {w w' : World} {base z L : Nat} {v : Value} (h : Wh w base v z L) {S : Nat → Prop} (ho : Only S w w') (hs : ∀ k, Ob v k → ¬ S k) : Wh w' base v z L := by
  obtain ⟨ws, h1, h2⟩ := h
  exact ⟨ws, ownsRow_only h1 ho hs, h2⟩
theorem Wh.mono {w : World} {base z L L' : Nat} {v : Value} (h : Wh w base v z L) (hl : L ≤ L') : Wh w base v z L' := by
  obtain ⟨ws, h1, h2, h3, h4, h5⟩ := h
  exact ⟨ws, h1, h2, h3, h4, by omega⟩
theorem Wh.lt {w : World} {base z L k : Nat} {v : Value} (h : Wh w base v z L) (hk : Ob v k) : k < w.heap.size ∧ base ≤ k := by
  obtain ⟨ws, h1, _⟩ := h
  rcases h1.2 with ⟨hv, _⟩ | ⟨g, cap, cur, hv, hb, hg, _⟩
  · subst hv; simp [Ob, Value.ownBlock] at hk
  · subst hv; simp [Ob, Value.ownBlock] at hk; subst hk; exact ⟨(Array.getElem?_eq_some_iff.1 hg).1, hb⟩
theorem Wh.nil (w : World) (base L : Nat) : Wh w base (.slice none 0 0) 0 L := ⟨[], World.ownsRow_nil _ _ _ _, fun x hx => by simp at hx, fun h => by simp at h, rfl, Nat.zero_le _⟩

theorem maskN (a : Nat) (ha : a < 18446744073709551616) : bits .and .u64 (a : Int) 4294967295 = ((a % 4294967296 : Nat) : Int) := by
  have h := bits_and_u64_nat a 4294967295 ha (by omega)
  have e : a &&& 4294967295 = a % 4294967296 := Nat.and_two_pow_sub_one_eq_mod a 32
  rw [e] at h
  exact h
theorem divN (a : Nat) : (a : Int) / 4294967296 = ((a / 4294967296 : Nat) : Int) := by omega
theorem mulN (a b : Nat) : (a : Int) * (b : Int) = ((a * b : Nat) : Int) := (Int.natCast_mul a b).symm
theorem addN (a b : Nat) : (a : Int) + (b : Int) = ((a + b : Nat) : Int) := (Int.natCast_add a b).symm
theorem wrapN (a : Nat) (ha : a < 18446744073709551616) : IntKind.u64.wrap (a : Int) = (a : Int) := by rw [IntKind.wrap_u64]; omega
theorem wrapM (a : Nat) : IntKind.u64.wrap (a : Int) = ((a % 18446744073709551616 : Nat) : Int) := by rw [IntKind.wrap_u64]; omega
set_option maxHeartbeats 1000000 in
theorem mul64_any (x y : Nat) (hx : x < 18446744073709551616) (hy : y < 18446744073709551616) (w : World) :
    Calls Tryz.prog 230 #[.int .u64 x, .int .u64 y] w fun e w' => e = .returned (.tuple #[.int .u64 ((x * y / 18446744073709551616 : Nat) : Int), .int .u64 ((x * y % 18446744073709551616 : Nat) : Int)]) ∧ w' = w := by
  obtain ⟨bd, bt, bw, hhi⟩ := Lib.mul64_hi x y hx hy
  have ba := Lib.half_mul_le (a := x / 4294967296) (b := y / 4294967296) (by omega) (by omega)
  have bb := Lib.half_mul_le (a := x / 4294967296) (b := y % 4294967296) (by omega) (by omega)
  have bc := Lib.half_mul_le (a := x % 4294967296) (b := y / 4294967296) (by omega) (by omega)
  have ba' : x / 4294967296 * (y / 4294967296) < 18446744073709551616 := by omega
  have bb' : x / 4294967296 * (y % 4294967296) < 18446744073709551616 := by omega
  have bc' : x % 4294967296 * (y / 4294967296) < 18446744073709551616 := by omega
  have bh1 : x / 4294967296 * (y / 4294967296) + (x / 4294967296 * (y % 4294967296) + x % 4294967296 * (y % 4294967296) / 4294967296) / 4294967296 < 18446744073709551616 := by omega
  have bh : x / 4294967296 * (y / 4294967296) + (x / 4294967296 * (y % 4294967296) + x % 4294967296 * (y % 4294967296) / 4294967296) / 4294967296 + ((x / 4294967296 * (y % 4294967296) + x % 4294967296 * (y % 4294967296) / 4294967296) % 4294967296 + x % 4294967296 * (y / 4294967296)) / 4294967296 < 18446744073709551616 := by omega
  go_enter Tryz.func230, Tryz.ntmps230
  go_wp2
  simp only [maskN x hx, maskN y hy, divN, mulN, addN, wrapN _ bd, wrapN _ bb', wrapN _ bt, maskN _ bt, wrapN _ bc', wrapN _ bw, wrapN _ ba', wrapN _ bh1, wrapN _ bh, wrapM (x * y)]
  rw [hhi]
  go_ret2
  exact ⟨rfl, rfl⟩
theorem add64_any (x y : Nat) (w : World) : (callFunc 289 #[.int .u64 x, .int .u64 y, .int .u64 0]).run Tryz.prog w =
    .ok (.value (.tuple #[.int .u64 (((x + y) % 18446744073709551616 : Nat) : Int), .int .u64 (((x + y) / 18446744073709551616 : Nat) : Int)])) w := by
  rw [run_callFunc_extern Tryz.func289 (by kernel_rfl) (by kernel_rfl) (by kernel_rfl) (e := add64Entry) (by kernel_rfl), run_add64 x y 0 (by omega) (by omega) (by omega) (by omega)]
  simp only [Result.andThen]
  congr 5 <;> omega
def sub64E : Array Value → Sem Value := fun args => do
  let (x, y, b) ← Extern.MathBitsCarry.three "Sub64" args
  pure (Extern.MathBitsCarry.pair ((x + Extern.MathBitsCarry.m64 - y - b) % Extern.MathBitsCarry.m64) (if x < y + b then 1 else 0))
theorem run_sub64E {P : Program} (x y b : Nat) (hb : b ≤ 1) (w : World) :
    (sub64E #[.int .u64 x, .int .u64 y, .int .u64 b]).run P w =
      .ok (.tuple #[.int .u64 (((x + 18446744073709551616 - y - b) % 18446744073709551616 : Nat) : Int), .int .u64 ((if x < y + b then 1 else 0 : Nat) : Int)]) w := by
  have : b = 0 ∨ b = 1 := by omega
  rcases this with rfl | rfl <;> rfl
/-- the borrow -/
def bro (x y b : Nat) : Nat := if x < y + b then 1 else 0
theorem sub64_any (x y b : Nat) (hb : b ≤ 1) (w : World) : (callFunc 293 #[.int .u64 x, .int .u64 y, .int .u64 b]).run Tryz.prog w =
    .ok (.value (.tuple #[.int .u64 (((x + 18446744073709551616 - y - b) % 18446744073709551616 : Nat) : Int), .int .u64 ((bro x y b : Nat) : Int)])) w := by
  rw [run_callFunc_extern Tryz.func293 (by kernel_rfl) (by kernel_rfl) (by kernel_rfl) (e := sub64E) (by kernel_rfl), run_sub64E x y b hb]
  rfl

end Go.Proofs.YtmpkcioeodlbcaaGreatDoor
namespace Go.Proofs.YtmpkcioeodlbcaaGreatDoor
open RowKit
section
variable {P : Program} (w : World)
theorem append_new (base : Nat) (t ty e : TypeId) (i : TypeInfo) (z : Value) (bytes : Nat) (ht : P.underlying t = some (.slice e)) (hi : P.info? e = some i) (hz : i.zero = some z)
    (hsize : i.size = 1) (hby : i.bytes = bytes) (hzs : z.cells.size = 1)
    (v : Value) (n : Nat) (xs : List Value) (hown : w.ownsRow base e 1 v n xs)
    (a : Addr) (m c : Nat) (news : List Value) (hl : news.length = m * 1) (hnews : ∀ j u, news[j]? = some u → w.cell? (a.add j) = some u) (h1 : ∀ u ∈ news, u.oneCell' = true)
    (h63 : n + m ≤ maxLen) (hbytes : (n + m) * bytes ≤ 140737488355328) (hbase : base ≤ w.heap.size) :
    ∃ v' w', (Builtin.append_ #[t, t] ty #[v, .slice (some a) m c]).run P w = .ok v' w' ∧ w'.ownsRow base e 1 v' (n + m) (xs ++ news) ∧ w.grownBy w' v.ownBlock ∧ (∀ k, Ob v' k → Ob v k ∨ w.heap.size ≤ k) := by
  obtain ⟨v', w', hr, h2, h3, h4⟩ := run_append_own (P := P) w base t ty e i z 1 bytes ht hi hz hsize hby hzs (by decide) v n xs hown a m c news hl hnews h1 h63 hbytes hbase
  refine ⟨v', w', hr, h2, h3, fun k hk => ?_⟩
  rcases hown.2 with ⟨rfl, rfl⟩ | ⟨g, cap, cur, rfl, hbg, hg, hnc, hcm, hcs, htake⟩
  · have e0 : xs = [] := List.eq_nil_of_length_eq_zero (by simpa using hown.1)
    subst e0
    obtain ⟨v2, w2, hr2, k2, _⟩ := run_append_own (P := P) w w.heap.size t ty e i z 1 bytes ht hi hz hsize hby hzs (by decide) (.slice none 0 0) 0 [] (World.ownsRow_nil _ _ _ _) a m c news hl hnews h1 h63 hbytes (Nat.le_refl _)
    have q := hr.symm.trans hr2
    cases q
    exact .inr (k2.lt k hk).1
  · by_cases hroom : n + m ≤ cap
    · obtain ⟨w2, hr2, _⟩ := run_append_fits (P := P) w base t ty e i 1 ht hi hsize g n cap xs hown a m c news hl hnews h1 hroom
      have q := hr.symm.trans hr2
      cases q
      exact .inl hk
    · have hr2 := run_append_grow (P := P) w t ty e i z ht hi hz ⟨g, 0, none⟩ n cap xs (by rw [hsize]; exact hown.1) (hown.cells (g := g) rfl) a m c news (by rw [hsize]; exact hl) hnews (by omega) (by simp only [maxLen] at h63; omega) (growslice_fits (by omega) (by rw [hby]; exact hbytes))
      have q := hr.symm.trans hr2
      cases q
      simp [Ob, Value.ownBlock] at hk
      exact .inr (by omega)
theorem wpList_append_new {ops : Array Oper} {rest : List Oper} {o : Oper} {a : Act} {Q : Exit → Act → World → Prop} (hgd : o.guard = none) (s x : Operand) (t : TypeId)
    (ho : o.op = .call { callee := .builtin .append, args := #[s, x], argTypes := #[t, t] })
    (base : Nat) (e : TypeId) (i : TypeInfo) (z : Value) (bytes : Nat) (ht : P.underlying t = some (.slice e)) (hi : P.info? e = some i) (hz : i.zero = some z)
    (hsize : i.size = 1) (hby : i.bytes = bytes) (hzs : z.cells.size = 1)
    (v : Value) (n : Nat) (xs : List Value) (hs : a.eval s = v) (hown : w.ownsRow base e 1 v n xs)
    (ad : Addr) (m c : Nat) (news : List Value) (hx : a.eval x = .slice (some ad) m c) (hl : news.length = m * 1) (hnews : ∀ j u, news[j]? = some u → w.cell? (ad.add j) = some u) (h1 : ∀ u ∈ news, u.oneCell' = true)
    (h63 : n + m ≤ maxLen) (hbytes : (n + m) * bytes ≤ 140737488355328) (hbase : base ≤ w.heap.size)
    (h : ∀ v' w', w'.ownsRow base e 1 v' (n + m) (xs ++ news) → w.grownBy w' v.ownBlock → (∀ k, Ob v' k → Ob v k ∨ w.heap.size ≤ k) → wpList P ops Q rest (a.put o.dst v') w') : wpList P ops Q (o :: rest) a w := by
  obtain ⟨v', w', hr, h2, h3, h4⟩ := append_new (P := P) w base t o.type e i z bytes ht hi hz hsize hby hzs v n xs hown ad m c news hl hnews h1 h63 hbytes hbase
  refine wpList_plain hgd fun K hK => ?_
  unfold Oper.wp execOp
  simp only [ho, resolve, invoke, builtin, Sem.run_bind, Sem.run_pure, Result.andThen_ok, List.map_toArray, List.map_cons, List.map_nil, hs, hx, hr]
  exact hK _ _ (h v' w' h2 h3 h4)
end
end Go.Proofs.YtmpkcioeodlbcaaGreatDoor
namespace Go.Proofs.YtmpkcioeodlbcaaGreatDoor
open RowKit
theorem mul64_v (x f hi lo : Nat) (hx : x < 18446744073709551616) (hf : f < 18446744073709551616) (h : x * f = hi * 18446744073709551616 + lo) (hlo : lo < 18446744073709551616) (w : World) :
    Calls Tryz.prog 230 #[.int .u64 x, .int .u64 f] w fun e w' => e = .returned (.tuple #[.int .u64 hi, .int .u64 lo]) ∧ w' = w := by
  refine (mul64_any x f hx hf w).mono ?_
  rintro e w' ⟨rfl, rfl⟩
  rw [show x * f / 18446744073709551616 = hi by omega, show x * f % 18446744073709551616 = lo by omega]
  exact ⟨rfl, rfl⟩
theorem add64_v (x y c s : Nat) (h : x + y = c * 18446744073709551616 + s) (hs : s < 18446744073709551616) (w : World) : (callFunc 289 #[.int .u64 x, .int .u64 y, .int .u64 0]).run Tryz.prog w =
    .ok (.value (.tuple #[.int .u64 s, .int .u64 c])) w := by
  rw [add64_any, show (x + y) / 18446744073709551616 = c by omega, show (x + y) % 18446744073709551616 = s by omega]
theorem trim_of_ge {os : List Nat} (h : 0 < os.length → 18446744073709551616 ^ (os.length - 1) ≤ qn os) (hk : okQ os) : trimQ os := by
  intro h0 hz
  have h1 := qn_split os (os.length - 1) (by omega)
  rw [hz, List.drop_of_length_le (by omega), show qn [] = 0 from rfl, Nat.mul_zero, Nat.add_zero] at h1
  have h2 := qn_lt (okQ_take hk (os.length - 1))
  rw [List.length_take, Nat.min_eq_left (by omega)] at h2
  have := h h0
  omega
theorem qt_step {os ws : List Nat} {i m m' f x p y c : Nat} (hl : os.length = ws.length) (hi : i < ws.length) (hx : x = ws.getD i 0) (hp : x * f = p) (hc : p + m' = c * 18446744073709551616 + y) (h : qn (os.take i) + 18446744073709551616 ^ i * m' = qn (ws.take i) * f + m) :
    qn ((os.set i y).take (i + 1)) + 18446744073709551616 ^ (i + 1) * c = qn (ws.take (i + 1)) * f + m := by
  rw [qn_take_succ _ i (by simpa using by omega), qn_take_succ ws i hi, ← hx, List.take_set_of_le (Nat.le_refl _)]
  have e : (os.set i y).getD i 0 = y := by simp [List.getD_eq_getElem?_getD, hl, hi]
  rw [e, Nat.add_mul, Nat.mul_assoc, hp, Nat.pow_succ]
  generalize 18446744073709551616 ^ i = B at *
  have e2 : B * y + B * 18446744073709551616 * c = B * p + B * m' := by
    rw [← Nat.mul_add, hc, Nat.mul_add, Nat.mul_comm c, Nat.mul_assoc, Nat.add_comm]
  omega
theorem okQ_set {os : List Nat} (h : okQ os) (i y : Nat) (hy : y < 18446744073709551616) : okQ (os.set i y) := by
  intro x hx
  rcases List.mem_or_eq_of_mem_set hx with h1 | h1
  · exact h x h1
  · omega
theorem drop_set_succ (os : List Nat) (i y : Nat) : (os.set i y).drop (i + 1) = os.drop (i + 1) := by
  rw [List.drop_set, if_pos (by omega)]
theorem drop_get {os ws : List Nat} {i : Nat} (hl : os.length = ws.length) (hi : i < ws.length) (h : os.drop i = ws.drop i) : os.getD i 0 = ws.getD i 0 ∧ os.drop (i + 1) = ws.drop (i + 1) := by
  rw [List.drop_eq_getElem_cons (by omega : i < os.length), List.drop_eq_getElem_cons hi] at h
  simp only [List.cons.injEq] at h
  refine ⟨?_, h.2⟩
  simp [List.getD_eq_getElem?_getD, hl, hi, h.1]
/-- the last part of times: the carry is laid behind, or not -/
theorem qt_end {os : List Nat} {z f m m' : Nat} (hk : okQ os) (hm : m' < 18446744073709551616) (hf : 1 ≤ f) (h : qn os + 18446744073709551616 ^ os.length * m' = z * f + m) (hz : 0 < os.length → 18446744073709551616 ^ (os.length - 1) ≤ z) :
    (m' = 0 → trimQ os ∧ qn os = z * f + m) ∧ (m' ≠ 0 → trimQ (os ++ [m']) ∧ okQ (os ++ [m']) ∧ qn (os ++ [m']) = z * f + m) := by
  refine ⟨fun h0 => ?_, fun h0 => ⟨?_, okQ_append hk (fun x hx => by simp at hx; omega), ?_⟩⟩
  · subst h0
    rw [Nat.mul_zero, Nat.add_zero] at h
    refine ⟨trim_of_ge (fun h0 => ?_) hk, h⟩
    have h1 := hz h0
    have h2 : z * 1 ≤ z * f := Nat.mul_le_mul_left _ hf
    omega
  · intro _
    simp [List.getD_eq_getElem?_getD]; exact h0
  · rw [qn_append, ← h]; simp [qn]
set_option maxRecDepth 10000 in
set_option maxHeartbeats 2000000 in
theorem qtimes_any (v : Value) (base z L f m : Nat) (w : World) (hv : Wh w base v z L) (hL : L ≤ 100000) (hf : f < 18446744073709551616) (hm : m < 18446744073709551616) (hf1 : 1 ≤ f) (hbase : base ≤ w.heap.size) :
    Calls Tryz.prog 261 #[v, .int .u64 f, .int .u64 m] w fun e w' => ∃ v', e = .returned v' ∧ Wh w' base v' (z * f + m) (L + 1) ∧ Only (Ob v) w w' ∧ (∀ k, Ob v' k → Ob v k ∨ w.heap.size ≤ k) := by
  obtain ⟨ws, hown, hok, htr, hz, hl⟩ := hv
  obtain ⟨i0, hi0, hz0, hz1, hz2⟩ := info_parts3 Tryz.info64
  have HZ : Hid (0 < ws.length → 18446744073709551616 ^ (ws.length - 1) ≤ z) := fun h => by rw [← hz]; exact qn_ge htr h
  subst hz
  obtain ⟨ao, cap, hve⟩ : ∃ ao cap, v = .slice ao ws.length cap := by
    rcases hown.2 with ⟨hv, hn0⟩ | ⟨g, cap, cur, hv, hb, hg, hnc, hcm, hcs, htake⟩
    · exact ⟨none, 0, by rw [hn0]; exact hv⟩
    · exact ⟨_, _, hv⟩
  subst hve
  have hgo : ∀ k, Ob (.slice ao ws.length cap) k → ∃ g, ao = some ⟨g, 0, none⟩ ∧ k = g ∧ g < w.heap.size ∧ base ≤ g := by
    intro k hk
    rcases hown.2 with ⟨hv, hn0⟩ | ⟨g, cap, cur, hv, hb, hg, hnc, hcm, hcs, htake⟩
    · simp only [Value.slice.injEq] at hv; rw [hv.1] at hk; simp [Ob, Value.ownBlock] at hk
    · cases hv; simp [Ob, Value.ownBlock] at hk; exact ⟨g, rfl, hk.symm, (Array.getElem?_eq_some_iff.1 hg).1, hb⟩
  go_enter Tryz.func261, Tryz.ntmps261
  go_wp2
  go_loopw [2, 14] (fun mv iv wr => ∃ (i m' : Nat) (os : List Nat), mv = .int .u64 m' ∧ iv = .int .i64 i ∧ i ≤ ws.length ∧ m' < 18446744073709551616 ∧ os.length = ws.length ∧ okQ os ∧ os.drop i = ws.drop i ∧ qn (os.take i) + 18446744073709551616 ^ i * m' = qn (ws.take i) * f + m ∧ wr.ownsRow base 47 1 (.slice ao ws.length cap) ws.length (qv os) ∧ Only (Ob (.slice ao ws.length cap)) w wr ∧ wr.heap.size = w.heap.size) (fun _ iv _ => ws.length - (intOf iv).toNat)
  case atStart => exact ⟨0, m, ws, rfl, rfl, Nat.zero_le _, hm, rfl, hok, rfl, by simp [qn], hown, Only.refl _ _, rfl⟩
  case round =>
    obtain ⟨i, m', os, rfl, rfl, hi, hm', hol, hok', hdr, hnum, hown', honly, hsz'⟩ := hrel
    have hsz : Hid (wr.heap.size = w.heap.size) := hsz'
    clear hsz'
    by_cases hlt : i < ws.length
    · obtain ⟨g, rfl, hgg⟩ : ∃ g, ao = some ⟨g, 0, none⟩ ∧ g < w.heap.size := by
        rcases hown.2 with ⟨hv, hn0⟩ | ⟨g, cap, cur, hv, hb, hg, hnc, hcm, hcs, htake⟩
        · omega
        · cases hv; exact ⟨g, rfl, (Array.getElem?_eq_some_iff.1 hg).1⟩
      have hcap : ws.length ≤ cap := by
        rcases hown.2 with ⟨hv, hn0⟩ | ⟨g, cap, cur, hv, hb, hg, hnc, hcm, hcs, htake⟩
        · omega
        · cases hv; exact hnc
      obtain ⟨x, hx⟩ : ∃ x, x = ws.getD i 0 := ⟨_, rfl⟩
      obtain ⟨hox, hdr'⟩ := drop_get hol hlt hdr
      have hxk : x < 18446744073709551616 := by rw [hx]; exact okQ_getD hok i
      have hcell := hown'.cellAt i (by omega)
      have hfz := hown'.frozenAt i
      rw [qv_get _ _ (by omega), hox, ← hx] at hcell
      obtain ⟨p, hp⟩ : ∃ p, x * f = p := ⟨_, rfl⟩
      have hpb : p ≤ 18446744073709551615 * 18446744073709551615 := by rw [← hp]; exact Nat.mul_le_mul (by omega) (by omega)
      obtain ⟨hi', lo, hlo, hhl⟩ : ∃ hi' lo : Nat, lo < 18446744073709551616 ∧ p = hi' * 18446744073709551616 + lo := ⟨p / 18446744073709551616, p % 18446744073709551616, Nat.mod_lt _ (by omega), by omega⟩
      obtain ⟨c, y, hy, hcy⟩ : ∃ c y : Nat, y < 18446744073709551616 ∧ lo + m' = c * 18446744073709551616 + y := ⟨(lo + m') / 18446744073709551616, (lo + m') % 18446744073709551616, Nat.mod_lt _ (by omega), by omega⟩
      have hst := qt_step (c := hi' + c) (y := y) hol hlt hx hp (by omega) hnum
      have hsum : hi' + c < 18446744073709551616 := by omega
      have hsumI : (hi' : Int) + (c : Int) < 18446744073709551616 := by omega
      have hso := hown'.stored i (.int .u64 (y : Int))
      rw [qv_set] at hso
      have HST : Hid (qn ((os.set i y).take (i + 1)) + 18446744073709551616 ^ (i + 1) * (hi' + c) = qn (ws.take (i + 1)) * f + m) := hst
      have HSO : Hid ((wr.setCell ⟨g, i, none⟩ (.int .u64 (y : Int))).ownsRow base 47 1 (.slice (some ⟨g, 0, none⟩) ws.length cap) ws.length (qv (os.set i y))) := hso.1
      have HON : Hid (Only (Ob (.slice (some ⟨g, 0, none⟩) ws.length cap)) w wr) := honly
      have HDR : Hid ((os.set i y).drop (i + 1) = ws.drop (i + 1)) := by show _ = _; rw [drop_set_succ]; exact hdr'
      have HOK : Hid (okQ (os.set i y)) := okQ_set hok' i y hy
      have HM : Hid (x * f = hi' * 18446744073709551616 + lo) := by show _ = _; rw [hp]; exact hhl
      have HC : Hid (lo + m' = c * 18446744073709551616 + y) := hcy
      clear hst hso honly hdr hdr' hok' hnum hhl hcy hpb hp hx hox hown' hown hok htr hgo
      go_wp2_with (first
        | (go_at_call 230; (with_reducible refine (mul64_v x f hi' lo hxk hf HM.out hlo _).mono ?_); rintro e w' ⟨rfl, rfl⟩)
        | simp only [add64_v lo m' c y HC.out hy])
      go_roundw
      case rel => exact ⟨i + 1, hi' + c, os.set i y, by first | rfl | (exact congrArg (Value.int .u64) (by omega)) | (simp; omega), by go_num, hlt, hsum, by simpa using hol, HOK.out, HDR.out, HST.out, HSO.out, HON.out.set _ _ (.inl rfl), by simpa using hsz.out⟩
      case measure => simp [intOf]; omega
    · have e : i = ws.length := by omega
      subst e
      rw [List.take_of_length_le (by omega), List.take_of_length_le (by omega), ← hol] at hnum
      obtain ⟨E1, E2⟩ := qt_end hok' hm' hf1 hnum (by rw [hol]; exact HZ.out)
      by_cases hm0 : m' = 0
      · subst hm0
        have HE := E1 rfl
        clear E1 E2 hnum hdr
        go_wp2
        go_ret
        exact ⟨_, rfl, ⟨os, by rw [hol]; exact hown', hok', HE.1, HE.2, by omega⟩, honly, fun k hk => .inl hk⟩
      · have hmI : ((m' : Int) == 0) = false := by simp; omega
        obtain ⟨f1, f2, f3⟩ := E2 hm0
        clear E1 E2 hnum hdr
        go_wp2_with (first
          | (at_builtin; refine wpList_append_new _ rfl _ _ 288 rfl base 47 i0 (.int .u64 0) 8 Tryz.underlying288 hi0 hz0 hz1 hz2 rfl _ _ _ rfl (hown'.alloc _) ⟨_, 0, none⟩ 1 1 [.int .u64 (m' : Int)] rfl rfl ?c1 ?c2 ?c3 ?c4 ?c5 ?_))
        case c1 =>
          intro j u hj
          match j, hj with
          | 0, hj =>
            simp at hj; subst hj
            simp [Addr.add]
        case c2 => intro u hu; simp at hu; subst hu; rfl
        case c3 => unfold maxLen; omega
        case c4 => omega
        case c5 => have := hsz.out; simp; omega
        · intro v' w1 hown1 hgrow hfr
          have R2 : Only (Ob (.slice ao ws.length cap)) w w1 := (honly.alloc _).grown hgrow (fun i hi => .inl hi)
          have R : w1.ownsRow base 47 1 v' (os ++ [m']).length (qv (os ++ [m'])) := by
            rw [← qv_snoc]; simpa [hol] using hown1
          clear hown1 hgrow hown' hown
          go_wp2
          go_ret
          refine ⟨_, rfl, ⟨os ++ [m'], R, f2, f1, f3, by simp; omega⟩, R2, fun k hk => ?_⟩
          rcases hfr k hk with h | h
          · exact .inl h
          · have := hsz.out; exact .inr (by omega)

end Go.Proofs.YtmpkcioeodlbcaaGreatDoor
namespace Go.Proofs.YtmpkcioeodlbcaaGreatDoor
open RowKit
/-- what a list of words in memory reads as -/
def RdQ (w : World) (ao : Option Addr) (ws : List Nat) : Prop :=
  ∀ k, k < ws.length → ∃ b, ao = some ⟨b, 0, none⟩ ∧ b < w.heap.size ∧ w.cell? ⟨b, k, none⟩ = some (.int .u64 ((ws.getD k 0 : Nat) : Int))
theorem RdQ.drewN {w : World} {ao : Option Addr} {ws : List Nat} (h : RdQ w ao ws) (n : Nat) : RdQ (w.drewN n) ao ws := h
theorem own_rd {w : World} {base : Nat} {v : Value} {ws : List Nat} (h : w.ownsRow base 47 1 v ws.length (qv ws)) : ∃ ao cap, v = .slice ao ws.length cap ∧ RdQ w ao ws ∧ ws.length ≤ cap ∧ (ws.length = 0 ∨ ∃ g, ao = some ⟨g, 0, none⟩) := by
  rcases h.2 with ⟨hv, h0⟩ | ⟨g, cap, cur, hv, hb, hg, hnc, _, _, htake⟩
  · refine ⟨none, 0, by rw [h0]; exact hv, fun k hk => by omega, by omega, .inl h0⟩
  · refine ⟨some ⟨g, 0, none⟩, cap, hv, fun k hk => ⟨g, rfl, (Array.getElem?_eq_some_iff.1 hg).1, ?_⟩, hnc, .inr ⟨g, rfl⟩⟩
    subst hv
    rw [h.cellAt k (by omega), qv_get _ _ hk]
theorem cmpI_any (x y : Nat) (w : World) : Calls Tryz.prog 291 #[.int .i64 x, .int .i64 y] w fun e w' => e = .returned (.int .i64 (cmI x y)) ∧ w' = w := by
  rcases Nat.lt_trichotomy x y with h | h | h
  · have h1 : (x : Int) < y := by omega
    go_enter Tryz.func291, Tryz.ntmps291
    go_wp2
    go_ret
    exact ⟨ret1i (by unfold cmI; rw [if_pos h]), rfl⟩
  · subst h
    go_enter Tryz.func291, Tryz.ntmps291
    go_wp2
    go_ret
    exact ⟨ret1i (by unfold cmI; rw [if_neg (by omega), if_pos rfl]), rfl⟩
  · have h2 : ¬ (x : Int) < y := by omega
    have h3 : (y : Int) < x := by omega
    go_enter Tryz.func291, Tryz.ntmps291
    go_wp2
    go_ret
    exact ⟨ret1i (by unfold cmI; rw [if_neg (by omega), if_neg (by omega)]), rfl⟩
theorem cmpU_any (x y : Nat) (w : World) : Calls Tryz.prog 292 #[.int .u64 x, .int .u64 y] w fun e w' => e = .returned (.int .i64 (cmI x y)) ∧ w' = w := by
  rcases Nat.lt_trichotomy x y with h | h | h
  · have h1 : (x : Int) < y := by omega
    go_enter Tryz.func292, Tryz.ntmps292
    go_wp2
    go_ret
    exact ⟨ret1i (by unfold cmI; rw [if_pos h]), rfl⟩
  · subst h
    go_enter Tryz.func292, Tryz.ntmps292
    go_wp2
    go_ret
    exact ⟨ret1i (by unfold cmI; rw [if_neg (by omega), if_pos rfl]), rfl⟩
  · have h2 : ¬ (x : Int) < y := by omega
    have h3 : (y : Int) < x := by omega
    go_enter Tryz.func292, Tryz.ntmps292
    go_wp2
    go_ret
    exact ⟨ret1i (by unfold cmI; rw [if_neg (by omega), if_neg (by omega)]), rfl⟩
set_option maxHeartbeats 1000000 in
theorem qcmp_any {va vb : Value} {ba bb x y La Lb : Nat} (w : World) (ha : Wh w ba va x La) (hb : Wh w bb vb y Lb) (hLa : La ≤ 200000) (_ : Lb ≤ 200000) :
    Calls Tryz.prog 265 #[va, vb] w fun e w' => ∃ n, e = .returned (.int .i64 (cmI x y)) ∧ w' = w.drewN n := by
  obtain ⟨us, hoa, ka, ta, nu, hla⟩ := ha
  obtain ⟨vs, hob, kb, tb, nv, hlb⟩ := hb
  obtain ⟨ao, ca, rfl, hc, hca, _⟩ := own_rd hoa
  obtain ⟨bo, cb, rfl, hd, hcb, _⟩ := own_rd hob
  subst nu
  subst nv
  clear hoa hob
  rcases Nat.lt_trichotomy us.length vs.length with hl | hl | hl
  · have h1 := cmq_len ka tb hl
    have hr : Hid (cmI (qn us) (qn vs) = cmI us.length vs.length) := by show _ = _; unfold cmI; rw [if_pos h1, if_pos hl]
    have ht : ((us.length : Int) == (vs.length : Int)) = false := by simp; omega
    clear hc hd ka kb ta tb h1
    go_enter Tryz.func265, Tryz.ntmps265
    go_wp2_with (go_at_call 291; (with_reducible refine (cmpI_any _ _ _).mono ?_); rintro e w' ⟨rfl, rfl⟩)
    go_ret
    exact ⟨0, ret1i hr.out.symm, rfl⟩
  · go_enter Tryz.func265, Tryz.ntmps265
    go_wp2_with (go_at_call 291; (with_reducible refine (cmpI_any _ _ _).mono ?_); rintro e w' ⟨rfl, rfl⟩)
    go_loopw [5] (fun iv wr => ∃ (i n : Nat), i ≤ us.length ∧ iv = .int .i64 ((i : Int) - 1) ∧ us.drop i = vs.drop i ∧ wr = w.drewN n) (fun iv _ => (intOf iv + 1).toNat)
    case atStart =>
      refine ⟨us.length, 0, Nat.le_refl _, ?_, by rw [List.drop_length, hl, List.drop_length], rfl⟩
      first | rfl | (simp; omega) | (go_num)
    case round =>
      obtain ⟨i, n, hi, rfl, hdr, hw⟩ := hrel
      have HD : Hid (us.drop i = vs.drop i) := hdr
      have HW : Hid (wr = w.drewN n) := hw
      have hc' : RdQ wr ao us := by rw [hw]; exact hc.drewN n
      have hd' : RdQ wr bo vs := by rw [hw]; exact hd.drewN n
      clear hdr hw hc hd
      by_cases h0 : 0 < i
      · obtain ⟨b1, rfl, hb1, hc1⟩ := hc' (i - 1) (by omega)
        obtain ⟨b2, rfl, hb2, hc2⟩ := hd' (i - 1) (by omega)
        obtain ⟨x, hx⟩ : ∃ x, x = us.getD (i - 1) 0 := ⟨_, rfl⟩
        obtain ⟨y, hy⟩ : ∃ y, y = vs.getD (i - 1) 0 := ⟨_, rfl⟩
        rw [← hx] at hc1
        rw [← hy] at hc2
        have HX : Hid (x = us.getD (i - 1) 0) := hx
        have HY : Hid (y = vs.getD (i - 1) 0) := hy
        have ei : (i : Int) - 1 = ((i - 1 : Nat) : Int) := by omega
        obtain ⟨j, hj⟩ : ∃ j, i = j + 1 := ⟨i - 1, by omega⟩
        subst hj
        simp only [Nat.add_sub_cancel] at hc1 hc2 HX HY ei
        clear hx hy hc' hd'
        rw [ei]
        clear ei
        rcases Nat.lt_trichotomy x y with hxy | hxy | hxy
        · have hr : Hid (cmI (qn us) (qn vs) = cmI x y) := by
            show cmI _ _ = _; unfold cmI; rw [if_pos (cmq_at ka hl (by omega) HD.out (by rw [← HX.out, ← HY.out]; exact hxy)), if_pos hxy]
          have hne : ((x : Int) == (y : Int)) = false := by simp; omega
          clear ka kb ta tb
          go_wp2
          go_quiet (fail)
          go_wp2
          go_region_with (go_at_call 292; (with_reducible refine (cmpU_any _ _ _).mono ?_); rintro e w' ⟨rfl, rfl⟩)
          all_goals (go_wp2; go_ret; exact ⟨n + nq + 1, ret1i hr.out.symm, by rw [HW.out, World.drewN_drewN]; rfl⟩)
        · subst hxy
          have hdn : us.drop j = vs.drop j := by
            rw [List.drop_eq_getElem_cons (by omega : j < us.length), List.drop_eq_getElem_cons (by omega : j < vs.length), HD.out]
            congr 1
            have h1 := HX.out
            have h2 := HY.out
            rw [List.getD_eq_getElem?_getD] at h1 h2
            simp [show j < us.length by omega] at h1
            simp [show j < vs.length by omega] at h2
            rw [← h1, ← h2]
          have HN : Hid (us.drop j = vs.drop j) := hdn
          clear hdn ka kb ta tb
          go_wp2
          go_quiet (fail)
          go_wp2
          go_roundw
          case rel => exact ⟨j, _, by omega, rfl, HN.out, by rw [HW.out, World.drewN_drewN]⟩
          case measure => simp [intOf]
        · have hr : Hid (cmI (qn us) (qn vs) = cmI x y) := by
            have := cmq_at kb hl.symm (by omega) HD.out.symm (by rw [← HX.out, ← HY.out]; exact hxy)
            show cmI _ _ = _; unfold cmI; rw [if_neg (by omega), if_neg (by omega), if_neg (by omega), if_neg (by omega)]
          have hne : ((x : Int) == (y : Int)) = false := by simp; omega
          clear ka kb ta tb
          go_wp2
          go_quiet (fail)
          go_wp2
          go_region_with (go_at_call 292; (with_reducible refine (cmpU_any _ _ _).mono ?_); rintro e w' ⟨rfl, rfl⟩)
          all_goals (go_wp2; go_ret; exact ⟨n + nq + 1, ret1i hr.out.symm, by rw [HW.out, World.drewN_drewN]; rfl⟩)
      · have e : i = 0 := by omega
        subst e
        have hr : Hid (cmI (qn us) (qn vs) = 0) := by
          have := HD.out
          simp at this
          show cmI _ _ = _; rw [this]; unfold cmI; rw [if_neg (by omega), if_pos rfl]
        clear ka kb ta tb hc' hd'
        go_wp2
        go_ret
        exact ⟨n, ret1i hr.out.symm, HW.out⟩
  · have h1 := cmq_len kb ta hl
    have hr : Hid (cmI (qn us) (qn vs) = cmI us.length vs.length) := by show _ = _; unfold cmI; rw [if_neg (by omega), if_neg (by omega), if_neg (by omega), if_neg (by omega)]
    have ht : ((us.length : Int) == (vs.length : Int)) = false := by simp; omega
    clear hc hd ka kb ta tb h1
    go_enter Tryz.func265, Tryz.ntmps265
    go_wp2_with (go_at_call 291; (with_reducible refine (cmpI_any _ _ _).mono ?_); rintro e w' ⟨rfl, rfl⟩)
    go_ret
    exact ⟨0, ret1i hr.out.symm, rfl⟩

end Go.Proofs.YtmpkcioeodlbcaaGreatDoor
namespace Go.Proofs.YtmpkcioeodlbcaaGreatDoor
open RowKit
theorem sub64_v (x y b d c : Nat) (h : d + y + b = x + c * 18446744073709551616) (hd : d < 18446744073709551616) (hb : b ≤ 1) (hx : x < 18446744073709551616) (hy : y < 18446744073709551616) (w : World) : (callFunc 293 #[.int .u64 x, .int .u64 y, .int .u64 b]).run Tryz.prog w =
    .ok (.value (.tuple #[.int .u64 d, .int .u64 c])) w := by
  have hc : c ≤ 1 := by omega
  have e2 : bro x y b = c := by
    unfold bro
    split <;> omega
  rw [sub64_any x y b hb, e2, show (x + 18446744073709551616 - y - b) % 18446744073709551616 = d by omega]
theorem sub64_z (x b d c : Nat) (h : d + 0 + b = x + c * 18446744073709551616) (hd : d < 18446744073709551616) (hb : b ≤ 1) (hx : x < 18446744073709551616) (w : World) : (callFunc 293 #[.int .u64 x, .int .u64 0, .int .u64 b]).run Tryz.prog w =
    .ok (.value (.tuple #[.int .u64 d, .int .u64 c])) w := sub64_v x 0 b d c h hd hb hx (by omega) w
def lenS : Value → Nat | .slice _ n _ => n | _ => 0
theorem ob_len {ao : Option Addr} {n m c d k : Nat} (h : Ob (.slice ao n c) k) : Ob (.slice ao m d) k := by
  cases ao <;> exact h
theorem own_take {w : World} {base n m : Nat} {e : TypeId} {ao : Option Addr} {cap : Nat} {xs : List Value} (h : w.ownsRow base e 1 (.slice ao n cap) n xs) (hm : m ≤ n) (h0 : 0 < n) : w.ownsRow base e 1 (.slice ao m cap) m (xs.take m) := by
  refine ⟨by rw [List.length_take, h.1]; omega, ?_⟩
  rcases h.2 with ⟨_, h1⟩ | ⟨g, cap', cur, hv, hb, hg, hnc, hcm, hcs, htake⟩
  · omega
  · cases hv
    refine .inr ⟨g, cap, cur, rfl, hb, hg, by omega, hcm, hcs, ?_⟩
    rw [← htake, List.take_take]; congr 1; omega
theorem qv_take (ws : List Nat) (m : Nat) : (qv ws).take m = qv (ws.take m) := by unfold qv; rw [List.map_take]
theorem qs_step {os us vs : List Nat} {i b x y d c : Nat} (hl : os.length = us.length) (hi : i < us.length) (hx : x = us.getD i 0) (hy : y = vs.getD i 0) (h : d + y + b = x + c * 18446744073709551616) (hn : qn (os.take i) + qn (vs.take i) = qn (us.take i) + 18446744073709551616 ^ i * b) :
    qn ((os.set i d).take (i + 1)) + qn (vs.take (i + 1)) = qn (us.take (i + 1)) + 18446744073709551616 ^ (i + 1) * c := by
  have tk : qn (vs.take (i + 1)) = qn (vs.take i) + 18446744073709551616 ^ i * y := by
    rw [hy]
    rcases Nat.lt_or_ge i vs.length with h1 | h1
    · exact qn_take_succ vs i h1
    · rw [List.take_of_length_le h1, List.take_of_length_le (by omega), List.getD_eq_getElem?_getD, List.getElem?_eq_none h1]; simp
  rw [qn_take_succ _ i (by simpa using by omega), qn_take_succ us i hi, ← hx, List.take_set_of_le (Nat.le_refl _), tk]
  have e : (os.set i d).getD i 0 = d := by simp [List.getD_eq_getElem?_getD, hl, hi]
  rw [e, Nat.pow_succ]
  generalize 18446744073709551616 ^ i = B at *
  have e2 : B * d + B * y + B * b = B * x + B * 18446744073709551616 * c := by
    rw [← Nat.mul_add, ← Nat.mul_add, h, Nat.mul_add, Nat.mul_comm c, Nat.mul_assoc]
  omega
theorem qs_len {us vs : List Nat} (ku : okQ us) (tv : trimQ vs) (h : qn vs ≤ qn us) : vs.length ≤ us.length := by
  rcases Nat.lt_or_ge us.length vs.length with h1 | h1
  · have := cmq_len ku tv h1; omega
  · exact h1
theorem qs_end {os us vs : List Nat} {b : Nat} (hl : os.length = us.length) (ko : okQ os) (h : qn vs ≤ qn us) (hv : vs.length ≤ us.length) (hn : qn (os.take us.length) + qn (vs.take us.length) = qn (us.take us.length) + 18446744073709551616 ^ us.length * b) : qn os = qn us - qn vs := by
  rw [List.take_of_length_le (by omega), List.take_of_length_le hv, List.take_of_length_le (by omega)] at hn
  have h1 := qn_lt ko
  rw [hl] at h1
  rcases Nat.eq_zero_or_pos b with h0 | h0
  · subst h0; omega
  · have : 18446744073709551616 ^ us.length * 1 ≤ 18446744073709551616 ^ us.length * b := Nat.mul_le_mul_left _ h0
    omega
set_option maxRecDepth 10000 in
set_option maxHeartbeats 2000000 in
theorem qminus_any {va vb : Value} {base bb x y La Lb : Nat} (w : World) (ha : Wh w base va x La) (hb : Wh w bb vb y Lb) (hyx : y ≤ x) (hap : ∀ k, Ob va k → ¬ Ob vb k) (hLa : La ≤ 200000) :
    Calls Tryz.prog 266 #[va, vb] w fun e w' => ∃ v', e = .returned v' ∧ Wh w' base v' (x - y) La ∧ Only (Ob va) w w' ∧ (∀ k, Ob v' k → Ob va k) := by
  obtain ⟨us, hoa, ka, ta, nu, hla⟩ := ha
  obtain ⟨vs, hob, kb, tb, nv, hlb⟩ := hb
  subst nu
  subst nv
  have hvl := qs_len ka tb hyx
  obtain ⟨ao, ca, rfl, _, hca, hsh⟩ := own_rd hoa
  obtain ⟨bo, cb, hvb, hrb, hcb, _⟩ := own_rd hob
  subst hvb
  clear hrb
  have hcm : ca ≤ maxLen := by
    rcases hoa.2 with ⟨hv, h0⟩ | ⟨g, cap, cur, hv, hb, hg, hnc, hcm, hcs, htake⟩
    · simp only [Value.slice.injEq] at hv; rw [hv.2.2]; unfold maxLen; omega
    · cases hv; exact hcm
  go_enter Tryz.func266, Tryz.ntmps266
  go_wp2
  go_loopw [5, 10] (fun bv iv wr => ∃ (i b : Nat) (os : List Nat), bv = .int .u64 b ∧ iv = .int .i64 i ∧ i ≤ us.length ∧ b ≤ 1 ∧ os.length = us.length ∧ okQ os ∧ os.drop i = us.drop i ∧ qn (os.take i) + qn (vs.take i) = qn (us.take i) + 18446744073709551616 ^ i * b ∧ wr.ownsRow base 47 1 (.slice ao us.length ca) us.length (qv os) ∧ Only (Ob (.slice ao us.length ca)) w wr) (fun _ iv _ => us.length - (intOf iv).toNat)
  case atStart => exact ⟨0, 0, us, rfl, rfl, Nat.zero_le _, by omega, rfl, ka, rfl, by simp [qn], hoa, Only.refl _ _⟩
  case round =>
    obtain ⟨i, b, os, rfl, rfl, hi, hb1, hol, hok', hdr, hnum, hown', honly⟩ := hrel
    by_cases hlt : i < us.length
    · obtain ⟨g, rfl⟩ : ∃ g, ao = some ⟨g, 0, none⟩ := by
        rcases hsh with h | h
        · omega
        · exact h
      have hob' := ownsRow_only hob honly (fun k hk hk2 => hap k hk2 hk)
      obtain ⟨bo', cb', hvb, hrb, _⟩ := own_rd hob'
      simp only [Value.slice.injEq] at hvb
      obtain ⟨rfl, _, rfl⟩ := hvb
      obtain ⟨x, hx⟩ : ∃ x, x = us.getD i 0 := ⟨_, rfl⟩
      obtain ⟨y, hy⟩ : ∃ y, y = vs.getD i 0 := ⟨_, rfl⟩
      obtain ⟨hox, hdr'⟩ := drop_get hol hlt hdr
      have hxk : x < 18446744073709551616 := by rw [hx]; exact okQ_getD ka i
      have hyk : y < 18446744073709551616 := by rw [hy]; exact okQ_getD kb i
      have hcell := hown'.cellAt i (by omega)
      have hfz := hown'.frozenAt i
      rw [qv_get _ _ (by omega), hox, ← hx] at hcell
      obtain ⟨d, c, hd, hc1, hdc⟩ : ∃ d c : Nat, d < 18446744073709551616 ∧ c ≤ 1 ∧ d + y + b = x + c * 18446744073709551616 := by
        by_cases h : x < y + b
        · exact ⟨x + 18446744073709551616 - y - b, 1, by omega, by omega, by omega⟩
        · exact ⟨x - y - b, 0, by omega, by omega, by omega⟩
      have hst := qs_step hol hlt hx hy hdc hnum
      have hso := hown'.stored i (.int .u64 (d : Int))
      rw [qv_set] at hso
      have HST : Hid (qn ((os.set i d).take (i + 1)) + qn (vs.take (i + 1)) = qn (us.take (i + 1)) + 18446744073709551616 ^ (i + 1) * c) := hst
      have HSO : Hid ((wr.setCell ⟨g, i, none⟩ (.int .u64 (d : Int))).ownsRow base 47 1 (.slice (some ⟨g, 0, none⟩) us.length ca) us.length (qv (os.set i d))) := hso.1
      have HON : Hid (Only (Ob (.slice (some ⟨g, 0, none⟩) us.length ca)) w wr) := honly
      have HDR : Hid ((os.set i d).drop (i + 1) = us.drop (i + 1)) := by show _ = _; rw [drop_set_succ]; exact hdr'
      have HOK : Hid (okQ (os.set i d)) := okQ_set hok' i d hd
      have HC : Hid (d + y + b = x + c * 18446744073709551616) := hdc
      clear hst hso honly hdr hdr' hok' hnum hdc hx hox hown' hoa hob ka kb ta tb hap hob' hyx hsh
      by_cases hlv : i < vs.length
      · obtain ⟨b2, rfl, hb2, hc2⟩ := hrb i hlv
        rw [← hy] at hc2
        clear hrb hy
        go_wp2_with (first | simp only [sub64_v x y b d c HC.out hd hb1 hxk hyk])
        go_roundw
        case rel => exact ⟨i + 1, c, os.set i d, rfl, by go_num, hlt, hc1, by simpa using hol, HOK.out, HDR.out, HST.out, HSO.out, HON.out.set _ _ (.inl rfl)⟩
        case measure => simp [intOf]; omega
      · have hy0 : y = 0 := by rw [hy, List.getD_eq_getElem?_getD, List.getElem?_eq_none (by omega)]; rfl
        subst hy0
        clear hrb hy
        go_wp2_with (first | simp only [sub64_z x b d c HC.out hd hb1 hxk])
        go_roundw
        case rel => exact ⟨i + 1, c, os.set i d, rfl, by go_num, hlt, hc1, by simpa using hol, HOK.out, HDR.out, HST.out, HSO.out, HON.out.set _ _ (.inl rfl)⟩
        case measure => simp [intOf]; omega
    · have e : i = us.length := by omega
      subst e
      have hq := qs_end hol hok' hyx hvl hnum
      clear hnum hdr hob tb kb ta hap hoa
      go_wp2
      go_loopw [0] (fun sv wq => ∃ m : Nat, sv = .slice ao m ca ∧ m ≤ us.length ∧ (∀ j, m ≤ j → os.getD j 0 = 0) ∧ wq = wr) (fun sv _ => lenS sv)
      case atStart => exact ⟨us.length, rfl, Nat.le_refl _, fun j hj => by rw [List.getD_eq_getElem?_getD, List.getElem?_eq_none (by omega)]; rfl, rfl⟩
      case round =>
        obtain ⟨m, rfl, hm, hz, rfl⟩ := hrel
        have HQ : Hid (qn os = qn us - qn vs) := hq
        have HZ : Hid (∀ j, m ≤ j → os.getD j 0 = 0) := hz
        have HON : Hid (Only (Ob (.slice ao us.length ca)) w wr) := honly
        clear hq hz honly
        by_cases h0 : 0 < m
        · obtain ⟨g, rfl⟩ : ∃ g, ao = some ⟨g, 0, none⟩ := by
            rcases hsh with h | h
            · omega
            · exact h
          have hcell := hown'.cellAt (m - 1) (by omega)
          rw [qv_get _ _ (by omega)] at hcell
          obtain ⟨x, hx⟩ : ∃ x, x = os.getD (m - 1) 0 := ⟨_, rfl⟩
          rw [← hx] at hcell
          have HX : Hid (x = os.getD (m - 1) 0) := hx
          have ei : (m : Int) - 1 = ((m - 1 : Nat) : Int) := by omega
          clear hx
          by_cases hx0 : x = 0
          · subst hx0
            go_wp2
            go_roundw
            case rel =>
              refine ⟨m - 1, ?_, by omega, ?_, by first | rfl | trivial⟩
              · first | rfl | (simp; omega) | (simp)
              · intro j hj
                by_cases hjm : j = m - 1
                · rw [hjm]; exact HX.out.symm
                · exact HZ.out j (by omega)
            case measure => simp [lenS]; omega
          · have hxi : ((x : Int) == 0) = false := by simp; omega
            go_wp2
            go_ret
            have hr := own_take hown' hm (by omega)
            rw [qv_take] at hr
            have hl2 : (os.take m).length = m := by rw [List.length_take]; omega
            refine ⟨_, rfl, ⟨os.take m, by rw [hl2]; exact hr, okQ_take hok' m, ?_, by rw [qn_take_of HZ.out]; exact HQ.out, by omega⟩, HON.out, fun k hk => hk⟩
            intro _
            rw [hl2]
            have := HX.out
            simp only [List.getD_eq_getElem?_getD, List.getElem?_take, show m - 1 < m by omega, if_true]
            rw [← List.getD_eq_getElem?_getD, ← this]; exact hx0
        · have e : m = 0 := by omega
          subst e
          have hz0 : qn os = 0 := qn_zero (fun j => HZ.out j (Nat.zero_le _))
          have hq0 : qn us - qn vs = 0 := by rw [← HQ.out]; exact hz0
          have HW : Hid (Wh wr base (.slice ao 0 ca) (qn us - qn vs) La) := by
            rcases Nat.eq_zero_or_pos us.length with h | h
            · refine ⟨[], ?_, fun x hx => by simp at hx, fun h => by simp at h, by rw [hq0]; rfl, Nat.zero_le _⟩
              have e0 : os = [] := List.length_eq_zero_iff.1 (by omega)
              subst e0
              rw [h] at hown'
              exact hown'
            · have hr := own_take (m := 0) hown' (Nat.zero_le _) h
              exact ⟨[], hr, fun x hx => by simp at hx, fun h => by simp at h, by rw [hq0]; rfl, Nat.zero_le _⟩
          clear hown' hz0 hq0
          go_wp2
          go_ret
          exact ⟨_, rfl, HW.out, HON.out, fun k hk => ob_len hk⟩

end Go.Proofs.YtmpkcioeodlbcaaGreatDoor
namespace Go.Proofs.YtmpkcioeodlbcaaGreatDoor
open RowKit
theorem Only.tail {v v' : Value} {a b c : World} (h : Only (Ob v) a b) (hv : ∀ k, Ob v' k → Ob v k ∨ a.heap.size ≤ k) (h2 : Only (Ob v') b c) : Only (Ob v) a c := h.next h2 hv
theorem ob_tail {v v' v'' : Value} {a b : World} (h : a.heap.size ≤ b.heap.size) (hv : ∀ k, Ob v' k → Ob v k ∨ a.heap.size ≤ k) (h2 : ∀ k, Ob v'' k → Ob v' k ∨ b.heap.size ≤ k) : ∀ k, Ob v'' k → Ob v k ∨ a.heap.size ≤ k := by
  intro k hk
  rcases h2 k hk with h3 | h3
  · exact hv k h3
  · exact .inr (by omega)
theorem qtimesI {v : Value} {base z L : Nat} (f m : Nat) {F M : Int} {w : World} (hv : Wh w base v z L) (hF : F = ((f : Nat) : Int)) (hM : M = ((m : Nat) : Int)) (hL : L ≤ 100000) (hf : f < 18446744073709551616) (hm : m < 18446744073709551616) (hf1 : 1 ≤ f) (hbase : base ≤ w.heap.size) :
    Calls Tryz.prog 261 #[v, .int .u64 F, .int .u64 M] w fun e w' => ∃ v', e = .returned v' ∧ Wh w' base v' (z * f + m) (L + 1) ∧ Only (Ob v) w w' ∧ (∀ k, Ob v' k → Ob v k ∨ w.heap.size ≤ k) := by
  subst hF hM
  exact qtimes_any v base z L f m w hv hL hf hm hf1 hbase
theorem ten19 (z n : Nat) (h : 19 ≤ n) : (z * 10000000000000000000 + 0) * 10 ^ (n - 19) = z * 10 ^ n := by
  obtain ⟨k, rfl⟩ : ∃ k, n = k + 19 := ⟨n - 19, by omega⟩
  rw [Nat.add_sub_cancel, Nat.add_zero, Nat.mul_assoc, Nat.pow_add, Nat.mul_comm (10 ^ k)]
theorem ten1 (z n : Nat) (h : 1 ≤ n) : (z * 10 + 0) * 10 ^ (n - 1) = z * 10 ^ n := by
  obtain ⟨k, rfl⟩ : ∃ k, n = k + 1 := ⟨n - 1, by omega⟩
  rw [Nat.add_sub_cancel, Nat.add_zero, Nat.mul_assoc, Nat.pow_succ, Nat.mul_comm (10 ^ k)]
set_option maxHeartbeats 1000000 in
theorem qtens_any (v : Value) (base z L n : Nat) (w : World) (hv : Wh w base v z L) (hL : L + n ≤ 100000) (hbase : base ≤ w.heap.size) :
    Calls Tryz.prog 242 #[v, .int .i64 n] w fun e w' => ∃ v', e = .returned v' ∧ Wh w' base v' (z * 10 ^ n) (L + n) ∧ Only (Ob v) w w' ∧ (∀ k, Ob v' k → Ob v k ∨ w.heap.size ≤ k) := by
  go_enter Tryz.func242, Tryz.ntmps242
  go_wp2
  go_loopw [0, 1] (fun vv nv wr => ∃ (n' z' L' : Nat) (v0 : Value), v0 = vv ∧ nv = .int .i64 n' ∧ Wh wr base v0 z' L' ∧ z' * 10 ^ n' = z * 10 ^ n ∧ L' + n' ≤ L + n ∧ Only (Ob v) w wr ∧ (∀ k, Ob v0 k → Ob v k ∨ w.heap.size ≤ k)) (fun _ nv _ => (intOf nv).toNat)
  case atStart => exact ⟨n, z, L, v, rfl, rfl, hv, rfl, Nat.le_refl _, Only.refl _ _, fun k hk => .inl hk⟩
  case round =>
    clear hv
    obtain ⟨n', z', L', v0, rfl, rfl, hv, hz, hl, ho, hf⟩ := hrel
    have hsz := ho.size
    by_cases h19 : 19 ≤ n'
    · have h19I : (19 : Int) ≤ n' := by omega
      go_wp2_with (go_at_call 261; (with_reducible refine (qtimesI 10000000000000000000 0 hv (by omega) (by omega) (by omega) (by omega) (by omega) (by omega) (by omega)).mono ?_); rintro e w1 ⟨v1, rfl, h1, h2, h3⟩)
      go_roundw
      case rel => exact ⟨n' - 19, z' * 10000000000000000000 + 0, L' + 1, v1, rfl, congrArg (Value.int .i64) (by omega), h1, by rw [ten19 z' n' h19]; exact hz, by omega, ho.tail hf h2, ob_tail hsz hf h3⟩
      case measure => simp [intOf]; omega
    · have h19I : ¬ (19 : Int) ≤ n' := by omega
      go_wp2
      go_loopw [0, 1] (fun vv nv wr => ∃ (n' z' L' : Nat) (v0 : Value), v0 = vv ∧ nv = .int .i64 n' ∧ Wh wr base v0 z' L' ∧ z' * 10 ^ n' = z * 10 ^ n ∧ L' + n' ≤ L + n ∧ Only (Ob v) w wr ∧ (∀ k, Ob v0 k → Ob v k ∨ w.heap.size ≤ k)) (fun _ nv _ => (intOf nv).toNat)
      case atStart => exact ⟨n', z', L', v0, rfl, rfl, hv, hz, hl, ho, hf⟩
      case round =>
        clear hv hz hl ho hf hsz h19 h19I
        obtain ⟨n', z', L', v0, rfl, rfl, hv, hz, hl, ho, hf⟩ := hrel
        have hsz := ho.size
        by_cases h1 : 1 ≤ n'
        · have h1I : (0 : Int) < n' := by omega
          go_wp2_with (go_at_call 261; (with_reducible refine (qtimesI 10 0 hv (by omega) (by omega) (by omega) (by omega) (by omega) (by omega) (by omega)).mono ?_); rintro e w1 ⟨v1, rfl, h1', h2, h3⟩)
          go_roundw
          case rel => exact ⟨n' - 1, z' * 10 + 0, L' + 1, v1, rfl, congrArg (Value.int .i64) (by omega), h1', by rw [ten1 z' n' h1]; exact hz, by omega, ho.tail hf h2, ob_tail hsz hf h3⟩
          case measure => simp [intOf]; omega
        · have e : n' = 0 := by omega
          subst e
          rw [Nat.pow_zero, Nat.mul_one] at hz
          subst hz
          go_wp2
          go_ret
          exact ⟨_, rfl, hv.mono (by omega), ho, hf⟩

end Go.Proofs.YtmpkcioeodlbcaaGreatDoor
namespace Go.Proofs.YtmpkcioeodlbcaaGreatDoor
open RowKit
theorem run_make64 (q : Nat) (hq : q ≤ 100000) (w : World) : (Instr.makeSlice 288 (.int .i64 (q : Int)) (.int .i64 (q : Int))).run Tryz.prog w = .ok (.slice (some ⟨w.heap.size, 0, none⟩) q q) (w.alloc (.cells (madeCells #[.int .u64 0] q) 47)) := by
  obtain ⟨i0, hi0, hz0, hz1, hz2⟩ := info_parts3 Tryz.info64
  have h := run_make (P := Tryz.prog) w 288 47 i0 (.int .u64 0) Tryz.underlying288 hi0 hz0 .i64 .i64 q q (by omega) (Int.le_refl _) (by rw [hz2]; omega) (by omega)
  simp only [Int.toNat_natCast, hz1, Nat.mul_one] at h
  exact h
theorem Only.undrew {S : Nat → Prop} {a b : World} (h : Only S a.drew b) : Only S a b := ⟨h.os, h.tape, h.output, h.size, h.block⟩
theorem wrap_i64n (q : Nat) (h : q < 9223372036854775808) : IntKind.i64.wrap (q : Int) = (q : Int) := by rw [IntKind.wrap_i64]; omega
theorem made_q (q : Nat) : (madeCells #[.int .u64 0] q).toList = qv (List.replicate q 0) := by
  unfold qv
  apply List.ext_getElem?
  intro i
  simp only [madeCells, Array.toList_map, List.getElem?_map, Array.toList_range, List.getElem?_replicate]
  by_cases h : i < q
  · simp [h, Nat.mod_one]
  · simp [h]
theorem two_wrap {r : Nat} (h : r < 64) : IntKind.u64.wrap (2 ^ r) = (((2 ^ r : Nat)) : Int) := by
  have h1 : 2 ^ r < 2 ^ 64 := Nat.pow_lt_pow_right (by decide) h
  rw [IntKind.wrap_u64, Int.natCast_pow]
  have h2 : ((2 : Int) ^ r) = ((2 ^ r : Nat) : Int) := by rw [Int.natCast_pow]; rfl
  show (2 : Int) ^ r % 18446744073709551616 = 2 ^ r
  rw [h2]
  generalize 2 ^ r = x at *
  have : (2 : Nat) ^ 64 = 18446744073709551616 := by decide
  omega
theorem wh_alloc {w : World} {base z L : Nat} {v : Value} (h : Wh w base v z L) (o : Obj) : Wh (w.alloc o) base v z L := by
  obtain ⟨ws, h1, h2⟩ := h
  exact ⟨ws, h1.alloc o, h2⟩
theorem wh_drew {w : World} {base z L : Nat} {v : Value} (h : Wh w base v z L) : Wh w.drew base v z L := h
theorem own_made_Qf (w : World) (q base : Nat) (hq : q ≤ 100000) (hb : base ≤ w.heap.size) : (w.alloc (.cells (madeCells #[.int .u64 0] q) 47)).ownsRow base 47 1 (.slice (some ⟨w.heap.size, 0, none⟩) q q) q (qv (List.replicate q 0)) := by
  rw [← made_q]
  exact World.ownsRow_lit w _ q hb (by unfold maxLen; omega) (by simp [madeCells])
theorem qn_noughts (q : Nat) : qn (List.replicate q 0) = 0 := qn_zero (fun j => by simp [List.getD_eq_getElem?_getD, List.getElem?_replicate]; split <;> rfl)
/-- the words behind noughts -/
theorem twos_wh {w : World} {base q r z n : Nat} {v : Value} {ws : List Nat} (hw : w.ownsRow base 47 1 v (q + ws.length) (qv (List.replicate q 0) ++ qv ws)) (ok : okQ ws) (tr : trimQ ws) (hz : qn ws = z * 2 ^ r + 0) (hz0 : 0 < z) (hn : n = 64 * q + r) (L : Nat) (hl : ws.length ≤ L + 1) : Wh w base v (z * 2 ^ n) (L + n / 64 + 1) := by
  have e : qv (List.replicate q 0) ++ qv ws = qv (List.replicate q 0 ++ ws) := by simp [qv]
  have hl2 : (List.replicate q 0 ++ ws).length = q + ws.length := by simp
  have hp : 0 < z * 2 ^ r := Nat.mul_pos hz0 (Nat.two_pow_pos r)
  have hne : ws.length ≠ 0 := by
    intro h0
    have := (qn_pos tr).2 h0
    omega
  refine ⟨List.replicate q 0 ++ ws, by rw [hl2, ← e]; exact hw, okQ_append (fun x hx => by simp at hx; omega) ok, ?_, ?_, by rw [hl2]; omega⟩
  · intro _
    have h1 := tr (by omega)
    rw [hl2, List.getD_eq_getElem?_getD, List.getElem?_append_right (by simp; omega)]
    rw [List.getD_eq_getElem?_getD] at h1
    simpa [show q + ws.length - 1 - q = ws.length - 1 by omega] using h1
  · rw [qn_append, qn_noughts, hz, hn, List.length_replicate, Nat.zero_add, Nat.add_zero, Nat.pow_add, Nat.pow_mul, show (2 : Nat) ^ 64 = 18446744073709551616 by decide, Nat.mul_left_comm]
theorem qtimesS {v : Value} {base z L : Nat} (f : Nat) {F : Int} {w : World} (hv : Wh w base v z L) (hF : F = ((f : Nat) : Int)) (hL : L ≤ 100000) (hf : f < 18446744073709551616) (hf1 : 1 ≤ f) (hz : 0 < z) (hbase : base ≤ w.heap.size) :
    Calls Tryz.prog 261 #[v, .int .u64 F, .int .u64 0] w fun e w' => ∃ g c ws, e = .returned (.slice (some ⟨g, 0, none⟩) ws.length c) ∧ w'.ownsRow base 47 1 (.slice (some ⟨g, 0, none⟩) ws.length c) ws.length (qv ws) ∧ okQ ws ∧ trimQ ws ∧ qn ws = z * f + 0 ∧ ws.length ≤ L + 1 ∧ 0 < ws.length ∧ Only (Ob v) w w' := by
  refine (qtimesI f 0 hv hF (by omega) hL hf (by omega) hf1 hbase).mono ?_
  rintro e w' ⟨v', rfl, ⟨ws, h1, h2, h3, h4, h5⟩, h6, h7⟩
  have hp : 0 < z * f := Nat.mul_pos hz hf1
  have hne : ws.length ≠ 0 := by
    intro h0
    have := (qn_pos h3).2 h0
    omega
  obtain ⟨ao, cap, rfl, _, _, hs⟩ := own_rd h1
  rcases hs with hs | ⟨g, rfl⟩
  · omega
  · exact ⟨g, cap, ws, rfl, h1, h2, h3, h4, h5, by omega, h6⟩
theorem step_app64 {w : World} {ops : Array Oper} {o : Oper} {a : Act} {K : Act → World → Prop} {Q : Exit → Act → World → Prop} {E : Prop} (hgd : o.guard = none) (s x : Operand)
    (ho : o.op = .call { callee := .builtin .append, args := #[s, x], argTypes := #[288, 288] })
    (base q gm g1 c1 : Nat) (ws : List Nat) (hs : a.eval s = .slice (some ⟨gm, 0, none⟩) q q) (hown : w.ownsRow base 47 1 (.slice (some ⟨gm, 0, none⟩) q q) q (qv (List.replicate q 0)))
    (hx : a.eval x = .slice (some ⟨g1, 0, none⟩) ws.length c1) (how : w.ownsRow base 47 1 (.slice (some ⟨g1, 0, none⟩) ws.length c1) ws.length (qv ws)) (hp : 0 < ws.length) (hl : q + ws.length ≤ 200000) (hbase : base ≤ w.heap.size)
    (h : ∀ g cap w', w'.ownsRow base 47 1 (.slice (some ⟨g, 0, none⟩) (q + ws.length) cap) (q + ws.length) (qv (List.replicate q 0) ++ qv ws) → w.grownBy w' (some gm) → (gm = g ∨ g = w.heap.size) → g < w'.heap.size → K (a.put o.dst (.slice (some ⟨g, 0, none⟩) (q + ws.length) cap)) w') :
    if Region.wanted o (yielded ops a.tmps) = true then Oper.wp Tryz.prog o a w K Q else E := by
  obtain ⟨i0, hi0, hz0, hz1, hz2⟩ := info_parts3 Tryz.info64
  refine step_append_lies w hgd s x 288 ho base 47 i0 (.int .u64 0) 1 8 Tryz.underlying288 hi0 hz0 hz1 hz2 rfl (by decide) _ q _ hs hown ⟨g1, 0, none⟩ ws.length c1 (qv ws) hx (by rw [qv_len, Nat.mul_one]) (how.cells (g := g1) rfl) (fun u hu => ?_) hp (by unfold maxLen; omega) (by omega) hbase _ rfl (fun g cap w' h1 h2 h3 h4 => h g cap w' h1 h2 (h3.imp (fun e => by simpa [Value.ownBlock] using e) id) h4)
  unfold qv at hu
  obtain ⟨y, _, rfl⟩ := List.mem_map.1 hu
  rfl
set_option maxRecDepth 100000 in
set_option maxHeartbeats 1000000 in
theorem qtwos_any (v : Value) (base z L n : Nat) (w : World) (hv : Wh w base v z L) (hz : 0 < z) (hL : L ≤ 50000) (hn : n ≤ 1000000) (hbase : base ≤ w.heap.size) :
    Calls Tryz.prog 264 #[v, .int .i64 n] w fun e w' => ∃ v', e = .returned v' ∧ Wh w' base v' (z * 2 ^ n) (L + n / 64 + 1) ∧ Only (Ob v) w w' ∧ (∀ k, Ob v' k → w.heap.size ≤ k) := by
  obtain ⟨q, r, hr, hqr⟩ : ∃ q r : Nat, r < 64 ∧ n = 64 * q + r := ⟨n / 64, n % 64, Nat.mod_lt _ (by omega), by omega⟩
  have hmk := run_make64 q (by omega)
  rw [← wrap_i64n q (by omega)] at hmk
  have hq : (n : Int).tdiv 64 = (q : Int) := by rw [Int.tdiv_eq_ediv_of_nonneg (by omega)]; omega
  have hm : (n : Int).tmod 64 = (r : Int) := by rw [Int.tmod_eq_emod_of_nonneg (by omega)]; omega
  have HN : Hid (n = 64 * q + r) := hqr
  have hq5 : q ≤ 20000 := by omega
  have h2r : 2 ^ r < 18446744073709551616 := Nat.lt_of_lt_of_le (Nat.pow_lt_pow_right (by decide) hr) (by decide)
  have hlt : ∀ k, Ob v k → k < w.heap.size := fun k hk => (hv.lt hk).1
  clear hqr
  go_enter Tryz.func264, Tryz.ntmps264
  go_wp2_with fail
  go_region_held_law (fun _ => True) (trivial) (first
    | (go_at_call 261; (with_reducible refine (qtimesS (2 ^ r) (wh_drew (wh_alloc hv _)) (two_wrap hr) (by omega) h2r Nat.one_le_two_pow hz (by simp; omega)).mono ?_); rintro e w1 ⟨g1, c1, ws, rfl, h1, h2, h3, h4, h5, h6, h7⟩; have h7 := h7.undrew; have OM := ownsRow_only (own_made_Qf w q base (by omega) hbase) h7 (fun k hk hk2 => by have := hlt k hk2; simp [Ob, Value.ownBlock] at hk; omega); have ON : Only (Ob v) w w1 := ((Only.refl _ w).alloc _).trans h7)
    | (go_at_call 261; (with_reducible refine (qtimesS (2 ^ r) (wh_drew hv) (two_wrap hr) (by omega) h2r Nat.one_le_two_pow hz (by simp; omega)).mono ?_); rintro e w1 ⟨g1, c1, ws, rfl, h1, h2, h3, h4, h5, h6, h7⟩; have ON : Only (Ob v) w w1 := h7.undrew; have hs1 := ON.size)
    | (refine step_app64 (by rfl) _ _ (by rfl) base q w.heap.size g1 c1 ws (by rfl) OM (by rfl) h1 h6 (by omega) (Nat.le_trans hbase ON.size) ?_; intro g cap w2 k1 k2 k3 k4; have ON2 : Only (Ob v) w w2 := ON.grown k2 (fun i hi => .inr (by simp at hi; omega)); have hgn : w.heap.size ≤ g := by (have := ON.size; omega))
    | (refine step_app64 (by rfl) _ _ (by rfl) base q w1.heap.size g1 c1 ws (by rfl) (own_made_Qf w1 q base (by omega) (Nat.le_trans hbase ON.size)) (by rfl) (h1.alloc _) h6 (by omega) (by simp; omega) ?_; intro g cap w2 k1 k2 k3 k4; have ON2 : Only (Ob v) w w2 := (ON.alloc _).grown k2 (fun i hi => .inr (by simp at hi; omega)); have hgn : w.heap.size ≤ g := by (have := ON.size; simp at k3; omega))
    )
  all_goals
    go_wp2
    go_ret
    refine ⟨.slice (some ⟨g, 0, none⟩) (q + ws.length) cap, ?_, twos_wh k1 h2 h3 h4 hz HN.out L h5, ON2, fun k hk => ?_⟩
    · first | rfl | (simp)
    simp [Ob, Value.ownBlock] at hk
    omega

end Go.Proofs.YtmpkcioeodlbcaaGreatDoor
namespace Go.Proofs.YtmpkcioeodlbcaaGreatDoor
open RowKit
theorem hp_drew (w : World) : w.drew.heap = w.heap := rfl
theorem hp_drewN (w : World) (n : Nat) : (w.drewN n).heap = w.heap := rfl
theorem Wh.hp {w w' : World} {base z L : Nat} {v : Value} (h : Wh w base v z L) (e : w'.heap = w.heap) : Wh w' base v z L := by
  obtain ⟨ws, h1, h2⟩ := h
  refine ⟨ws, ?_, h2⟩
  unfold World.ownsRow at h1 ⊢
  rw [e]; exact h1
theorem Only.hp {S : Nat → Prop} {a a' b : World} (h : Only S a' b) (e : a'.heap = a.heap) (e1 : a'.os = a.os) (e2 : a'.tape = a.tape) (e3 : a'.output = a.output) : Only S a b :=
  ⟨h.os.trans e1, h.tape.trans e2, h.output.trans e3, e ▸ h.size, e ▸ h.block⟩
/-- a struct in memory that begins with two whole numbers -/
structure Rt (w : World) (p : Nat) (e : TypeId) (cur : Array Value) (base : Nat) (vr vo : Value) (r o L : Nat) : Prop where
  blk : w.heap[p]? = some (.cells cur e (0, 0))
  c0 : cur[0]? = some vr
  c1 : cur[1]? = some vo
  wr : Wh w base vr r L
  wo : Wh w base vo o L
  ap : ∀ k, Ob vr k → ¬ Ob vo k
  pr : ¬ Ob vr p
  po : ¬ Ob vo p
  bs : base ≤ w.heap.size
theorem Rt.cell0 {w : World} {p base r o L : Nat} {e : TypeId} {cur : Array Value} {vr vo : Value} (h : Rt w p e cur base vr vo r o L) : w.cell? ⟨p, 0, none⟩ = some vr := by
  rw [cell_of_row w p 0 cur e (0, 0) h.blk, ← h.c0]
theorem Rt.cell1 {w : World} {p base r o L : Nat} {e : TypeId} {cur : Array Value} {vr vo : Value} (h : Rt w p e cur base vr vo r o L) : w.cell? ⟨p, 1, none⟩ = some vo := by
  rw [cell_of_row w p 1 cur e (0, 0) h.blk, ← h.c1]
theorem Rt.froz {w : World} {p base r o L : Nat} {e : TypeId} {cur : Array Value} {vr vo : Value} (h : Rt w p e cur base vr vo r o L) (j : Nat) : w.frozen? ⟨p, j, none⟩ = false := frozen_of_row w p j cur e h.blk
theorem Rt.plt {w : World} {p base r o L : Nat} {e : TypeId} {cur : Array Value} {vr vo : Value} (h : Rt w p e cur base vr vo r o L) : p < w.heap.size := (Array.getElem?_eq_some_iff.1 h.blk).1
theorem Rt.drewN {w : World} {p base r o L : Nat} {e : TypeId} {cur : Array Value} {vr vo : Value} (h : Rt w p e cur base vr vo r o L) (n : Nat) : Rt (w.drewN n) p e cur base vr vo r o L := ⟨h.blk, h.c0, h.c1, h.wr, h.wo, h.ap, h.pr, h.po, h.bs⟩
theorem Wh.fit {w w' : World} {base base' z z' L L' : Nat} {v v' : Value} (h : Wh w base v z L) (h' : Wh w' base' v' z' L') (hz : z ≤ z') : Wh w base v z L' := by
  obtain ⟨ws, h1, h2, h3, h4, h5⟩ := h
  obtain ⟨ws', k1, k2, k3, k4, k5⟩ := h'
  exact ⟨ws, h1, h2, h3, h4, Nat.le_trans (qs_len k2 h3 (by omega)) k5⟩
theorem Wh.sl {w : World} {base z L : Nat} {v : Value} (h : Wh w base v z L) : ∃ ao n c, v = .slice ao n c := by
  obtain ⟨ws, h1, _⟩ := h
  obtain ⟨ao, c, e, _⟩ := own_rd h1
  exact ⟨ao, _, c, e⟩
/-- the rest is turned: all else is as it was -/
theorem Rt.put {w w1 : World} {p base r o L r' L' : Nat} {e : TypeId} {cur : Array Value} {vr vo vr' : Value} (h : Rt w p e cur base vr vo r o L) (ho : Only (Ob vr) w w1) (hv : Wh w1 base vr' r' L') (hf : ∀ k, Ob vr' k → Ob vr k ∨ w.heap.size ≤ k) (hL : L ≤ L') :
    Rt (w1.setCell ⟨p, 0, none⟩ vr') p e (cur.setIfInBounds 0 vr') base vr' vo r' o L' ∧ Only (fun k => Ob vr k ∨ k = p) w (w1.setCell ⟨p, 0, none⟩ vr') := by
  have hb1 : w1.heap[p]? = some (.cells cur e (0, 0)) := by rw [ho.block p h.plt h.pr]; exact h.blk
  have hpr' : ¬ Ob vr' p := fun hk => by
    rcases hf p hk with h1 | h1
    · exact h.pr h1
    · have := h.plt; omega
  have os : Only (fun k => k = p) w1 (w1.setCell ⟨p, 0, none⟩ vr') := (Only.refl _ _).set _ _ (.inl rfl)
  refine ⟨⟨heap_setCell_same w1 p 0 cur e vr' hb1, ?_, ?_, hv.only os (fun k hk hk2 => hpr' (hk2 ▸ hk)), ((h.wo.only ho (fun k hk hk2 => h.ap k hk2 hk)).only os (fun k hk hk2 => h.po (hk2 ▸ hk))).mono hL, fun k hk hk2 => ?_, hpr', h.po, ?_⟩, (ho.mono (fun i _ hi => .inl hi)).next os (fun i hi => .inl (.inr hi))⟩
  · have hs : 0 < cur.size := (Array.getElem?_eq_some_iff.1 h.c0).1
    simp [hs]
  · rw [Array.getElem?_setIfInBounds, if_neg (by decide)]; exact h.c1
  · rcases hf k hk with h1 | h1
    · exact h.ap k h1 hk2
    · have := (h.wo.lt hk2).1; omega
  · have := ho.size
    have := h.bs
    simp; omega
theorem setSet (cur : Array Value) (a b : Value) : (cur.setIfInBounds 0 a).setIfInBounds 0 b = cur.setIfInBounds 0 b := by
  apply Array.ext'
  simp
theorem next_step {r b o d : Nat} (h : o ≤ r * b - d * o) (hd : d * o ≤ r * b) : (d + 1) * o ≤ r * b ∧ r * b - d * o - o = r * b - (d + 1) * o := by
  rw [Nat.add_mul]; omega
theorem next_end {r b o d : Nat} (h : r * b - d * o < o) (hd : d * o ≤ r * b) : r * b / o = d ∧ r * b % o = r * b - d * o := by
  have ho : 0 < o := by omega
  have e : r * b = (r * b - d * o) + d * o := by omega
  constructor
  · rw [e, Nat.add_mul_div_right _ _ ho, Nat.div_eq_of_lt h, Nat.zero_add]
  · rw [e, Nat.add_mul_mod_self_right, Nat.mod_eq_of_lt h]; omega
theorem next_lt {r b o d : Nat} (hr : r < o) (hd : d * o ≤ r * b) (hb : 0 < b) : d < b := by
  rcases Nat.lt_or_ge d b with h | h
  · exact h
  · exfalso
    have h1 : b * o ≤ d * o := Nat.mul_le_mul_right _ h
    have h2 : r * b < o * b := Nat.mul_lt_mul_of_pos_right hr hb
    rw [Nat.mul_comm o b] at h2
    omega
theorem cmI_ge {x y : Nat} : (0 ≤ cmI x y) ↔ y ≤ x := by unfold cmI; split <;> (try split) <;> omega
set_option maxRecDepth 10000 in
set_option maxHeartbeats 1000000 in
theorem qnext_any {w : World} {p base r o L b : Nat} {e : TypeId} {cur : Array Value} {vr vo : Value} {B : Int} (h : Rt w p e cur base vr vo r o L) (hr : r < o) (hB : B = ((b : Nat) : Int)) (hb : 1 ≤ b) (hb2 : b ≤ 100) (hL : L ≤ 90000) :
    Calls Tryz.prog 244 #[.pointer (some ⟨p, 0, none⟩), .int .u64 B] w fun e' w' => ∃ dd : Nat, e' = .returned (.int .u64 dd) ∧ dd = r * b / o ∧ ∃ vr' : Value, Rt w' p e (cur.setIfInBounds 0 vr') base vr' vo (r * b % o) o L ∧ Only (fun k => Ob vr k ∨ k = p) w w' ∧ (∀ k, Ob vr' k → Ob vr k ∨ w.heap.size ≤ k) := by
  subst hB
  have hc0 := h.cell0
  have hf1 : ∀ w1, Only (Ob vr) w w1 → w1.frozen? ⟨p, 0, none⟩ = false ∧ ∃ u, w1.cell? ⟨p, 0, none⟩ = some u := fun w1 ho => by
    have hb1 : w1.heap[p]? = some (.cells cur e (0, 0)) := by rw [ho.block p h.plt h.pr]; exact h.blk
    exact ⟨frozen_of_row w1 p 0 cur e hb1, vr, by rw [cell_of_row w1 p 0 cur e (0, 0) hb1]; exact h.c0⟩
  go_enter Tryz.func244, Tryz.ntmps244
  go_wp2_with (go_at_call 261; (with_reducible refine (qtimesI b 0 h.wr rfl (by omega) (by omega) (by omega) (by omega) hb h.bs).mono ?_); rintro e1 w1 ⟨v1, rfl, k1, k2, k3⟩; obtain ⟨kf, u, kc⟩ := hf1 w1 k2; obtain ⟨a1, n1, c1, rfl⟩ := k1.sl)
  obtain ⟨R1, O1⟩ := h.put k2 k1 k3 (Nat.le_succ L)
  rw [Nat.add_zero] at R1
  have hplt := h.plt
  clear kf kc hc0 hf1 k1 k2
  go_loopw [5] (fun dv wq => ∃ (d : Nat) (v0 : Value), dv = .int .u64 d ∧ Rt wq p e (cur.setIfInBounds 0 v0) base v0 vo (r * b - d * o) o (L + 1) ∧ d * o ≤ r * b ∧ Only (fun k => Ob vr k ∨ k = p) w wq ∧ (∀ k, Ob v0 k → Ob vr k ∨ w.heap.size ≤ k)) (fun dv _ => r * b / o - (intOf dv).toNat)
  case atStart => exact ⟨0, _, rfl, by simpa using R1, by omega, O1, k3⟩
  case round =>
    clear R1 O1 k3
    obtain ⟨d, v0, rfl, R, hd, hO, hf⟩ := hrel
    have hdb := next_lt hr hd hb
    have c0 := R.cell0
    have c1 := R.cell1
    have fz := R.froz 0
    by_cases hge : o ≤ r * b - d * o
    · have hcmp : 0 ≤ cmI (r * b - d * o) o := cmI_ge.2 hge
      obtain ⟨s1, s2⟩ := next_step hge hd
      have HS : Hid ((d + 1) * o ≤ r * b ∧ r * b - d * o - o = r * b - (d + 1) * o) := ⟨s1, s2⟩
      have HR : Hid (Rt wr p e (cur.setIfInBounds 0 v0) base v0 vo (r * b - d * o) o (L + 1)) := R
      have HO : Hid (Only (fun k => Ob vr k ∨ k = p) w wr) := hO
      have HF : Hid (∀ k, Ob v0 k → Ob vr k ∨ w.heap.size ≤ k) := hf
      generalize hx : cmI (r * b - d * o) o = x at hcmp
      have HX : Hid (cmI (r * b - d * o) o = x) := hx
      have hf2 : ∀ w1, Only (Ob v0) wr w1 → w1.frozen? ⟨p, 0, none⟩ = false ∧ ∃ u, w1.cell? ⟨p, 0, none⟩ = some u := fun w1 ho => by
        have hb1 : w1.heap[p]? = some (.cells (cur.setIfInBounds 0 v0) e (0, 0)) := by rw [ho.block p R.plt R.pr]; exact R.blk
        exact ⟨frozen_of_row w1 p 0 _ e hb1, v0, by rw [cell_of_row w1 p 0 _ e (0, 0) hb1]; exact R.c0⟩
      clear hx s1 s2 hO hf
      go_wp2_with fail
      go_region_with (go_at_call 265; (with_reducible refine (qcmp_any _ (R.wr.hp (by first | exact hp_drew _ | exact hp_drewN _ _)) (R.wo.hp (by first | exact hp_drew _ | exact hp_drewN _ _)) (by omega) (by omega)).mono ?_); rintro e1 w1 ⟨m1, rfl, rfl⟩; rw [HX.out])
      all_goals
        go_wp2_with fail
        go_region_with (go_at_call 266; (with_reducible refine (qminus_any _ (HR.out.wr.hp (by first | exact hp_drew _ | exact hp_drewN _ _)) (HR.out.wo.hp (by first | exact hp_drew _ | exact hp_drewN _ _)) hge HR.out.ap (by omega)).mono ?_); rintro e1 w1 ⟨v2, rfl, j1, j2, j3⟩; obtain ⟨kf2, u2, kc2⟩ := hf2 w1 (j2.hp rfl rfl rfl rfl); obtain ⟨a2, n2, c2, rfl⟩ := j1.sl)
      all_goals
        go_wp2
        go_roundw
        case rel =>
          obtain ⟨R2, O2⟩ := HR.out.put (j2.hp rfl rfl rfl rfl) j1 (fun k hk => .inl (j3 k hk)) (Nat.le_refl _)
          rw [setSet, HS.out.2] at R2
          refine ⟨d + 1, _, congrArg (Value.int .u64) (by omega), R2, HS.out.1, HO.out.next O2 (fun i hi => ?_), fun k hk => HF.out k (j3 k hk)⟩
          rcases hi with hi | hi
          · exact (HF.out i hi).imp .inl id
          · exact .inl (.inr hi)
        case measure =>
          have hq : d + 1 ≤ r * b / o := (Nat.le_div_iff_mul_le (by omega)).2 HS.out.1
          generalize r * b / o = q at *
          simp [intOf]
          omega
    · have hcmp : ¬ 0 ≤ cmI (r * b - d * o) o := fun h => hge (cmI_ge.1 h)
      have E : Hid (r * b / o = d ∧ r * b % o = r * b - d * o) := next_end (by omega) hd
      have HR : Hid (Rt wr p e (cur.setIfInBounds 0 v0) base v0 vo (r * b - d * o) o (L + 1)) := R
      generalize hx : cmI (r * b - d * o) o = x at hcmp
      have HX : Hid (cmI (r * b - d * o) o = x) := hx
      clear hx
      go_wp2_with fail
      go_region_with (go_at_call 265; (with_reducible refine (qcmp_any _ (R.wr.hp (by first | exact hp_drew _ | exact hp_drewN _ _)) (R.wo.hp (by first | exact hp_drew _ | exact hp_drewN _ _)) (by omega) (by omega)).mono ?_); rintro e1 w1 ⟨n1, rfl, rfl⟩; rw [HX.out])
      all_goals
        go_wp2
        go_ret
        exact ⟨d, rfl, E.out.1.symm, v0, by rw [E.out.2]; exact ⟨HR.out.blk, HR.out.c0, HR.out.c1, HR.out.wr.fit h.wo (by omega), HR.out.wo.fit h.wo (Nat.le_refl _), HR.out.ap, HR.out.pr, HR.out.po, HR.out.bs⟩, hO.drewN _, hf⟩

end Go.Proofs.YtmpkcioeodlbcaaGreatDoor
namespace Go.Proofs.YtmpkcioeodlbcaaGreatDoor
open RowKit
theorem fold_tab : ({ data := (([0, 1, 2, 2, 3, 3, 3, 3, 4, 4, 4, 4, 4, 4, 4, 4, 5, 5, 5, 5, 5, 5, 5, 5, 5, 5, 5, 5, 5, 5, 5, 5, 6, 6, 6, 6, 6, 6, 6, 6, 6, 6, 6, 6, 6, 6, 6, 6, 6, 6, 6, 6, 6, 6, 6, 6, 6, 6, 6, 6, 6, 6, 6, 6].append [7, 7, 7, 7, 7, 7, 7, 7, 7, 7, 7, 7, 7, 7, 7, 7, 7, 7, 7, 7, 7, 7, 7, 7, 7, 7, 7, 7, 7, 7, 7, 7, 7, 7, 7, 7, 7, 7, 7, 7, 7, 7, 7, 7, 7, 7, 7, 7, 7, 7, 7, 7, 7, 7, 7, 7, 7, 7, 7, 7, 7, 7, 7, 7]).append ([8, 8, 8, 8, 8, 8, 8, 8, 8, 8, 8, 8, 8, 8, 8, 8, 8, 8, 8, 8, 8, 8, 8, 8, 8, 8, 8, 8, 8, 8, 8, 8, 8, 8, 8, 8, 8, 8, 8, 8, 8, 8, 8, 8, 8, 8, 8, 8, 8, 8, 8, 8, 8, 8, 8, 8, 8, 8, 8, 8, 8, 8, 8, 8].append [8, 8, 8, 8, 8, 8, 8, 8, 8, 8, 8, 8, 8, 8, 8, 8, 8, 8, 8, 8, 8, 8, 8, 8, 8, 8, 8, 8, 8, 8, 8, 8, 8, 8, 8, 8, 8, 8, 8, 8, 8, 8, 8, 8, 8, 8, 8, 8, 8, 8, 8, 8, 8, 8, 8, 8, 8, 8, 8, 8, 8, 8, 8, 8])).toArray } : ByteArray) = Lib.len8tab := by kernel_rfl
theorem bitLen_nbits : ∀ x : Nat, x < 18446744073709551616 → Lib.bitLen x = nbits x := by
  intro x
  induction x using Nat.strongRecOn with
  | ind x ih =>
    intro hx
    rcases Nat.eq_zero_or_pos x with h | h
    · subst h; rw [nbits_zero]; rfl
    · rw [Lib.bitLen_half x (by omega) hx, nbits_pos h, ih (x / 2) (by omega) (by omega)]
theorem tab_size : (Lib.len8tab.size : Int) = 256 := by rw [Lib.len8tab_size]; rfl
theorem tab_get (y : Int) (h : y.toNat < Lib.len8tab.size) (h0 : 0 ≤ y) (h1 : y ≤ 255) : ((Lib.len8tab[y.toNat]'h).toNat : Int) = (Lib.bitLen y.toNat : Int) ∧ Lib.bitLen y.toNat ≤ 8 := by
  refine ⟨?_, Lib.bitLen_le8' y h0 h1⟩
  rw [← Lib.len8_of y h0 h1]
  unfold Lib.len8
  rw [getElem?_pos Lib.len8tab y.toNat h]
  rfl
theorem len_fin (x : Int) (k : Nat) (K y : Int) (h : y.toNat < Lib.len8tab.size) (hx0 : 0 ≤ x) (hx : x ≤ 18446744073709551615) (hk : k ≤ 56) (hK : K = (k : Int)) (hy : y.toNat = x.toNat / 2 ^ k) (h0 : 0 ≤ y) (h1 : y ≤ 255) (hp : 2 ^ k ≤ x.toNat) :
    wrap64 (K + wrap64 ((Lib.len8tab[y.toNat]'h).toNat : Int)) = (Lib.bitLen x.toNat : Int) := by
  obtain ⟨e, l⟩ := tab_get y h h0 h1
  have e3 := Lib.bitLen_shift k x.toNat hp (by omega)
  rw [← hy] at e3
  have e5 : ∀ n : Int, 0 ≤ n → n ≤ 100 → wrap64 n = n := fun n h0 h1 => by unfold wrap64; omega
  rw [e, e5 (Lib.bitLen y.toNat : Int) (by omega) (by omega), hK, e5 ((k : Int) + (Lib.bitLen y.toNat : Int)) (by omega) (by omega), e3]
  omega
theorem len_fin0 (x : Int) (h : x.toNat < Lib.len8tab.size) (h0 : 0 ≤ x) (h1 : x ≤ 255) :
    wrap64 ((Lib.len8tab[x.toNat]'h).toNat : Int) = (Lib.bitLen x.toNat : Int) ∧ wrap64 (wrap64 ((Lib.len8tab[x.toNat]'h).toNat : Int)) = (Lib.bitLen x.toNat : Int) := by
  obtain ⟨e, l⟩ := tab_get x h h0 h1
  have e5 : ∀ n : Int, 0 ≤ n → n ≤ 100 → wrap64 n = n := fun n h0 h1 => by unfold wrap64; omega
  rw [e, e5 (Lib.bitLen x.toNat : Int) (by omega) (by omega), e5 (Lib.bitLen x.toNat : Int) (by omega) (by omega)]
  exact ⟨rfl, rfl⟩
set_option maxRecDepth 20000 in
set_option maxHeartbeats 1000000 in
theorem len64_I (x : Int) (w : World) (h0 : 0 ≤ x) (h1 : x ≤ 18446744073709551615) :
    Calls Tryz.prog 290 #[.int .u64 x] w fun e w' => e = .returned (.int .i64 (Lib.bitLen x.toNat)) ∧ w' = w := by
  have hs := tab_size
  go_enter Tryz.func290, Tryz.ntmps290
  simp only [fold_tab]
  go_wp2
  all_goals (try (exfalso; omega))
  all_goals (go_ret; refine ⟨congrArg Ending.returned (congrArg (Value.int IntKind.i64) ?_), rfl⟩)
  all_goals first
    | exact len_fin x 56 _ _ _ h0 h1 (by decide) rfl (by omega) (by omega) (by omega) (by omega)
    | exact len_fin x 48 _ _ _ h0 h1 (by decide) rfl (by omega) (by omega) (by omega) (by omega)
    | exact len_fin x 40 _ _ _ h0 h1 (by decide) rfl (by omega) (by omega) (by omega) (by omega)
    | exact len_fin x 32 _ _ _ h0 h1 (by decide) rfl (by omega) (by omega) (by omega) (by omega)
    | exact len_fin x 24 _ _ _ h0 h1 (by decide) rfl (by omega) (by omega) (by omega) (by omega)
    | exact len_fin x 16 _ _ _ h0 h1 (by decide) rfl (by omega) (by omega) (by omega) (by omega)
    | exact len_fin x 8 _ _ _ h0 h1 (by decide) rfl (by omega) (by omega) (by omega) (by omega)
    | exact (len_fin0 x _ (by omega) (by omega)).1
    | exact (len_fin0 x _ (by omega) (by omega)).2
theorem len64_any (x : Nat) (hx : x < 18446744073709551616) (w : World) :
    Calls Tryz.prog 290 #[.int .u64 x] w fun e w' => e = .returned (.int .i64 (nbits x)) ∧ w' = w := by
  refine (len64_I (x : Int) w (by omega) (by omega)).mono ?_
  rintro e w' ⟨rfl, rfl⟩
  rw [Int.toNat_natCast, bitLen_nbits x hx]
  exact ⟨rfl, rfl⟩

end Go.Proofs.YtmpkcioeodlbcaaGreatDoor
namespace Go.Proofs.YtmpkcioeodlbcaaGreatDoor
open RowKit
theorem pow64 (n : Nat) : (18446744073709551616 : Nat) ^ n = 2 ^ (64 * n) := by rw [Nat.pow_mul]
theorem nbits_q {us : List Nat} {n u : Nat} (ka : okQ us) (hn : us.length = n + 1) (hu : u = us.getD n 0) (h0 : u ≠ 0) : nbits (qn us) = 64 * n + nbits u := by
  have h1 := qn_split us n (by omega)
  rw [List.drop_of_length_le (by omega), ← hu, show qn [] = 0 from rfl, Nat.mul_zero, Nat.add_zero] at h1
  have h2 := qn_lt (okQ_take ka n)
  rw [List.length_take, Nat.min_eq_left (by omega)] at h2
  rw [h1]
  rw [pow64] at h2 ⊢
  have h3 := nbits_lt u
  have h4 := nbits_ge (m := u) (by omega)
  generalize qn (us.take n) = t at *
  apply nbits_eq
  · rw [Nat.pow_add]
    have : 2 ^ (64 * n) * 2 ^ nbits u ≤ 2 ^ (64 * n) * (2 * u) := Nat.mul_le_mul_left _ h4
    rw [Nat.mul_left_comm] at this
    omega
  · rw [Nat.pow_add]
    have : 2 ^ (64 * n) * (u + 1) ≤ 2 ^ (64 * n) * 2 ^ nbits u := Nat.mul_le_mul_left _ h3
    rw [Nat.mul_succ] at this
    omega
set_option maxHeartbeats 1000000 in
theorem qlen_any {v : Value} {base z L : Nat} (w : World) (hv : Wh w base v z L) (hz : 0 < z) (hL : L ≤ 200000) :
    Calls Tryz.prog 263 #[v] w fun e w' => ∃ n, e = .returned (.int .i64 (nbits z)) ∧ w' = w.drewN n := by
  obtain ⟨us, hoa, ka, ta, nu, hla⟩ := hv
  subst nu
  obtain ⟨ao, ca, rfl, hc, hca, hsh⟩ := own_rd hoa
  have hne : us.length ≠ 0 := fun h => by have := (qn_pos ta).2 h; omega
  obtain ⟨n, hn⟩ : ∃ n, us.length = n + 1 := ⟨us.length - 1, by omega⟩
  obtain ⟨u, hu⟩ : ∃ u, u = us.getD n 0 := ⟨_, rfl⟩
  have hu0 : u ≠ 0 := by have := ta (by omega); rw [hn, Nat.add_sub_cancel, ← hu] at this; exact this
  have hnb := nbits_q ka hn hu hu0
  have huk : u < 18446744073709551616 := by rw [hu]; exact okQ_getD ka n
  obtain ⟨g, rfl, hg, hcell⟩ := hc n (by omega)
  rw [← hu] at hcell
  have hnu : nbits u ≤ 64 := nbits_le (by omega)
  obtain ⟨nb, hnbe⟩ : ∃ nb, nb = nbits u := ⟨_, rfl⟩
  rw [← hnbe] at hnb hnu
  have HNB : Hid (nbits (qn us) = 64 * n + nb) := hnb
  have hlI : (us.length : Int) = (n : Int) + 1 := by omega
  have hn2 : n ≤ 200000 := by omega
  rw [hn]
  clear hnb hoa ta ka hc hsh hu hlI hn hne hz
  have HU : Hid (nb = nbits u) := hnbe
  clear hnbe
  have hwr : wrap64 (n : Int) = (n : Int) := by unfold wrap64; omega
  go_enter Tryz.func263, Tryz.ntmps263
  go_wp2_with (go_at_call 290; (with_reducible refine (len64_any u huk _).mono ?_); rintro e w' ⟨rfl, rfl⟩)
  go_ret
  refine ⟨0, congrArg Ending.returned (congrArg (Value.int .i64) ?_), rfl⟩
  rw [HNB.out, ← HU.out]
  have e5 : ∀ x : Int, 0 ≤ x → x ≤ 100000000 → wrap64 x = x := fun x h0 h1 => by unfold wrap64; omega
  rw [e5 ((n : Int) * 64 + (nb : Int)) (by omega) (by omega)]
  omega

end Go.Proofs.YtmpkcioeodlbcaaGreatDoor
