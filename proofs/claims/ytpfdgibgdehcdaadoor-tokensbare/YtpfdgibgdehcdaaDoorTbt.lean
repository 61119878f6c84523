/-
  The text that TokensBare writes, line by line.
-/
import Derived.Test.YtpfdgibgdehcdaaDoorTbh
import Derived.Test.YtpfdgibgdehcdaaDoorTbr
namespace Go.Proofs.YtpfdgibgdehcdaaDoor
open RowKit

theorem brz_rpl (u : ByteArray) : brz u = 9 :: 32 :: rpl 32 [32, 13, 32] u.data.toList := rfl
/-- what is written behind so many lines -/
def bT (rm : List UInt8) (ps : List ByteArray) : Nat → List UInt8
  | 0 => []
  | i + 1 => bT rm ps i ++ (if i = 0 then [] else [10]) ++ brz (ps.getD i ByteArray.empty) ++ (if i + 1 < ps.length then 32 :: 59 :: rm else [])
theorem bT_step (rm : List UInt8) (ps : List ByteArray) (i : Nat) : bT rm ps (i + 1) = bT rm ps i ++ (if i = 0 then [] else [10]) ++ brz (ps.getD i ByteArray.empty) ++ (if i + 1 < ps.length then 32 :: 59 :: rm else []) := rfl
theorem bT_take (rm : List UInt8) (qs : List ByteArray) (z : ByteArray) : ∀ i, i ≤ qs.length → bT rm (qs ++ [z]) i ++ (if i = 0 then [] else [10]) = ((qs.take i).map (brr rm)).flatMap fun l => l ++ [10] := by
  intro i
  induction i with
  | zero => intro _; rfl
  | succ i ih =>
    intro h
    have h1 := ih (by omega)
    have h2 : (qs ++ [z]).getD i ByteArray.empty = qs[i] := by
      rw [List.getD_eq_getElem?_getD, List.getElem?_append_left (by omega), List.getElem?_eq_getElem (by omega)]; rfl
    rw [bT_step, h1, h2, if_pos (by simp; omega), if_neg (by omega), List.take_succ_eq_append_getElem (by omega), List.map_append, List.flatMap_append]
    simp [brr]
theorem bT_all (rm : List UInt8) (qs : List ByteArray) (z : ByteArray) : bT rm (qs ++ [z]) (qs.length + 1) = ((qs.map (brr rm)).flatMap fun l => l ++ [10]) ++ brz z := by
  have h2 : (qs ++ [z]).getD qs.length ByteArray.empty = z := by
    rw [List.getD_eq_getElem?_getD, List.getElem?_append_right (Nat.le_refl _)]; simp
  rw [bT_step, bT_take rm qs z qs.length (Nat.le_refl _), List.take_length, h2, if_neg (by simp), List.append_nil]
theorem rpl_no (l : List UInt8) : ∀ c ∈ rpl 10 [] l, c ≠ 10 := by
  intro c hc
  unfold rpl at hc
  obtain ⟨x, _, hx⟩ := List.mem_flatMap.1 hc
  split at hx
  · cases hx
  · rw [List.mem_singleton.1 hx]; assumption
theorem rpl_nil_len (l : List UInt8) : (rpl 10 [] l).length ≤ l.length := by
  have := rpl_len 10 [] l
  simpa using this
theorem dt_app (a b : ByteArray) : (a ++ b).data.toList = a.data.toList ++ b.data.toList := by simp
theorem dt_size (a : ByteArray) : a.data.toList.length = a.size := by simp
theorem cu_last (s : ByteArray) : ∃ qs z, cuT s (alP s) = qs ++ [z] := by
  have h : cuT s (alP s) ≠ [] := fun h => by
    have h1 := cuT_len s (alP s)
    rw [h] at h1
    have := alP_pos s
    simp at h1; omega
  exact ⟨_, _, (List.dropLast_concat_getLast h).symm⟩
theorem cu_size {s u : ByteArray} (h : u ∈ cuT s (alP s)) : u.size ≤ s.size := by
  unfold cuT at h
  obtain ⟨p, _, rfl⟩ := List.mem_map.1 h
  simp; omega

end Go.Proofs.YtpfdgibgdehcdaaDoor
