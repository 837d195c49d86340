import Derived.Test.YtcjokkjepgfinaaGreatDoorQCrc2
set_option linter.unusedVariables false
set_option linter.unusedSimpArgs false
namespace Go.Proofs.YtcjokkjepgfinaaGreatDoor.Frm
open Mem
def mark (l : List UInt8) (k : Nat) : List UInt8 := (l.drop (512 * k)).take 8
def part (l : List UInt8) (k : Nat) : List UInt8 := (l.drop (512 * k + 8)).take 504
def insideTo (l : List UInt8) : Nat → List UInt8
  | 0 => []
  | n + 1 => insideTo l n ++ part l n
def newestTo (l : List UInt8) : Nat → Nat
  | 0 => 0
  | n + 1 => max (newestTo l n) (val (mark l n))
def count (l : List UInt8) : Nat := val (((insideTo l 8).drop 9).take 8)
def held (l : List UInt8) : List UInt8 := if count l ≤ 4011 then ((insideTo l 8).drop 17).take (count l) else []
def seg (i : List UInt8) (k : Nat) : List UInt8 := (i.drop (504 * k)).take 504
def pageTo (m i : List UInt8) : Nat → List UInt8
  | 0 => []
  | n + 1 => pageTo m i n ++ (m ++ seg i n)
def head (a k n : Nat) : List UInt8 := be 8 a ++ (be 1 k ++ be 8 n)
def data (a k : Nat) (b : List UInt8) : List UInt8 := head a k b.length ++ (b ++ List.replicate (4011 - b.length) 0)
def inside (a k s : Nat) (b : List UInt8) : List UInt8 := data a k b ++ pl (Crc.check (be 8 s ++ data a k b))
def frame (a k s : Nat) (b : List UInt8) : List UInt8 := pageTo (be 8 s) (inside a k s b) 8
def newest (l : List UInt8) : Nat := if l.length = 4096 then newestTo l 8 else 0
theorem length_head (a k n : Nat) : (head a k n).length = 17 := by simp [head, length_be]
theorem length_data (a k : Nat) (b : List UInt8) (h : b.length ≤ 4011) : (data a k b).length = 4028 := by
  unfold data; rw [List.length_append, List.length_append, length_head, List.length_replicate]; omega
theorem length_pl (n : Nat) : (pl n).length = 4 := rfl
theorem length_inside (a k s : Nat) (b : List UInt8) (h : b.length ≤ 4011) : (inside a k s b).length = 4032 := by
  unfold inside; rw [List.length_append, length_data _ _ _ h, length_pl]
theorem length_seg (i : List UInt8) (k : Nat) (h : 504 * (k + 1) ≤ i.length) : (seg i k).length = 504 := by
  unfold seg; rw [List.length_take, List.length_drop]; omega
theorem length_pageTo (m i : List UInt8) (n : Nat) (hm : m.length = 8) (hi : 504 * n ≤ i.length) : (pageTo m i n).length = 512 * n := by
  induction n with
  | zero => rfl
  | succ n ih =>
    rw [pageTo, List.length_append, ih (by omega), List.length_append, hm, length_seg i n hi]; omega
theorem length_frame (a k s : Nat) (b : List UInt8) (h : b.length ≤ 4011) : (frame a k s b).length = 4096 :=
  length_pageTo _ _ 8 (length_be 8 s) (by rw [length_inside _ _ _ _ h]; omega)
theorem page_at (m i : List UInt8) (n k : Nat) (hk : k < n) : ∃ r, pageTo m i n = pageTo m i k ++ (m ++ (seg i k ++ r)) := by
  induction n with
  | zero => omega
  | succ n ih =>
    by_cases h : k < n
    · obtain ⟨r, hr⟩ := ih h
      exact ⟨r ++ (m ++ seg i n), by rw [pageTo, hr]; simp [List.append_assoc]⟩
    · obtain rfl : k = n := by omega
      exact ⟨[], by rw [pageTo, List.append_nil]⟩
theorem mark_page (m i : List UInt8) (k : Nat) (hk : k < 8) (hm : m.length = 8) (hi : i.length = 4032) : mark (pageTo m i 8) k = m := by
  obtain ⟨r, hr⟩ := page_at m i 8 k hk
  unfold mark
  rw [hr, List.drop_left' (length_pageTo m i k hm (by omega)), List.take_left' hm]
theorem part_page (m i : List UInt8) (k : Nat) (hk : k < 8) (hm : m.length = 8) (hi : i.length = 4032) : part (pageTo m i 8) k = seg i k := by
  obtain ⟨r, hr⟩ := page_at m i 8 k hk
  unfold part
  rw [hr, ← List.append_assoc, List.drop_left' (by rw [List.length_append, length_pageTo m i k hm (by omega), hm]), List.take_left' (length_seg i k (by omega))]
theorem inside_pageTo (m i : List UInt8) (n : Nat) (hn : n ≤ 8) (hm : m.length = 8) (hi : i.length = 4032) : insideTo (pageTo m i 8) n = i.take (504 * n) := by
  induction n with
  | zero => simp [insideTo]
  | succ n ih =>
    rw [insideTo, ih (by omega), part_page m i n (by omega) hm hi, seg, show 504 * (n + 1) = 504 * n + 504 by omega, List.take_add]
theorem inside_page (m i : List UInt8) (hm : m.length = 8) (hi : i.length = 4032) : insideTo (pageTo m i 8) 8 = i := by
  rw [inside_pageTo m i 8 (Nat.le_refl _) hm hi, List.take_of_length_le (by omega)]
theorem newest_marks (l : List UInt8) (s n : Nat) (h : ∀ k, k < n → val (mark l k) = s) (hn : 0 < n) : newestTo l n = s := by
  induction n with
  | zero => omega
  | succ n ih =>
    rw [newestTo, h n (by omega)]
    rcases Nat.eq_zero_or_pos n with rfl | hp
    · simp [newestTo]
    · rw [ih (fun k hk => h k (by omega)) hp, Nat.max_self]
theorem val_be8 (s : Nat) (h : s < 18446744073709551616) : val (be 8 s) = s := by rw [val_be]; exact Nat.mod_eq_of_lt h
theorem val_be1 (s : Nat) (h : s < 256) : val (be 1 s) = s := by rw [val_be]; exact Nat.mod_eq_of_lt h
theorem newest_frame (a k s : Nat) (b : List UInt8) (h : b.length ≤ 4011) (hs : s < 18446744073709551616) : newest (frame a k s b) = s := by
  unfold newest
  rw [if_pos (length_frame a k s b h)]
  refine newest_marks _ s 8 (fun k' hk' => ?_) (by omega)
  unfold frame
  rw [mark_page _ _ k' hk' (length_be 8 s) (length_inside _ _ _ _ h), val_be8 s hs]
theorem inside_frame (a k s : Nat) (b : List UInt8) (h : b.length ≤ 4011) : insideTo (frame a k s b) 8 = inside a k s b := inside_page _ _ (length_be 8 s) (length_inside _ _ _ _ h)
theorem inside_parts (a k s : Nat) (b : List UInt8) : ∃ r, inside a k s b = be 8 a ++ (be 1 k ++ (be 8 b.length ++ (b ++ r))) :=
  ⟨List.replicate (4011 - b.length) 0 ++ pl (Crc.check (be 8 s ++ data a k b)), by simp [inside, data, head, List.append_assoc]⟩
theorem count_frame (a k s : Nat) (b : List UInt8) (h : b.length ≤ 4011) : count (frame a k s b) = b.length := by
  obtain ⟨r, hr⟩ := inside_parts a k s b
  unfold count
  rw [inside_frame a k s b h, hr, ← List.append_assoc, List.drop_left' (by simp [length_be]), List.take_left' (length_be 8 _), val_be8 _ (by omega)]
theorem held_frame (a k s : Nat) (b : List UInt8) (h : b.length ≤ 4011) : held (frame a k s b) = b := by
  obtain ⟨r, hr⟩ := inside_parts a k s b
  unfold held
  rw [count_frame a k s b h, if_pos h, inside_frame a k s b h, hr, ← List.append_assoc, ← List.append_assoc, List.drop_left' (by simp [length_be]), List.take_left]
theorem held_le (l : List UInt8) : (held l).length ≤ 4011 := by
  unfold held; split
  · rw [List.length_take]; omega
  · exact Nat.zero_le _
theorem frame_place (a k a' k' s s' : Nat) (b b' : List UInt8) (h : b.length ≤ 4011) (h' : b'.length ≤ 4011) (ha : a < 18446744073709551616) (ha' : a' < 18446744073709551616) (hk : k < 256) (hk' : k' < 256) (e : frame a k s b = frame a' k' s' b') : a = a' ∧ k = k' := by
  have e2 := congrArg (fun l => insideTo l 8) e
  simp only [inside_frame _ _ _ _ h, inside_frame _ _ _ _ h'] at e2
  obtain ⟨r, hr⟩ := inside_parts a k s b
  obtain ⟨r', hr'⟩ := inside_parts a' k' s' b'
  rw [hr, hr'] at e2
  obtain ⟨e3, e4⟩ := List.append_inj e2 (by rw [length_be, length_be])
  obtain ⟨e5, _⟩ := List.append_inj e4 (by rw [length_be, length_be])
  have e6 := congrArg val e3
  have e7 := congrArg val e5
  rw [val_be8 _ ha, val_be8 _ ha'] at e6
  rw [val_be1 _ hk, val_be1 _ hk'] at e7
  exact ⟨e6, e7⟩
def whole (l : List UInt8) (a k : Nat) : Prop := a < 4096 ∧ 0 < newest l ∧ l = frame a k (newest l) (held l)
instance (l : List UInt8) (a k : Nat) : Decidable (whole l a k) := by unfold whole; infer_instance
theorem whole_frame (a k s a' k' : Nat) (b : List UInt8) (h : b.length ≤ 4011) (ha : a < 4096) (hk : k < 256) (hk' : k' < 256) (hs : s < 18446744073709551616) (hs0 : 0 < s) : whole (frame a k s b) a' k' ↔ a' = a ∧ k' = k := by
  unfold whole
  rw [newest_frame a k s b h hs, held_frame a k s b h]
  constructor
  · rintro ⟨h1, _, e⟩
    obtain ⟨e1, e2⟩ := frame_place _ _ _ _ _ _ _ _ h h (by omega) (by omega) hk hk' e
    exact ⟨e1.symm, e2.symm⟩
  · rintro ⟨rfl, rfl⟩
    exact ⟨ha, hs0, rfl⟩
theorem length_whole (l : List UInt8) (a k : Nat) (h : whole l a k) : l.length = 4096 := by
  obtain ⟨_, _, e⟩ := h
  rw [e, length_frame _ _ _ _ (held_le l)]
end Go.Proofs.YtcjokkjepgfinaaGreatDoor.Frm
