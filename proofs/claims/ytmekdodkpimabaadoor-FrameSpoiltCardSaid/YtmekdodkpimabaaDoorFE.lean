import Derived.Test.YtmekdodkpimabaaDoorFB
namespace Go.Proofs.YtmekdodkpimabaaDoor
open Go.RowKit Mem

namespace Crc
theorem num_lt (l : List UInt8) : num l < 2 ^ (8 * l.length) := by
  induction l with
  | nil => simp [num]
  | cons x l ih =>
    have hx := x.toNat_lt
    rw [List.length_cons, show 8 * (l.length + 1) = 8 + 8 * l.length by omega, Nat.pow_add]
    show x.toNat + 256 * num l < 2 ^ 8 * 2 ^ (8 * l.length)
    omega
theorem num_inj : ∀ (a b : List UInt8), a.length = b.length → num a = num b → a = b
  | [], [], _, _ => rfl
  | [], _ :: _, h, _ => by simp at h
  | _ :: _, [], h, _ => by simp at h
  | x :: a, y :: b, h, e => by
    have hx := x.toNat_lt
    have hy := y.toNat_lt
    have e' : x.toNat + 256 * num a = y.toNat + 256 * num b := e
    have h1 : x.toNat = y.toNat := by omega
    have h2 : num a = num b := by omega
    rw [num_inj a b (by simpa using h) h2, UInt8.toNat_inj.1 h1]
/-- A list and its check behind it leave the same in all cases. -/
theorem thru_check (l : List UInt8) : thru 4294967295 (l ++ pl (check l)) = sts 32 4294967295 := by
  rw [thru_app, thru_num (pl (check l)), num_pl _ (check_lt l)]
  show sts (8 * 4) _ = _
  congr 1
  show thru 4294967295 l ^^^ (thru 4294967295 l ^^^ 4294967295) = _
  rw [← Nat.xor_assoc, Nat.xor_self, Nat.zero_xor]
/-- Two such lists, other ones only within four bytes, are one. -/
theorem code_same (a b x y u v : List UInt8) (P S : List UInt8) (ha : x = a ++ pl (check a)) (hb : y = b ++ pl (check b)) (hx : x = P ++ (u ++ S)) (hy : y = P ++ (v ++ S)) (hu : u.length = 4) (hv : v.length = 4) : u = v := by
  have hn : num x ^^^ num y = 2 ^ (8 * P.length) * (num u ^^^ num v) := by
    rw [hx, hy, num_app, num_app, num_app, num_app, hu, hv]
    have h1 : (num P ^^^ 2 ^ (8 * P.length) * (num u ^^^ 2 ^ (8 * 4) * num S)) ^^^ (num P ^^^ 2 ^ (8 * P.length) * (num v ^^^ 2 ^ (8 * 4) * num S)) = 2 ^ (8 * P.length) * (num u ^^^ 2 ^ (8 * 4) * num S) ^^^ 2 ^ (8 * P.length) * (num v ^^^ 2 ^ (8 * 4) * num S) := by
      rw [xor_swap, Nat.xor_self, Nat.zero_xor]
    rw [h1]
    simp only [← shl_eq, ← Nat.shiftLeft_xor_distrib]
    rw [xor_swap, Nat.xor_self, Nat.xor_zero]
  have hl : x.length = y.length := by rw [hx, hy]; simp [hu, hv]
  have ht : thru 4294967295 x = thru 4294967295 y := by rw [ha, hb, thru_check, thru_check]
  rw [thru_num, thru_num, ← hl, sts_xor, sts_xor, Nat.xor_comm _ (sts _ (num x)), Nat.xor_comm _ (sts _ (num y))] at ht
  have h2 := xor_cancel _ _ _ ht
  have h3 : sts (8 * x.length) (num x ^^^ num y) = 0 := by rw [sts_xor, h2, Nat.xor_self]
  rw [hn] at h3
  have bu := num_lt u
  have bv := num_lt v
  rw [hu] at bu
  rw [hv] at bv
  by_cases he : num u ^^^ num v = 0
  · refine num_inj u v (by rw [hu, hv]) ?_
    have := congrArg (· ^^^ num v) he
    simp only [Nat.xor_assoc, Nat.xor_self, Nat.xor_zero, Nat.zero_xor] at this
    exact this
  · exact absurd h3 (sts_far _ _ _ (by rw [hx]; simp; omega) (Nat.xor_lt_two_pow (n := 32) bu bv) he)
end Crc

theorem cut4 (x y : List UInt8) (j : Nat) (hl : x.length = y.length) (hj : j + 4 ≤ x.length) (h : ∀ i, i < j ∨ j + 4 ≤ i → x[i]? = y[i]?) : x = x.take j ++ ((x.drop j).take 4 ++ x.drop (j + 4)) ∧ y = x.take j ++ ((y.drop j).take 4 ++ x.drop (j + 4)) := by
  constructor
  · rw [← List.drop_drop, List.take_append_drop, List.take_append_drop]
  · have e1 : x.take j = y.take j := by
      apply List.ext_getElem?
      intro i
      by_cases hi : i < j
      · rw [List.getElem?_take_of_lt hi, List.getElem?_take_of_lt hi, h i (.inl hi)]
      · rw [List.getElem?_eq_none (by rw [List.length_take]; omega), List.getElem?_eq_none (by rw [List.length_take]; omega)]
    have e2 : x.drop (j + 4) = y.drop (j + 4) := by
      apply List.ext_getElem?
      intro i
      rw [List.getElem?_drop, List.getElem?_drop, h _ (.inr (by omega))]
    rw [e1, e2, ← List.drop_drop, List.take_append_drop, List.take_append_drop]

theorem inside_at (l : List UInt8) (hl : l.length = 4096) (n : Nat) (hn : n ≤ 8) (i : Nat) : (Frm.insideTo l n)[i]? = if i < 504 * n then l[512 * (i / 504) + 8 + i % 504]? else none := by
  induction n with
  | zero => rw [if_neg (by omega)]; rfl
  | succ n ih =>
    have hlen := length_insideTo l hl n (by omega)
    rw [Frm.insideTo]
    by_cases h1 : i < 504 * n
    · rw [List.getElem?_append_left (by omega), ih (by omega), if_pos h1, if_pos (by omega)]
    · rw [List.getElem?_append_right (by omega), hlen, Frm.part, List.getElem?_take, List.getElem?_drop]
      by_cases h2 : i < 504 * (n + 1)
      · rw [if_pos (by omega), if_pos h2]
        congr 1
        omega
      · rw [if_neg (by omega), if_neg h2]
theorem mark_at (l : List UInt8) (k i : Nat) : (Frm.mark l k)[i]? = if i < 8 then l[512 * k + i]? else none := by
  unfold Frm.mark
  rw [List.getElem?_take, List.getElem?_drop]

theorem frame_inside (a k s : Nat) (b : List UInt8) (hb : b.length ≤ 4011) : be 8 s ++ Frm.insideTo (Frm.frame a k s b) 8 = (be 8 s ++ Frm.data a k b) ++ pl (Crc.check (be 8 s ++ Frm.data a k b)) := by
  rw [Frm.inside_frame a k s b hb, Frm.inside, List.append_assoc]
/-- Four bytes that become other ones spoil a page. -/
theorem spoilt (a k s : Nat) (b word : List UInt8) (q : Nat) (hb : b.length ≤ 4011) (hs : s < 18446744073709551616) (hw : word.length = 4) (hq : q ≤ 4092) (i : Int) (j : Nat) (hg : gets (splice (Frm.frame a k s b) q word) i j) : splice (Frm.frame a k s b) q word = Frm.frame a k s b := by
  have lp := Frm.length_frame a k s b hb
  have lz : (splice (Frm.frame a k s b) q word).length = 4096 := by rw [length_splice _ _ _ (by omega)]; exact lp
  have hz : ∀ n, n < q ∨ q + 4 ≤ n → (splice (Frm.frame a k s b) q word)[n]? = (Frm.frame a k s b)[n]? := fun n hn => by
    rw [splice_at _ _ _ (by omega), hw]
    rcases hn with h | h
    · rw [if_pos h]
    · rw [if_neg (by omega), if_neg (by omega)]
  generalize splice (Frm.frame a k s b) q word = z at hg lz hz
  obtain ⟨hg0, hg1, hg2, hg3⟩ := hg
  have hb' := Frm.held_le z
  -- one sector at least keeps its mark
  obtain ⟨c, hc, hcm⟩ : ∃ c, c < 8 ∧ Frm.mark z c = Frm.mark (Frm.frame a k s b) c := by
    have key : ∀ c, c < 8 → (q + 4 ≤ 512 * c ∨ 512 * c + 8 ≤ q) → Frm.mark z c = Frm.mark (Frm.frame a k s b) c := fun c hc h => by
      apply List.ext_getElem?
      intro n
      rw [mark_at, mark_at]
      by_cases hn : n < 8
      · rw [if_pos hn, if_pos hn, hz _ (by omega)]
      · rw [if_neg hn, if_neg hn]
    by_cases h : 8 ≤ q
    · exact ⟨0, by omega, key 0 (by omega) (.inr (by omega))⟩
    · exact ⟨7, by omega, key 7 (by omega) (.inl (by omega))⟩
  have hsn : Frm.newest z = s := by
    rw [Frm.mark_whole z i.toNat j c ⟨hg1, hg2, hg3⟩ hc, mark_frame a k s b c hb hc] at hcm
    have := congrArg val hcm
    rwa [Frm.val_be8 _ (newest_lt z), Frm.val_be8 s hs] at this
  rw [hsn] at hg3
  -- what stands inside
  have e1 := frame_inside a k s b hb
  have e2 := frame_inside i.toNat j s (Frm.held z) hb'
  rw [← hg3] at e2
  have l1 := length_insideTo _ lp 8 (by omega)
  have l2 := length_insideTo _ lz 8 (by omega)
  have h8 := length_be 8 s
  have hag : ∀ n, n < 8 + (504 * (q / 512) + (q % 512 - 8)) ∨ 8 + (504 * (q / 512) + (q % 512 - 8)) + 4 ≤ n → (be 8 s ++ Frm.insideTo (Frm.frame a k s b) 8)[n]? = (be 8 s ++ Frm.insideTo z 8)[n]? := fun n hn => by
    by_cases h1 : n < 8
    · rw [List.getElem?_append_left (by omega), List.getElem?_append_left (by omega)]
    · rw [List.getElem?_append_right (by omega), List.getElem?_append_right (by omega), h8, inside_at _ lp 8 (by omega), inside_at _ lz 8 (by omega)]
      by_cases h2 : n - 8 < 504 * 8
      · rw [if_pos h2, if_pos h2]
        refine (hz _ ?_).symm
        omega
      · rw [if_neg h2, if_neg h2]
  obtain ⟨d1, d2⟩ := cut4 _ _ (8 + (504 * (q / 512) + (q % 512 - 8))) (by rw [List.length_append, List.length_append, l1, l2]) (by rw [List.length_append, l1, h8]; omega) hag
  have hf := Crc.code_same _ _ _ _ _ _ _ _ e1 e2 d1 d2 (by rw [List.length_take, List.length_drop, List.length_append, l1, h8]; omega) (by rw [List.length_take, List.length_drop, List.length_append, l2, h8]; omega)
  have hI : Frm.insideTo (Frm.frame a k s b) 8 = Frm.insideTo z 8 := by
    rw [hf] at d1
    exact List.append_cancel_left (d1.trans d2.symm)
  rw [Frm.inside_frame a k s b hb] at hI
  have hI2 : Frm.insideTo z 8 = Frm.inside i.toNat j s (Frm.held z) := by
    have := Frm.inside_frame i.toNat j s (Frm.held z) hb'
    rwa [← hg3] at this
  rw [hg3]
  show Frm.pageTo (be 8 s) (Frm.inside i.toNat j s (Frm.held z)) 8 = Frm.pageTo (be 8 s) (Frm.inside a k s b) 8
  rw [hI, hI2]
end Go.Proofs.YtmekdodkpimabaaDoor
