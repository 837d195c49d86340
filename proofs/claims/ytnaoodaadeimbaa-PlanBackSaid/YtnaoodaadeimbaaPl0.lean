import Derived.Test.YtnaoodaadeimbaaMem
namespace Go.Proofs.Ytnaoodaadeimbaa.Pl
set_option linter.unusedVariables false
set_option linter.unusedSimpArgs false
open Mem
/-! Numbers as bytes, eight each, the highest first; a plan as data: no program. -/

/-- The bytes of numbers. -/
def nb : List Nat → List UInt8
  | [] => []
  | x :: l => be 8 x ++ nb l
theorem nb_len (l : List Nat) : (nb l).length = 8 * l.length := by
  induction l with
  | nil => rfl
  | cons x l ih => show (be 8 x ++ nb l).length = _; rw [List.length_append, length_be, ih, List.length_cons]; omega
theorem nb_app (l k : List Nat) : nb (l ++ k) = nb l ++ nb k := by
  induction l with
  | nil => rfl
  | cons x l ih => show be 8 x ++ nb (l ++ k) = be 8 x ++ nb l ++ nb k; rw [ih, List.append_assoc]
/-- Number i of bytes. -/
def na (b : List UInt8) (i : Nat) : Nat := val ((b.drop (8 * i)).take 8)
theorem na_lt (b : List UInt8) (i : Nat) : na b i < 18446744073709551616 := val_lt64 _ (by rw [List.length_take]; omega)
theorem na_zero (x : Nat) (l : List Nat) : na (nb (x :: l)) 0 = x % 18446744073709551616 := by
  unfold na nb
  rw [Nat.mul_zero, List.drop_zero, List.take_append_of_le_length (by rw [length_be]; omega), List.take_of_length_le (by rw [length_be]; omega), val_be]
theorem na_succ (x : Nat) (l : List Nat) (i : Nat) : na (nb (x :: l)) (i + 1) = na (nb l) i := by
  unfold na
  show val (((be 8 x ++ nb l).drop (8 * (i + 1))).take 8) = _
  rw [show 8 * (i + 1) = (be 8 x).length + 8 * i by rw [length_be]; omega, List.drop_append, List.drop_eq_nil_of_le (by omega), List.nil_append, Nat.add_sub_cancel_left]
/-- A number comes back. -/
theorem na_nb (l : List Nat) (h : ∀ x ∈ l, x < 18446744073709551616) {i : Nat} (hi : i < l.length) : na (nb l) i = l[i] := by
  induction l generalizing i with
  | nil => simp at hi
  | cons x l ih =>
    rcases i with _ | i
    · rw [na_zero, Nat.mod_eq_of_lt (h x (by simp))]; rfl
    · rw [na_succ, ih (fun y hy => h y (by simp [hy])) (by simpa using hi)]; rfl
theorem be_val (l : List UInt8) : be l.length (val l) = l := by
  induction l with
  | nil => rfl
  | cons x l ih =>
    have hlt := val_lt l
    rw [List.length_cons, be, val_cons]
    have hp : 0 < 256 ^ l.length := Nat.pos_of_ne_zero (by intro e; omega)
    have e1 : (x.toNat * 256 ^ l.length + val l) / 256 ^ l.length = x.toNat := by
      rw [Nat.mul_comm, Nat.mul_add_div hp, Nat.div_eq_of_lt hlt, Nat.add_zero]
    have be_mod : ∀ (k v : Nat), be k (v % 256 ^ k) = be k v := by
      intro k
      induction k with
      | zero => intro v; rfl
      | succ k ihk =>
        intro v
        have h1 : be k (v % 256 ^ (k + 1)) = be k v := by
          rw [← ihk (v % 256 ^ (k + 1)), Nat.mod_mod_of_dvd _ (Nat.pow_dvd_pow 256 (Nat.le_succ k)), ihk]
        show UInt8.ofNat (v % 256 ^ (k + 1) / 256 ^ k) :: be k (v % 256 ^ (k + 1)) = UInt8.ofNat (v / 256 ^ k) :: be k v
        rw [h1]
        congr 1
        apply UInt8.toNat_inj.1
        rw [UInt8.toNat_ofNat', UInt8.toNat_ofNat', Nat.pow_succ, Nat.mod_mul_right_div_self]
        omega
    rw [e1, ← be_mod, show (x.toNat * 256 ^ l.length + val l) % 256 ^ l.length = val l by rw [Nat.mul_comm, Nat.mul_add_mod, Nat.mod_eq_of_lt hlt], ih]
    simp
/-- Bytes are those of their numbers. -/
theorem nb_na (n : Nat) : ∀ b : List UInt8, b.length = 8 * n → nb ((List.range n).map (na b)) = b := by
  induction n with
  | zero => intro b h; have := List.eq_nil_of_length_eq_zero (by omega : b.length = 0); subst this; rfl
  | succ n ih =>
    intro b h
    have hd : (b.drop 8).length = 8 * n := by rw [List.length_drop]; omega
    have e0 : be 8 (na b 0) = b.take 8 := by
      have hl : (b.take 8).length = 8 := by rw [List.length_take]; omega
      have := be_val (b.take 8)
      rw [hl] at this
      unfold na
      rw [Nat.mul_zero, List.drop_zero]; exact this
    have e1 : (List.range (n + 1)).map (na b) = na b 0 :: (List.range n).map (na (b.drop 8)) := by
      rw [List.range_succ_eq_map, List.map_cons, List.map_map]
      congr 1
      refine List.map_congr_left fun i _ => ?_
      show na b (i + 1) = na (b.drop 8) i
      unfold na
      rw [List.drop_drop, show 8 * (i + 1) = 8 + 8 * i by omega]
    rw [e1]
    show be 8 (na b 0) ++ nb _ = b
    rw [ih _ hd, e0, List.take_append_drop]
theorem nb_inj {l k : List Nat} (hl : ∀ x ∈ l, x < 18446744073709551616) (hk : ∀ x ∈ k, x < 18446744073709551616) (h : nb l = nb k) : l = k := by
  have hlen : l.length = k.length := by have := congrArg List.length h; rw [nb_len, nb_len] at this; omega
  refine List.ext_getElem hlen fun i h1 h2 => ?_
  rw [← na_nb l hl h1, ← na_nb k hk h2, h]
end Go.Proofs.Ytnaoodaadeimbaa.Pl
