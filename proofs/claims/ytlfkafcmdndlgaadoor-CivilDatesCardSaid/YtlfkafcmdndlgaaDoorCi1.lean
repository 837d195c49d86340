import Derived.Lib.ItoaNum
import Derived.Lib.Atoi
import Derived.Lib.Repeat
import Derived.Test.YtlfkafcmdndlgaaDoorCi0
namespace Go.Proofs.YtlfkafcmdndlgaaDoor.Ci
/-! A date's text as data: no program. -/

/-- A digit. -/
def dg (k : Nat) : UInt8 := UInt8.ofNat (48 + k % 10)
theorem dg_fin : ∀ k : Fin 10, Lib.digitVal (UInt8.ofNat (48 + k.val)) = some k.val ∧ (UInt8.ofNat (48 + k.val) == 45) = false ∧ (UInt8.ofNat (48 + k.val) == 43) = false := by decide +kernel
theorem dg_val (k : Nat) : Lib.digitVal (dg k) = some (k % 10) := (dg_fin ⟨k % 10, by omega⟩).1
theorem dg_minus (k : Nat) : (dg k == 45) = false := (dg_fin ⟨k % 10, by omega⟩).2.1
theorem dg_plus (k : Nat) : (dg k == 43) = false := (dg_fin ⟨k % 10, by omega⟩).2.2
def d2 (n : Nat) : List UInt8 := [dg (n / 10), dg n]
def d4 (n : Nat) : List UInt8 := [dg (n / 1000), dg (n / 100), dg (n / 10), dg n]
theorem d2_length (n : Nat) : (d2 n).length = 2 := rfl
theorem d4_length (n : Nat) : (d4 n).length = 4 := rfl
/-- What a text is read as, where a number is asked: 0, if it is none. -/
def numOf (l : List UInt8) : Int := (Lib.atoi l).getD 0
theorem numOf_d2 {n : Nat} (h : n < 100) : numOf (d2 n) = n := by
  simp only [numOf, d2, Lib.atoi, dg_minus, dg_plus, Lib.decNat, Lib.decFrom, dg_val, List.isEmpty_cons, Bool.false_eq_true, if_false, Option.map_some, Option.getD_some]
  omega
theorem numOf_d4 {n : Nat} (h : n < 10000) : numOf (d4 n) = n := by
  simp only [numOf, d4, Lib.atoi, dg_minus, dg_plus, Lib.decNat, Lib.decFrom, dg_val, List.isEmpty_cons, Bool.false_eq_true, if_false, Option.map_some, Option.getD_some]
  omega
theorem dec1 {n : Nat} (h : n < 10) : Lib.decDigits n = [dg n] := by rw [Lib.decDigits, dif_pos h, dg, Nat.mod_eq_of_lt h]
theorem decS {n : Nat} (h : ¬ n < 10) : Lib.decDigits n = Lib.decDigits (n / 10) ++ [dg n] := by rw [Lib.decDigits, dif_neg h]; rfl
theorem dg_zero {k : Nat} (h : k % 10 = 0) : dg k = 48 := by unfold dg; rw [h]; rfl
/-- Zeros ahead of a number, to so many digits. -/
theorem pad2 {n : Nat} (h : n < 100) : List.replicate (2 - (Lib.decDigits n).length) 48 ++ Lib.decDigits n = d2 n := by
  by_cases h1 : n < 10
  · rw [dec1 h1]; simp [d2, dg_zero (k := n / 10) (by omega)]
  · rw [decS h1, dec1 (by omega)]; simp [d2]
theorem pad4 {n : Nat} (h : n < 10000) : List.replicate (4 - (Lib.decDigits n).length) 48 ++ Lib.decDigits n = d4 n := by
  by_cases h1 : n < 10
  · rw [dec1 h1]; simp [d4, dg_zero (k := n / 10) (by omega), dg_zero (k := n / 100) (by omega), dg_zero (k := n / 1000) (by omega), List.replicate]
  by_cases h2 : n < 100
  · rw [decS h1, dec1 (by omega)]; simp [d4, dg_zero (k := n / 100) (by omega), dg_zero (k := n / 1000) (by omega), List.replicate]
  by_cases h3 : n < 1000
  · rw [decS h1, decS (by omega), dec1 (by omega)]; simp [d4, dg_zero (k := n / 1000) (by omega), Nat.div_div_eq_div_mul]
  · rw [decS h1, decS (by omega), decS (by omega), dec1 (by omega)]; simp [d4, Nat.div_div_eq_div_mul]
theorem dec_len2 {n : Nat} (h : n < 100) : (Lib.decDigits n).length ≤ 2 := by
  by_cases h1 : n < 10
  · rw [dec1 h1]; simp
  · rw [decS h1, dec1 (by omega)]; simp
theorem dec_len4 {n : Nat} (h : n < 10000) : (Lib.decDigits n).length ≤ 4 := by
  by_cases h1 : n < 10
  · rw [dec1 h1]; simp
  by_cases h2 : n < 100
  · rw [decS h1, dec1 (by omega)]; simp
  by_cases h3 : n < 1000
  · rw [decS h1, decS (by omega), dec1 (by omega)]; simp
  · rw [decS h1, decS (by omega), decS (by omega), dec1 (by omega)]; simp
/-- A date's text. -/
def txt (y m d : Int) : List UInt8 := d4 y.toNat ++ (45 :: (d2 m.toNat ++ (45 :: d2 d.toNat)))
theorem txt_length (y m d : Int) : (txt y m d).length = 10 := by simp [txt, d2_length, d4_length]
/-- The parts that Parse takes of a text. -/
def yOf (l : List UInt8) : Int := numOf (l.take 4)
def mOf (l : List UInt8) : Int := numOf ((l.drop 5).take 2)
def dOf (l : List UInt8) : Int := numOf (l.drop 8)
theorem txt_parts {y m d : Int} (h : vldB y m d = true) : yOf (txt y m d) = y ∧ mOf (txt y m d) = m ∧ dOf (txt y m d) = d := by
  obtain ⟨a, b, c, e, f, g⟩ := vld_of h; have := long_bd y m
  refine ⟨?_, ?_, ?_⟩
  · show numOf (d4 y.toNat) = y; rw [numOf_d4 (by omega)]; omega
  · show numOf (d2 m.toNat) = m; rw [numOf_d2 (by omega)]; omega
  · show numOf (d2 d.toNat) = d; rw [numOf_d2 (by omega)]; omega
/-- Is it the text of the date that its parts tell? -/
def readB (l : List UInt8) : Bool := vldB (yOf l) (mOf l) (dOf l) && (txt (yOf l) (mOf l) (dOf l) == l)
theorem read_iff (l : List UInt8) : readB l = true ↔ vldB (yOf l) (mOf l) (dOf l) = true ∧ txt (yOf l) (mOf l) (dOf l) = l := by simp [readB]
theorem read_txt {y m d : Int} (h : vldB y m d = true) : readB (txt y m d) = true := by
  obtain ⟨a, b, c⟩ := txt_parts h
  rw [read_iff, a, b, c]; exact ⟨h, rfl⟩
/-- Nine bits hold a text's number: bounds of what numOf answers. -/
theorem decFrom_bd : ∀ (l : List UInt8) (acc : Nat) (n : Nat), Lib.decFrom acc l = some n → n + 1 ≤ (acc + 1) * 10 ^ l.length
  | [], acc, n, h => by simp [Lib.decFrom] at h; simp; omega
  | b :: r, acc, n, h => by
    simp only [Lib.decFrom] at h
    cases hd : Lib.digitVal b with
    | none => simp [hd] at h
    | some k =>
      simp only [hd] at h
      have hk : k < 10 := by unfold Lib.digitVal at hd; split at hd <;> simp at hd; omega
      have := decFrom_bd r _ n h
      rw [List.length_cons, Nat.pow_succ, Nat.mul_comm (10 ^ r.length) 10, ← Nat.mul_assoc]
      exact Nat.le_trans this (Nat.mul_le_mul_right _ (by omega))
theorem numOf_bd {l : List UInt8} (h : l.length ≤ 4) : -10000 < numOf l ∧ numOf l < 10000 := by
  have key : ∀ (r : List UInt8) (n : Nat), r.length ≤ 4 → Lib.decNat r = some n → n < 10000 := by
    intro r n hr hn
    unfold Lib.decNat at hn
    split at hn
    · cases hn
    have := decFrom_bd r 0 n hn
    have h4 : 10 ^ r.length ≤ 10 ^ 4 := Nat.pow_le_pow_right (by decide) hr
    simp at this h4; omega
  unfold numOf
  match l, h with
  | [], _ => simp [Lib.atoi]
  | b :: r, h =>
    simp only [List.length_cons] at h
    simp only [Lib.atoi]
    split
    · cases hn : Lib.decNat r with
      | none => simp
      | some n => have := key r n (by omega) hn; simp; omega
    · split
      · cases hn : Lib.decNat r with
        | none => simp
        | some n => have := key r n (by omega) hn; simp; omega
      · cases hn : Lib.decNat (b :: r) with
        | none => simp
        | some n => have := key (b :: r) n (by simp; omega) hn; simp; omega
end Go.Proofs.YtlfkafcmdndlgaaDoor.Ci
