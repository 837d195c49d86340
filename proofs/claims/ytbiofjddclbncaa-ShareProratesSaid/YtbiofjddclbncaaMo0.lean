namespace Go.Proofs.Ytbiofjddclbncaa.Mo
/-! Numbers of 128 bits as data: no program. -/

/-- A digit of a quotient by two digits of 32 bits, guessed by the upper one: what holds at each round. -/
structure Dig (u d a b q r : Nat) : Prop where
  hu : u < a * 4294967296 + b
  hd : d < 4294967296
  a1 : 2147483648 ≤ a
  a2 : a < 4294967296
  hb : b < 4294967296
  eq : q * a + r = u
  hr : r < 4294967296
  hq : (u * 4294967296 + d) / (a * 4294967296 + b) ≤ q

theorem dig_mul (q a b : Nat) : q * (a * 4294967296 + b) = q * a * 4294967296 + q * b := by
  rw [Nat.mul_add, Nat.mul_assoc]
theorem dig_first {u d a b : Nat} (hu : u < a * 4294967296 + b) (hd : d < 4294967296) (a1 : 2147483648 ≤ a) (a2 : a < 4294967296) (hb : b < 4294967296) : Dig u d a b (u / a) (u % a) := by
  refine ⟨hu, hd, a1, a2, hb, ?_, ?_, ?_⟩
  · rw [Nat.mul_comm]; exact Nat.div_add_mod u a
  · exact Nat.lt_trans (Nat.mod_lt _ (by omega)) a2
  · have h1 : (u * 4294967296 + d) / (a * 4294967296 + b) ≤ (u * 4294967296 + d) / (a * 4294967296) := Nat.div_le_div_left (by omega) (by omega)
    have h2 : (u * 4294967296 + d) / (a * 4294967296) = u / a := by
      rw [Nat.mul_comm a, ← Nat.div_div_eq_div_mul]
      congr 1; omega
    omega
theorem dig_lt {u d a b : Nat} (hu : u < a * 4294967296 + b) (hd : d < 4294967296) : (u * 4294967296 + d) / (a * 4294967296 + b) < 4294967296 := by
  rw [Nat.div_lt_iff_lt_mul (by omega)]
  omega
theorem dig_done {u d a b q r : Nat} (hu : u < a * 4294967296 + b) (eq : q * a + r = u) (hq : (u * 4294967296 + d) / (a * 4294967296 + b) ≤ q) (h : q * b ≤ 4294967296 * r + d) :
    q = (u * 4294967296 + d) / (a * 4294967296 + b) := by
  have h1 : q ≤ (u * 4294967296 + d) / (a * 4294967296 + b) := by
    rw [Nat.le_div_iff_mul_le (by omega), dig_mul]
    omega
  omega
theorem Dig.out {u d a b q r : Nat} (h : Dig u d a b q r) (h2 : q * b ≤ 4294967296 * r + d) : q = (u * 4294967296 + d) / (a * 4294967296 + b) :=
  dig_done h.hu h.eq h.hq h2
theorem Dig.down {u d a b q r : Nat} (h : Dig u d a b q r) (h2 : 4294967296 ≤ q ∨ 4294967296 * r + d < q * b) : ∃ k, q = k + 1 ∧ (u * 4294967296 + d) / (a * 4294967296 + b) ≤ k ∧ k * a + (r + a) = u := by
  have h0 := dig_lt h.hu h.hd
  have h1 := h.hq
  have h3 : (u * 4294967296 + d) / (a * 4294967296 + b) < q := by
    rcases h2 with h2 | h2
    · omega
    · have hu := h.hu
      have hp : 0 < a * 4294967296 + b := by omega
      have := h.eq
      rw [Nat.div_lt_iff_lt_mul hp, dig_mul]
      omega
  have h4 : 0 < q := Nat.lt_of_le_of_lt (Nat.zero_le _) h3
  obtain ⟨k, rfl⟩ : ∃ k, q = k + 1 := ⟨q - 1, by omega⟩
  refine ⟨k, rfl, by omega, ?_⟩
  have := h.eq
  rw [Nat.add_mul] at this; omega
theorem Dig.next {u d a b q r : Nat} (h : Dig u d a b q r) {k : Nat} (hk : (u * 4294967296 + d) / (a * 4294967296 + b) ≤ k) (he : k * a + (r + a) = u) (hr : r + a < 4294967296) : Dig u d a b k (r + a) :=
  ⟨h.hu, h.hd, h.a1, h.a2, h.hb, he, hr, hk⟩
theorem Dig.last {u d a b q r : Nat} (h : Dig u d a b q r) {k : Nat} (hk : (u * 4294967296 + d) / (a * 4294967296 + b) ≤ k) (he : k * a + (r + a) = u) (hr : 4294967296 ≤ r + a) : k = (u * 4294967296 + d) / (a * 4294967296 + b) := by
  refine dig_done h.hu he hk ?_
  have h1 : k < 4294967296 := by
    rcases Nat.lt_or_ge k 4294967296 with x | x
    · exact x
    · have := Nat.mul_le_mul_right a x
      have := h.hu; have := h.hb
      omega
  have h2 : k * b ≤ 4294967295 * 4294967295 := Nat.mul_le_mul (by omega) (by have := h.hb; omega)
  omega
/-- What is carried on from digit to digit: the rest. -/
theorem dig_rest {u d y : Nat} (q : Nat) (hy : 0 < y) (hy2 : y ≤ 18446744073709551616) (hq : q = (u * 4294967296 + d) / y) :
    ((u * 4294967296 % 18446744073709551616 + d) % 18446744073709551616 + 18446744073709551616 - q * y % 18446744073709551616) % 18446744073709551616 = (u * 4294967296 + d) % y := by
  have e := Nat.div_add_mod (u * 4294967296 + d) y
  rw [← hq, Nat.mul_comm] at e
  have l := Nat.mod_lt (u * 4294967296 + d) hy
  omega
/-- A number parted in two, and shifted. -/
theorem shift_or (h l s : Nat) (hs : s ≤ 64) (hl : l < 18446744073709551616) : h * 2 ^ s ||| l / 2 ^ (64 - s) = (h * 18446744073709551616 + l) * 2 ^ s / 18446744073709551616 := by
  have e : 18446744073709551616 = 2 ^ (64 - s) * 2 ^ s := by rw [← Nat.pow_add, show 64 - s + s = 64 by omega]
  have hp : 0 < 2 ^ s := Nat.two_pow_pos s
  have hlt : l / 2 ^ (64 - s) < 2 ^ s := by
    rw [Nat.div_lt_iff_lt_mul (Nat.two_pow_pos _), Nat.mul_comm, ← e]; exact hl
  have h1 : h * 2 ^ s ||| l / 2 ^ (64 - s) = h * 2 ^ s + l / 2 ^ (64 - s) := by
    rw [Nat.mul_comm, ← Nat.two_pow_add_eq_or_of_lt hlt]
  rw [h1]
  have h2 : (h * 18446744073709551616 + l) * 2 ^ s / 18446744073709551616 = (h * 18446744073709551616 + l) / 2 ^ (64 - s) := by
    conv => lhs; rhs; rw [e]
    rw [Nat.mul_div_mul_right _ _ hp]
  rw [h2]
  have h3 : h * 18446744073709551616 = h * 2 ^ s * 2 ^ (64 - s) := by rw [Nat.mul_assoc, Nat.mul_comm (2 ^ s), ← e]
  rw [h3, Nat.add_comm (h * 2 ^ s * _), Nat.add_mul_div_right _ _ (Nat.two_pow_pos _), Nat.add_comm]
theorem shift_low (h l s : Nat) : (h * 18446744073709551616 + l) * 2 ^ s % 18446744073709551616 = l * 2 ^ s % 18446744073709551616 := by
  rw [Nat.add_mul, show h * 18446744073709551616 * 2 ^ s = h * 2 ^ s * 18446744073709551616 by rw [Nat.mul_assoc, Nat.mul_comm 18446744073709551616, Nat.mul_assoc]]
  omega
theorem base_div (B v d y : Nat) (hy : 0 < y) : (v * B + d) / y = v / y * B + (v % y * B + d) / y := by
  have e := Nat.div_add_mod v y
  have : v * B + d = y * (v / y * B) + (v % y * B + d) := by
    conv => lhs; rw [← e]
    rw [Nat.add_mul, Nat.add_assoc, Nat.mul_assoc]
  rw [this, Nat.mul_add_div hy]
theorem base_mod (B v d y : Nat) : (v * B + d) % y = (v % y * B + d) % y := by
  have e := Nat.div_add_mod v y
  have : v * B + d = y * (v / y * B) + (v % y * B + d) := by
    conv => lhs; rw [← e]
    rw [Nat.add_mul, Nat.add_assoc, Nat.mul_assoc]
  rw [this, Nat.mul_add_mod]
theorem shift_div (N y s : Nat) : N * 2 ^ s / (y * 2 ^ s) = N / y := Nat.mul_div_mul_right _ _ (Nat.two_pow_pos s)
theorem shift_mod (N y s : Nat) : N * 2 ^ s % (y * 2 ^ s) / 2 ^ s = N % y := by
  rw [Nat.mul_mod_mul_right, Nat.mul_div_cancel _ (Nat.two_pow_pos s)]
/-- How far y is shifted. -/
theorem norm_of {y n : Nat} (h1 : 2 ^ n ≤ y) (h2 : y < 2 ^ (n + 1)) (hn : n < 64) : 9223372036854775808 ≤ y * 2 ^ (63 - n) ∧ y * 2 ^ (63 - n) < 18446744073709551616 := by
  have a := Nat.mul_le_mul_right (2 ^ (63 - n)) h1
  have b := (Nat.mul_lt_mul_right (Nat.two_pow_pos (63 - n))).2 h2
  rw [← Nat.pow_add] at a b
  rw [show n + (63 - n) = 63 by omega] at a
  rw [show n + 1 + (63 - n) = 64 by omega] at b
  exact ⟨a, b⟩
end Go.Proofs.Ytbiofjddclbncaa.Mo
