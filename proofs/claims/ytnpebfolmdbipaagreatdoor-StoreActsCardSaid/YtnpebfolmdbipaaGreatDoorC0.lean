namespace Go.Proofs.YtnpebfolmdbipaaGreatDoor.Crc

/-- One step, a bit that is none. -/
def st (n : Nat) : Nat := if n % 2 = 1 then n / 2 ^^^ 2197175160 else n / 2
def sts : Nat → Nat → Nat
  | 0, n => n
  | k + 1, n => sts k (st n)
def byte (n x : Nat) : Nat := sts 8 (n ^^^ x)
def thru (n : Nat) (l : List UInt8) : Nat := l.foldl (fun n x => byte n x.toNat) n
def check (l : List UInt8) : Nat := thru 4294967295 l ^^^ 4294967295

theorem xor_swap (a b c d : Nat) : (a ^^^ b) ^^^ (c ^^^ d) = (a ^^^ c) ^^^ (b ^^^ d) := by
  rw [Nat.xor_assoc, ← Nat.xor_assoc b c d, Nat.xor_comm b c, Nat.xor_assoc c b d, ← Nat.xor_assoc]
theorem xor_mod2 (a b : Nat) : (a ^^^ b) % 2 = (a + b) % 2 := by
  have h := @Nat.xor_mod_two_pow a b 1
  rw [Nat.pow_one] at h
  rw [h]
  rcases Nat.mod_two_eq_zero_or_one a with ha | ha <;> rcases Nat.mod_two_eq_zero_or_one b with hb | hb <;> rw [ha, hb]
  · show 0 = _; omega
  · show 1 = _; omega
  · show 1 = _; omega
  · show 0 = _; omega
theorem st_xor (a b : Nat) : st (a ^^^ b) = st a ^^^ st b := by
  have h1 : (a ^^^ b) / 2 = a / 2 ^^^ b / 2 := Nat.xor_div_two
  have h2 : (a ^^^ b) % 2 = (a + b) % 2 := xor_mod2 a b
  unfold st
  rw [h1, h2]
  rcases Nat.mod_two_eq_zero_or_one a with ha | ha <;> rcases Nat.mod_two_eq_zero_or_one b with hb | hb
  · rw [if_neg (by omega), if_neg (by omega), if_neg (by omega)]
  · rw [if_pos (by omega), if_neg (by omega), if_pos hb, Nat.xor_assoc]
  · rw [if_pos (by omega), if_pos ha, if_neg (by omega), Nat.xor_assoc, Nat.xor_assoc, Nat.xor_comm (b / 2)]
  · rw [if_neg (by omega), if_pos ha, if_pos hb, xor_swap, Nat.xor_self, Nat.xor_zero]
theorem sts_xor (k a b : Nat) : sts k (a ^^^ b) = sts k a ^^^ sts k b := by
  induction k generalizing a b with
  | zero => rfl
  | succ k ih => rw [sts, sts, sts, st_xor, ih]
theorem sts_add (j k n : Nat) : sts (j + k) n = sts k (sts j n) := by
  induction j generalizing n with
  | zero => rw [Nat.zero_add]; rfl
  | succ j ih => rw [Nat.add_right_comm, sts, sts, ih]
theorem st_two (q : Nat) : st (2 * q) = q := by unfold st; rw [if_neg (by omega)]; omega
theorem sts_two (k q : Nat) : sts k (2 ^ k * q) = q := by
  induction k generalizing q with
  | zero => rw [Nat.pow_zero, Nat.one_mul]; rfl
  | succ k ih => rw [sts, show 2 ^ (k + 1) * q = 2 * (2 ^ k * q) by rw [Nat.pow_succ, Nat.mul_comm (2 ^ k), Nat.mul_assoc], st_two, ih]
theorem sts_zero (k : Nat) : sts k 0 = 0 := by have := sts_two k 0; simpa using this
theorem st_lt (n : Nat) (h : n < 4294967296) : st n < 4294967296 := by
  unfold st; split
  · exact Nat.xor_lt_two_pow (n := 32) (by omega) (by omega)
  · omega
theorem sts_lt (k n : Nat) (h : n < 4294967296) : sts k n < 4294967296 := by
  induction k generalizing n with
  | zero => exact h
  | succ k ih => exact ih _ (st_lt n h)
theorem st_ne (n : Nat) (h : n < 4294967296) (h0 : n ≠ 0) : st n ≠ 0 := by
  unfold st; split
  · intro e
    have e2 : n / 2 = 2197175160 := by
      have := congrArg (· ^^^ 2197175160) e
      simp only [Nat.xor_assoc, Nat.xor_self, Nat.xor_zero, Nat.zero_xor] at this
      exact this
    omega
  · omega
theorem sts_ne (k n : Nat) (h : n < 4294967296) (h0 : n ≠ 0) : sts k n ≠ 0 := by
  induction k generalizing n with
  | zero => exact h0
  | succ k ih => exact ih _ (st_lt n h) (st_ne n h h0)
/-- Bits that differ within 32. -/
theorem sts_far (k j e : Nat) (hj : j ≤ k) (h : e < 4294967296) (h0 : e ≠ 0) : sts k (2 ^ j * e) ≠ 0 := by
  obtain ⟨m, rfl⟩ := Nat.exists_eq_add_of_le hj
  rw [sts_add, sts_two]
  exact sts_ne m e h h0

/-- Sum without carry, of what does not meet. -/
theorem mul_xor (k q r : Nat) (h : r < 2 ^ k) : r ^^^ 2 ^ k * q = r + 2 ^ k * q := by
  apply Nat.eq_of_testBit_eq
  intro i
  rw [Nat.add_comm, Nat.testBit_xor, Nat.testBit_two_pow_mul_add _ h, Nat.testBit_two_pow_mul]
  by_cases hi : i < k
  · simp [hi, Nat.not_le.2 hi]
  · have : r.testBit i = false := Nat.testBit_lt_two_pow (Nat.lt_of_lt_of_le h (Nat.pow_le_pow_right (by omega) (by omega)))
    simp [hi, this, Nat.le_of_not_lt hi]

theorem shl_eq (k a : Nat) : a <<< k = 2 ^ k * a := by rw [Nat.shiftLeft_eq, Nat.mul_comm]

/-- The number that bytes make, the lowest first. -/
def num : List UInt8 → Nat
  | [] => 0
  | x :: l => x.toNat + 256 * num l
theorem num_cons (x : UInt8) (l : List UInt8) : num (x :: l) = x.toNat ^^^ 2 ^ 8 * num l := by
  rw [mul_xor 8 (num l) x.toNat x.toNat_lt]; rfl
theorem thru_num (l : List UInt8) (s : Nat) : thru s l = sts (8 * l.length) (s ^^^ num l) := by
  induction l generalizing s with
  | nil => simp [thru, num, sts]
  | cons x l ih =>
    have e : thru s (x :: l) = thru (byte s x.toNat) l := rfl
    rw [e, ih, List.length_cons, show 8 * (l.length + 1) = 8 + 8 * l.length by omega, sts_add, num_cons, ← Nat.xor_assoc, sts_xor 8, sts_two, byte]
theorem thru_lt (s : Nat) (l : List UInt8) (h : s < 4294967296) : thru s l < 4294967296 := by
  induction l generalizing s with
  | nil => exact h
  | cons x l ih => exact ih _ (sts_lt 8 _ (Nat.xor_lt_two_pow (n := 32) (by omega) (by have := x.toNat_lt; omega)))
theorem check_lt (l : List UInt8) : check l < 4294967296 := Nat.xor_lt_two_pow (n := 32) (thru_lt _ _ (by decide)) (by decide)
theorem xor_cancel (a b c : Nat) (h : a ^^^ c = b ^^^ c) : a = b := by
  have := congrArg (· ^^^ c) h
  simp only [Nat.xor_assoc, Nat.xor_self, Nat.xor_zero] at this
  exact this
theorem xor_ne (a b : Nat) (h : a ≠ b) : a ^^^ b ≠ 0 := by
  intro e
  apply h
  have := congrArg (· ^^^ b) e
  simp only [Nat.xor_assoc, Nat.xor_self, Nat.xor_zero, Nat.zero_xor] at this
  exact this
/-- Bytes, as many, that are other ones only within 32 bits, have another check. -/
theorem check_ne (a b : List UInt8) (j e : Nat) (hl : a.length = b.length) (hd : num a ^^^ num b = 2 ^ j * e) (hj : j ≤ 8 * a.length) (h : e < 4294967296) (h0 : e ≠ 0) : check a ≠ check b := by
  intro hc
  have h1 := xor_cancel _ _ _ hc
  rw [thru_num, thru_num, ← hl, sts_xor, sts_xor] at h1
  rw [Nat.xor_comm _ (sts _ (num a)), Nat.xor_comm _ (sts _ (num b))] at h1
  have h2 := xor_cancel _ _ _ h1
  have h3 : sts (8 * a.length) (num a ^^^ num b) = 0 := by rw [sts_xor, h2, Nat.xor_self]
  rw [hd] at h3
  exact sts_far _ _ _ hj h h0 h3

/-- The table. -/
def four : List Nat := [0, 274646895, 549293790, 820201905, 1098587580, 1361435347, 1640403810, 1905808397, 2197175160, 2460548119, 2722870694, 2987750089, 3280807620, 3553878443, 3811616794, 4084100981]
theorem four_at : ∀ r, r < 16 → sts 4 r = four.getD r 0 := by decide
theorem four_lt : ∀ r, r < 16 → four.getD r 0 < 4294967296 := by decide
theorem sts_four (n : Nat) : sts 4 n = n / 16 ^^^ four.getD (n % 16) 0 := by
  have h : n = n % 16 ^^^ 2 ^ 4 * (n / 16) := by rw [mul_xor 4 _ _ (by omega)]; omega
  rw [← four_at _ (Nat.mod_lt _ (by decide)), Nat.xor_comm (n / 16)]
  have e : sts 4 n = sts 4 (n % 16 ^^^ 2 ^ 4 * (n / 16)) := by rw [← h]
  rw [e, sts_xor, sts_two]
theorem byte_four (n x : Nat) : byte n x = sts 4 (n ^^^ x) / 16 ^^^ four.getD (sts 4 (n ^^^ x) % 16) 0 := by
  rw [← sts_four, ← sts_add]; rfl

/-- Bit by bit, as it is told. -/
def bitStep (n b : Nat) : Nat := if n % 2 ≠ b then n / 2 ^^^ 2197175160 else n / 2
def bitsOf (n x : Nat) : Nat → Nat
  | 0 => n
  | k + 1 => bitStep (bitsOf n x k) (x / 2 ^ k % 2)
theorem bitStep_st (n b : Nat) (hb : b < 2) : bitStep n b = st (n ^^^ b) := by
  have h1 : (n ^^^ b) / 2 = n / 2 ^^^ b / 2 := Nat.xor_div_two
  have h2 : (n ^^^ b) % 2 = (n + b) % 2 := xor_mod2 n b
  unfold bitStep st
  rw [h1, h2, show b / 2 = 0 by omega, Nat.xor_zero]
  by_cases h : n % 2 ≠ b
  · rw [if_pos h, if_pos (by omega)]
  · rw [if_neg h, if_neg (by omega)]
theorem bitsOf_sts (n x k : Nat) : bitsOf n x k = sts k (n ^^^ x % 2 ^ k) := by
  induction k with
  | zero => simp [bitsOf, sts, Nat.mod_one]
  | succ k ih =>
    rw [bitsOf, ih, bitStep_st _ _ (Nat.mod_lt _ (by decide))]
    have e : x % 2 ^ (k + 1) = x % 2 ^ k ^^^ 2 ^ k * (x / 2 ^ k % 2) := by
      rw [mul_xor k _ _ (Nat.mod_lt _ (Nat.two_pow_pos k)), Nat.pow_succ, Nat.mod_mul]
    have e2 : x / 2 ^ k % 2 = sts k (2 ^ k * (x / 2 ^ k % 2)) := (sts_two _ _).symm
    rw [e2, ← sts_xor, Nat.xor_assoc, ← e, sts_add k 1]; rfl
theorem byte_bits (n x : Nat) (hx : x < 256) : byte n x = bitsOf n x 8 := by
  rw [bitsOf_sts, Nat.mod_eq_of_lt (by simpa using hx)]; rfl
theorem bitsOf_lt (n x k : Nat) (hn : n < 4294967296) (hx : x < 256) : bitsOf n x k < 4294967296 := by
  rw [bitsOf_sts]
  exact sts_lt _ _ (Nat.xor_lt_two_pow (n := 32) (by omega) (Nat.lt_of_le_of_lt (Nat.mod_le _ _) (by omega)))
theorem thru_snoc (s : Nat) (l : List UInt8) (k : Nat) (h : k < l.length) : thru s (l.take (k + 1)) = byte (thru s (l.take k)) l[k].toNat := by
  unfold thru; rw [List.take_succ_eq_append_getElem h, List.foldl_append]; rfl
theorem thru_app (s : Nat) (a b : List UInt8) : thru s (a ++ b) = thru (thru s a) b := by unfold thru; rw [List.foldl_append]

theorem num_app (a b : List UInt8) : num (a ++ b) = num a ^^^ 2 ^ (8 * a.length) * num b := by
  induction a with
  | nil => simp [num]
  | cons x a ih =>
    rw [List.cons_append, num_cons, ih, num_cons, List.length_cons, Nat.xor_assoc]
    congr 1
    rw [show 8 * (a.length + 1) = 8 + 8 * a.length by omega, Nat.pow_add, Nat.mul_assoc]
    simp only [← shl_eq, Nat.shiftLeft_xor_distrib]
end Go.Proofs.YtnpebfolmdbipaaGreatDoor.Crc
