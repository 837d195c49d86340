import Derived.Test.YtbiofjddclbncaaMo2
namespace Go.Proofs.Ytbiofjddclbncaa.Mo
set_option linter.unusedVariables false
set_option linter.unusedSimpArgs false
open Go.RowKit Mem

/-- 64 times the sign. -/
def sgn (n : Int) : Int := if n < 0 then 18446744073709551615 else 0
/-- A number of 128 bits. -/
def wd (V : Int) : Value := .agg #[.int .u64 (V % 340282366920938463463374607431768211456 / 18446744073709551616), .int .u64 (V % 18446744073709551616)]
/-- A number of 64 bits. -/
def isn (V : Int) : Bool := decide (-9223372036854775808 ≤ V ∧ V ≤ 9223372036854775807)
def na (V : Int) : Int := if isn V then V else 0
def ne (V : Int) : Int := if isn V then 0 else 30

set_option maxHeartbeats 400000 in
theorem signs_any {n : Int} (w : World) (h1 : -9223372036854775808 ≤ n) (h2 : n ≤ 9223372036854775807) :
    Calls Try.prog 38 #[.int .i64 n] w fun e w' => e = .returned (.int .u64 (sgn n)) ∧ w' = w := by
  have k : IntKind.u64.wrap (n / 9223372036854775808) = sgn n := by
    rw [IntKind.wrap_u64]; unfold sgn; split <;> omega
  clear h1 h2
  go_enter Try.func38, Try.ntmps38
  go_wp2_with fail
  go_ret
  exact ⟨rfl, rfl⟩

theorem run_add64 (x y : Int) (w : World) (hx : 0 ≤ x) (hy : 0 ≤ y) (c : Int) (hc : c = 0 ∨ c = 1) :
    (callFunc 37 #[.int .u64 x, .int .u64 y, .int .u64 c]).run Try.prog w = .ok (.value (.tuple #[.int .u64 ((x + y + c) % 18446744073709551616), .int .u64 ((x + y + c) / 18446744073709551616)])) w := by
  obtain ⟨x, rfl⟩ := Int.eq_ofNat_of_zero_le hx
  obtain ⟨y, rfl⟩ := Int.eq_ofNat_of_zero_le hy
  obtain ⟨c, rfl⟩ : ∃ k : Nat, c = k := ⟨c.toNat, by omega⟩
  have := Any7.bits_Add64 Try.lays25 x y c (by omega) w
  refine (show (callFunc 37 _).run Try.prog w = _ from this).trans ?_
  simp only [Int.natCast_emod, Int.natCast_ediv, Int.natCast_add]
  rfl

set_option maxHeartbeats 400000 in
theorem plus_any (V n : Int) (w : World) (h1 : -9223372036854775808 ≤ n) (h2 : n ≤ 9223372036854775807) :
    Calls Try.prog 26 #[wd V, .int .i64 n] w fun e w' => e = .returned (wd (V + n)) ∧ Below w.heap.size w w' := by
  have C := Lib.hid (fun W => signs_any (n := n) W h1 h2)
  obtain ⟨lo, hlo⟩ := named ((V + n) % 18446744073709551616)
  obtain ⟨c, hc⟩ := named ((V % 18446744073709551616 + n % 18446744073709551616) / 18446744073709551616)
  obtain ⟨hi, hhi⟩ := named ((V + n) % 340282366920938463463374607431768211456 / 18446744073709551616)
  have A1 : ∀ W, (callFunc 37 #[.int .u64 (V % 18446744073709551616), .int .u64 (IntKind.u64.wrap n), .int .u64 0]).run Try.prog W = .ok (.value (.tuple #[.int .u64 lo, .int .u64 c])) W := by
    intro W
    rw [run_add64 _ _ W (by omega) (by rw [IntKind.wrap_u64]; omega) 0 (.inl rfl), IntKind.wrap_u64, Int.add_zero, hc]
    rw [show (V % 18446744073709551616 + n % 18446744073709551616) % 18446744073709551616 = lo by omega]
  have A2 : ∃ c', ∀ W, (callFunc 37 #[.int .u64 (V % 340282366920938463463374607431768211456 / 18446744073709551616), .int .u64 (sgn n), .int .u64 c]).run Try.prog W = .ok (.value (.tuple #[.int .u64 hi, .int .u64 c'])) W := by
    refine ⟨(V % 340282366920938463463374607431768211456 / 18446744073709551616 + sgn n + c) / 18446744073709551616, fun W => ?_⟩
    have hs : 0 ≤ sgn n := by unfold sgn; split <;> omega
    rw [run_add64 _ _ W (by omega) hs c (by omega)]
    rw [show (V % 340282366920938463463374607431768211456 / 18446744073709551616 + sgn n + c) % 18446744073709551616 = hi by unfold sgn; split <;> omega]
  obtain ⟨c', A2⟩ := A2
  unfold wd
  rw [hlo, hhi]
  clear hlo hhi hc h1 h2
  go_enter Try.func26, Try.ntmps26
  go_wp2_with fail
  go_quiet (first | (go_at_call 38; refine Calls.quiet_of_same (C.out _)))
  rename_i nq
  go_wp2_with fail
  exact bodyPost_ret (v := .agg #[.int .u64 hi, .int .u64 lo]) (by simp [results, Try.results26, go_sem]) rfl ⟨rfl, (((((Below.refl _ _).alloc (Nat.le_refl _) _).alloc (by simp) _ |> (below_drewN · nq)).setCell (by simp) _).setCell (by simp) _)⟩

theorem mul64_any (x y : Int) (w : World) (hx : 0 ≤ x) (hx1 : x < 18446744073709551616) (hy : 0 ≤ y) (hy1 : y < 18446744073709551616) :
    Calls Try.prog 39 #[.int .u64 x, .int .u64 y] w fun e w' => e = .returned (.tuple #[.int .u64 (x * y / 18446744073709551616), .int .u64 (x * y % 18446744073709551616)]) ∧ w' = w := by
  obtain ⟨x, rfl⟩ := Int.eq_ofNat_of_zero_le hx
  obtain ⟨y, rfl⟩ := Int.eq_ofNat_of_zero_le hy
  have L := Any.bits_Mul64 Try.lays264 x y (by omega) (by omega) w
  refine Calls.mono (show Calls Try.prog 39 _ _ _ from L) ?_
  rintro e w' ⟨rfl, rfl⟩
  refine ⟨?_, rfl⟩
  simp only [Int.natCast_emod, Int.natCast_ediv, Int.natCast_mul]
  rfl

theorem and_sgn (a b : Int) (hb1 : -9223372036854775808 ≤ b) (hb2 : b ≤ 9223372036854775807) : bits .and .u64 (sgn a) (b % 18446744073709551616) = if a < 0 then b % 18446744073709551616 else 0 := by
  obtain ⟨n, hn⟩ : ∃ n : Nat, b % 18446744073709551616 = n := ⟨(b % 18446744073709551616).toNat, by omega⟩
  rw [hn]
  have hlt : n < 18446744073709551616 := by omega
  unfold sgn
  split
  · rw [show (18446744073709551615 : Int) = ((18446744073709551615 : Nat) : Int) from rfl, bits_and_u64_nat _ _ (by omega) hlt]
    congr 1
    rw [Nat.and_comm, show (18446744073709551615 : Nat) = 2 ^ 64 - 1 by decide, Nat.and_two_pow_sub_one_eq_mod]
    exact Nat.mod_eq_of_lt hlt
  · rw [show (0 : Int) = ((0 : Nat) : Int) from rfl, bits_and_u64_nat _ _ (by omega) hlt, Nat.zero_and]

/-- The upper half of a product of numbers with signs. -/
theorem times_high (a b : Int) (ha1 : -9223372036854775808 ≤ a) (ha2 : a ≤ 9223372036854775807) (hb1 : -9223372036854775808 ≤ b) (hb2 : b ≤ 9223372036854775807) :
    IntKind.u64.wrap (a % 18446744073709551616 * (b % 18446744073709551616) / 18446744073709551616 - IntKind.u64.wrap ((if a < 0 then b % 18446744073709551616 else 0) + (if b < 0 then a % 18446744073709551616 else 0))) = a * b % 340282366920938463463374607431768211456 / 18446744073709551616 ∧
    a % 18446744073709551616 * (b % 18446744073709551616) % 18446744073709551616 = a * b % 18446744073709551616 := by
  refine ⟨?_, (Int.mul_emod a b _).symm⟩
  rw [IntKind.wrap_u64, IntKind.wrap_u64]
  rcases Int.lt_or_le a 0 with ha | ha <;> rcases Int.lt_or_le b 0 with hb | hb
  · rw [if_pos ha, if_pos hb, show a % 18446744073709551616 = a + 18446744073709551616 by omega, show b % 18446744073709551616 = b + 18446744073709551616 by omega, Int.add_mul, Int.mul_add, Int.mul_add]
    generalize a * b = p
    omega
  · rw [if_pos ha, if_neg (by omega), show a % 18446744073709551616 = a + 18446744073709551616 by omega, show b % 18446744073709551616 = b by omega, Int.add_mul]
    generalize a * b = p
    omega
  · rw [if_neg (by omega), if_pos hb, show a % 18446744073709551616 = a by omega, show b % 18446744073709551616 = b + 18446744073709551616 by omega, Int.mul_add]
    generalize a * b = p
    omega
  · rw [if_neg (by omega), if_neg (by omega), show a % 18446744073709551616 = a by omega, show b % 18446744073709551616 = b by omega]
    generalize a * b = p
    omega

set_option maxHeartbeats 400000 in
theorem times_any (a b : Int) (w : World) (ha1 : -9223372036854775808 ≤ a) (ha2 : a ≤ 9223372036854775807) (hb1 : -9223372036854775808 ≤ b) (hb2 : b ≤ 9223372036854775807) :
    Calls Try.prog 28 #[.int .i64 a, .int .i64 b] w fun e w' => e = .returned (wd (a * b)) ∧ Below w.heap.size w w' := by
  have wa : IntKind.u64.wrap a = a % 18446744073709551616 := IntKind.wrap_u64 _
  have wb : IntKind.u64.wrap b = b % 18446744073709551616 := IntKind.wrap_u64 _
  have C1 := Lib.hid (fun W => mul64_any (a % 18446744073709551616) (b % 18446744073709551616) W (by omega) (by omega) (by omega) (by omega))
  have C2 := Lib.hid (fun W => signs_any (n := a) W ha1 ha2)
  have C3 := Lib.hid (fun W => signs_any (n := b) W hb1 hb2)
  have K1 := and_sgn a b hb1 hb2
  have K2 := and_sgn b a ha1 ha2
  obtain ⟨T1, T2⟩ := times_high a b ha1 ha2 hb1 hb2
  unfold wd
  generalize a % 18446744073709551616 * (b % 18446744073709551616) / 18446744073709551616 = m1 at *
  rw [← T2]
  generalize a % 18446744073709551616 * (b % 18446744073709551616) % 18446744073709551616 = m2 at *
  generalize a * b % 340282366920938463463374607431768211456 / 18446744073709551616 = hi at *
  generalize (if a < 0 then b % 18446744073709551616 else 0) = x1 at *
  generalize (if b < 0 then a % 18446744073709551616 else 0) = x2 at *
  generalize a % 18446744073709551616 = ua at *
  generalize b % 18446744073709551616 = ub at *
  clear ha1 ha2 hb1 hb2 T2
  go_enter Try.func28, Try.ntmps28
  go_wp2_with fail
  refine (C1.out _).mono ?_
  rintro e w1 ⟨rfl, rfl⟩
  go_wp2_with fail
  refine (C2.out _).mono ?_
  rintro e w1 ⟨rfl, rfl⟩
  go_wp2_with fail
  refine (C3.out _).mono ?_
  rintro e w1 ⟨rfl, rfl⟩
  go_wp2_with fail
  exact bodyPost_ret (v := .agg #[.int .u64 hi, .int .u64 m2]) (by simp [results, Try.results28, go_sem]) rfl ⟨rfl, (Below.refl _ _).alloc (Nat.le_refl _) _⟩

/-- What 'narrow' compares. -/
theorem narrow_is (V : Int) (h1 : -170141183460469231731687303715884105728 ≤ V) (h2 : V ≤ 170141183460469231731687303715884105727) :
    (isn V = true → IntKind.i64.wrap (V % 18446744073709551616) = V ∧ V % 340282366920938463463374607431768211456 / 18446744073709551616 = sgn V) ∧
    (isn V = false → ¬ V % 340282366920938463463374607431768211456 / 18446744073709551616 = sgn (IntKind.i64.wrap (V % 18446744073709551616))) := by
  unfold isn
  constructor
  · intro h
    simp at h
    refine ⟨by rw [IntKind.wrap_i64]; omega, ?_⟩
    unfold sgn; split <;> omega
  · intro h
    simp at h
    rw [IntKind.wrap_i64]
    unfold sgn; split <;> omega

set_option maxHeartbeats 400000 in
theorem narrow_any (V : Int) (w : World) (h1 : -170141183460469231731687303715884105728 ≤ V) (h2 : V ≤ 170141183460469231731687303715884105727) :
    Calls Try.prog 27 #[wd V] w fun e w' => e = .returned (.tuple #[.int .i64 (na V), .int .i64 (ne V)]) ∧ Below w.heap.size w w' := by
  obtain ⟨N1, N2⟩ := narrow_is V h1 h2
  have hb : -9223372036854775808 ≤ IntKind.i64.wrap (V % 18446744073709551616) ∧ IntKind.i64.wrap (V % 18446744073709551616) ≤ 9223372036854775807 := by rw [IntKind.wrap_i64]; omega
  have C := Lib.hid (fun W => signs_any (n := IntKind.i64.wrap (V % 18446744073709551616)) W hb.1 hb.2)
  clear hb h1 h2
  unfold wd na ne
  cases hv : isn V with
  | true =>
    obtain ⟨e1, e2⟩ := N1 hv
    rw [e1] at C
    clear N1 N2 hv
    rw [e2]
    clear e2
    simp only [if_true]
    go_enter Try.func27, Try.ntmps27
    go_wp2_with fail
    go_quiet (first | (go_at_call 38; refine Calls.quiet_of_same (C.out _)))
    rename_i nq
    go_wp2_with fail
    go_ret2
    exact ⟨rfl, below_drewN ((Below.refl _ _).alloc (Nat.le_refl _) _) nq⟩
  | false =>
    have e1 := N2 hv
    clear N1 N2 hv
    simp only [Bool.false_eq_true, if_false]
    generalize V % 340282366920938463463374607431768211456 / 18446744073709551616 = hi at *
    generalize hm : IntKind.i64.wrap (V % 18446744073709551616) = m at *
    generalize V % 18446744073709551616 = lo at *
    have e2 : (hi != sgn m) = true := by simpa using e1
    have e3 : (hi == sgn m) = false := by simpa using e1
    clear e1
    go_enter Try.func27, Try.ntmps27
    go_wp2_with fail
    go_quiet (first | (go_at_call 38; refine Calls.quiet_of_same (C.out _)))
    rename_i nq
    go_wp2_with fail
    go_ret2
    exact ⟨rfl, below_drewN ((Below.refl _ _).alloc (Nat.le_refl _) _) nq⟩

end Go.Proofs.Ytbiofjddclbncaa.Mo
