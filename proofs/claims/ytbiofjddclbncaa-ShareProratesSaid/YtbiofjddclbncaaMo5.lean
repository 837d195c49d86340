import Derived.Test.YtbiofjddclbncaaMo4
namespace Go.Proofs.Ytbiofjddclbncaa.Mo
set_option linter.unusedVariables false
set_option linter.unusedSimpArgs false
open Go.RowKit Mem

theorem na_t {V : Int} (h : isn V = true) : na V = V := by unfold na; rw [h]; rfl
theorem ne_t {V : Int} (h : isn V = true) : ne V = 0 := by unfold ne; rw [h]; rfl
theorem na_f {V : Int} (h : isn V = false) : na V = 0 := by unfold na; rw [h]; rfl
theorem ne_f {V : Int} (h : isn V = false) : ne V = 30 := by unfold ne; rw [h]; rfl
theorem isn_iff (V : Int) : isn V = true ↔ -9223372036854775808 ≤ V ∧ V ≤ 9223372036854775807 := by unfold isn; simp
theorem isn_not {V : Int} (h : isn V = false) : V < -9223372036854775808 ∨ 9223372036854775807 < V := by unfold isn at h; simp at h; omega
/-- What may not be asked of Part. -/
def BadP (a b d : Int) : Prop := a < 0 ∨ (0 ≤ a ∧ b < 0) ∨ (0 ≤ a ∧ 0 ≤ b ∧ d < 1)
theorem badP (a b d : Int) : BadP a b d ∨ (0 ≤ a ∧ 0 ≤ b ∧ 1 ≤ d) := by unfold BadP; omega

set_option maxHeartbeats 400000 in
theorem Part_no (a b d : Int) (w : World) (h : BadP a b d) : Calls Try.prog 15 #[.int .i64 a, .int .i64 b, .int .i64 d] w fun e w' => e = .returned (.tuple #[.int .i64 0, .int .i64 0, .int .i64 1]) ∧ Below w.heap.size w w' := by
  rcases h with h | ⟨h1, h2⟩ | ⟨h1, h2, h3⟩
  all_goals
    go_enter Try.func15, Try.ntmps15
    go_wp2_with fail
    go_ret3
    exact ⟨rfl, Below.refl _ _⟩

/-- The rest, where the part is a number. -/
def pr (q r : Int) : Int := if isn q then r else 0
set_option maxHeartbeats 1000000 in
theorem Part_yes (a b d : Int) (w : World) (ha : 0 ≤ a) (ha2 : a ≤ 9223372036854775807) (hb : 0 ≤ b) (hb2 : b ≤ 9223372036854775807) (hd : 1 ≤ d) (hd2 : d ≤ 9223372036854775807) :
    Calls Try.prog 15 #[.int .i64 a, .int .i64 b, .int .i64 d] w fun e w' => e = .returned (.tuple #[.int .i64 (na (a * b / d)), .int .i64 (pr (a * b / d) (a * b % d)), .int .i64 (ne (a * b / d))]) ∧ Below w.heap.size w w' := by
  have C1 := Lib.hid (fun W => times_any a b W (by omega) ha2 (by omega) hb2)
  obtain ⟨P, hP⟩ := named (a * b)
  have hP0 : 0 ≤ P := by rw [← hP]; exact Int.mul_nonneg ha hb
  have hP1 : P ≤ 85070591730234615865843651857942052864 := by
    have h : (a * b).natAbs ≤ 85070591730234615865843651857942052864 := by
      rw [Int.natAbs_mul]
      exact Nat.mul_le_mul (n₁ := a.natAbs) (m₁ := b.natAbs) (n₂ := 9223372036854775808) (m₂ := 9223372036854775808) (by omega) (by omega)
    omega
  rw [hP] at C1 ⊢
  have e1 : P % 340282366920938463463374607431768211456 / 18446744073709551616 = P / 18446744073709551616 := by omega
  have k3 : IntKind.u64.wrap d = d := by rw [IntKind.wrap_u64]; omega
  unfold wd at C1
  rw [e1] at C1
  have e2 := Int.mul_ediv_add_emod P 18446744073709551616
  obtain ⟨hi, hhi⟩ := named (P / 18446744073709551616)
  obtain ⟨lo, hlo⟩ := named (P % 18446744073709551616)
  rw [hhi, hlo] at C1 e2
  obtain ⟨q, hq⟩ := named (P / d)
  obtain ⟨r, hr⟩ := named (P % d)
  have e3 := Int.mul_ediv_add_emod P d
  have hr0 := Int.emod_nonneg P (show d ≠ 0 by omega)
  have hr1 := Int.emod_lt_of_pos P (show 0 < d by omega)
  have hq0 : 0 ≤ q := by rw [← hq]; exact Int.ediv_nonneg hP0 (by omega)
  rw [hq, hr] at e3 ⊢
  rw [hr] at hr0 hr1
  by_cases hge : d ≤ hi
  · -- the part has more than 64 bits
    have hbig : 18446744073709551616 ≤ q := by
      rcases Int.lt_or_le q 18446744073709551616 with h | h
      · have h1 : d * q ≤ d * 18446744073709551615 := Int.mul_le_mul_of_nonneg_left (by omega) (by omega)
        omega
      · exact h
    have hisn : isn q = false := by unfold isn; simp; omega
    unfold na ne pr
    simp only [hisn, Bool.false_eq_true, if_false]
    clear e1 e2 e3 hr0 hr1 hq0 hbig hisn hhi hlo hP hP0 hP1 hq hr ha2 hb2 hd2
    go_enter Try.func15, Try.ntmps15
    go_wp2_with fail
    refine (C1.out _).mono ?_
    rintro e w1 ⟨rfl, hb⟩
    have B1 := Lib.hid hb; clear hb
    go_wp2_with fail
    go_ret3
    exact ⟨rfl, B1.out.alloc B1.out.size _⟩
  · have hlt : hi < d := by omega
    have hqs : q < 18446744073709551616 := by
      rcases Int.lt_or_le q 18446744073709551616 with h | h
      · exact h
      · have h1 : d * 18446744073709551616 ≤ d * q := Int.mul_le_mul_of_nonneg_left h (by omega)
        omega
    have D : ∀ W, Calls Try.prog 29 #[.int .u64 hi, .int .u64 lo, .int .u64 d] W fun e w' => e = .returned (.tuple #[.int .u64 q, .int .u64 r]) ∧ Below W.heap.size W w' := by
      intro W
      have h1 := div_any hi.toNat lo.toNat d.toNat W (by omega) (by omega) (by omega)
      have g1 : ((hi.toNat : Nat) : Int) = hi := by omega
      have g2 : ((lo.toNat : Nat) : Int) = lo := by omega
      have g3 : ((d.toNat : Nat) : Int) = d := by omega
      simp only [Int.natCast_emod, Int.natCast_ediv, Int.natCast_add, Int.natCast_mul, g1, g2, g3] at h1
      rw [show hi * ((18446744073709551616 : Nat) : Int) + lo = P by omega, hq, hr] at h1
      exact h1
    have HD := Lib.hid D
    have C3 := Lib.hid (fun W => narrow_any q W (by omega) (by omega))
    unfold wd at C3
    rw [show q % 340282366920938463463374607431768211456 / 18446744073709551616 = 0 by omega, show q % 18446744073709551616 = q by omega] at C3
    have k4 : IntKind.i64.wrap r = r := by rw [IntKind.wrap_i64]; omega
    have hna : ne q = 0 ∧ pr q r = r ∨ ne q = 30 ∧ na q = 0 ∧ pr q r = 0 := by unfold ne na pr; cases isn q <;> simp
    have hlt2 : ¬ d ≤ hi := hge
    clear e1 e2 e3 hr0 hr1 hq0 hhi hlo hP hP0 hP1 hq hr ha2 hb2 hd2 hqs D hge hlt
    rcases hna with ⟨n1, n2⟩ | ⟨n1, n2, n3⟩
    all_goals
      first
        | (rw [n1, n2, n3]; rw [n1, n2] at C3; clear n1 n2 n3)
        | (rw [n1, n2]; rw [n1] at C3; clear n1 n2; generalize na q = v at *)
      go_enter Try.func15, Try.ntmps15
      go_wp2_with fail
      refine (C1.out _).mono ?_
      rintro e w1 ⟨rfl, hb⟩
      have B1 := Lib.hid hb; clear hb
      go_wp2_with fail
      refine (HD.out _).mono ?_
      rintro e w2 ⟨rfl, hb⟩
      have B2 := Lib.hid ((B1.out.alloc B1.out.size _).trans (hb.mono (Nat.le_trans B1.out.size (by simp)))); clear hb
      go_wp2_with fail
      refine (C3.out _).mono ?_
      rintro e w3 ⟨rfl, hb⟩
      have B3 := Lib.hid (B2.out.trans (hb.mono B2.out.size)); clear hb
      go_wp2_with fail
      go_ret3
      exact ⟨rfl, B3.out⟩

end Go.Proofs.Ytbiofjddclbncaa.Mo
