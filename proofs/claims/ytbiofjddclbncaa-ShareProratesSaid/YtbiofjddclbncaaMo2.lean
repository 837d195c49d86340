import Derived.Test.YtbiofjddclbncaaMo1
import Derived.Test.YtbiofjddclbncaaSh
import Derived.Test.YtbiofjddclbncaaInts
import Derived.Laws.BitsAllLaws
import Derived.Lib.ItoaNum
namespace Go.Proofs.Ytbiofjddclbncaa.Mo
set_option linter.unusedVariables false
set_option linter.unusedSimpArgs false
open Go.RowKit Mem


theorem split32 {Y a b : Nat} (ha : Y / 4294967296 = a) (hb : Y % 4294967296 = b) : a * 4294967296 + b = Y := by omega
theorem split64 {u L d1 d0 : Nat} (ha : L / 4294967296 = d1) (hb : L % 4294967296 = d0) : u * 18446744073709551616 + L = (u * 4294967296 + d1) * 4294967296 + d0 := by omega
theorem named {α : Type} (x : α) : ∃ y, x = y := ⟨x, rfl⟩
theorem lz_any {y : Nat} (h0 : 0 < y) (h1 : y < 18446744073709551616) : ∃ s : Nat, s ≤ 63 ∧ 9223372036854775808 ≤ y * 2 ^ s ∧ y * 2 ^ s < 18446744073709551616 ∧
    ∀ W, Calls Try.prog 40 #[.int .u64 y] W fun e w' => e = .returned (.int .i64 s) ∧ W = w' := by
  obtain ⟨b1, b2, b3⟩ := Lib.bitLenAux_bounds 64 y (by omega) (by omega)
  obtain ⟨n, hn⟩ : ∃ n, Lib.bitLenAux 64 y = n + 1 := ⟨Lib.bitLenAux 64 y - 1, by omega⟩
  rw [hn] at b2 b3
  rw [Nat.add_sub_cancel] at b2
  have hn64 : n < 64 := by
    rcases Nat.lt_or_ge n 64 with h | h
    · exact h
    · have := Nat.pow_le_pow_right (n := 2) (by omega) h
      omega
  obtain ⟨c1, c2⟩ := norm_of b2 b3 hn64
  refine ⟨63 - n, by omega, c1, c2, fun W => ?_⟩
  have L := Any.bits_LeadingZeros64 Try.lays134 (y : Int) W (by omega) (by omega)
  refine Calls.mono (show Calls Try.prog 40 _ _ _ from L) ?_
  rintro e w' ⟨rfl, rfl⟩
  refine ⟨?_, rfl⟩
  have : Lib.bitLen (y : Int).toNat = n + 1 := hn
  rw [this]
  congr 2; omega

theorem and_low (n : Nat) (h : n < 18446744073709551616) : bits .and .u64 (n : Int) 4294967295 = ((n % 4294967296 : Nat) : Int) := Mul64.maskN n h
theorem or_nat (a b : Nat) (ha : a < 18446744073709551616) (hb : b < 18446744073709551616) : bits .or .u64 (a : Int) (b : Int) = ((a ||| b : Nat) : Int) := u64_or_nat a b ha hb

theorem div_any (h l y : Nat) (w : World) (hl : l < 18446744073709551616) (hy : y < 18446744073709551616) (hh : h < y) :
    Calls Try.prog 29 #[.int .u64 h, .int .u64 l, .int .u64 y] w fun e w' => e = .returned (.tuple #[.int .u64 (((h * 18446744073709551616 + l) / y : Nat) : Int), .int .u64 (((h * 18446744073709551616 + l) % y : Nat) : Int)]) ∧ Below w.heap.size w w' := by
  rcases Nat.eq_zero_or_pos h with rfl | h0
  · have y0 : ¬ (y : Int) = 0 := by omega
    have hq : l / y < 18446744073709551616 := Nat.lt_of_le_of_lt (Nat.div_le_self _ _) hl
    have k1 : IntKind.u64.wrap ((l : Int) / (y : Int)) = ((l / y : Nat) : Int) := by rw [← Int.natCast_ediv, u64_nat _ hq]
    rw [Nat.zero_mul, Nat.zero_add, Int.natCast_emod]
    generalize l / y = q at *
    clear hl hy hq
    go_enter Try.func29, Try.ntmps29
    go_wp2_with fail
    go_quiet (fail)
    rename_i nq
    go_wp2_with fail
    go_ret2
    exact ⟨rfl, below_drewN (Below.refl _ _) _⟩
  · obtain ⟨s, hs, n1, n2, LZ⟩ := lz_any (by omega : 0 < y) hy
    obtain ⟨Y, hY⟩ := named (y * 2 ^ s)
    obtain ⟨N, hN⟩ := named (h * 18446744073709551616 + l)
    obtain ⟨u, hu⟩ := named (N * 2 ^ s / 18446744073709551616)
    obtain ⟨L, hL⟩ := named (l * 2 ^ s % 18446744073709551616)
    have hp : 0 < 2 ^ s := Nat.two_pow_pos s
    have hNL : N * 2 ^ s % 18446744073709551616 = L := by rw [← hN, shift_low, hL]
    have hNu : N * 2 ^ s = u * 18446744073709551616 + L := by omega
    have hNy : N < y * 18446744073709551616 := by omega
    have huY : u < Y := by
      have := (Nat.mul_lt_mul_right hp).2 hNy
      rw [Nat.mul_right_comm, hY] at this
      omega
    rw [hY] at n1 n2
    obtain ⟨a, ha⟩ := named (Y / 4294967296)
    obtain ⟨b, hb⟩ := named (Y % 4294967296)
    obtain ⟨d1, hd1⟩ := named (L / 4294967296)
    obtain ⟨d0, hd0⟩ := named (L % 4294967296)
    have eY : a * 4294967296 + b = Y := split32 ha hb
    have huab : u < a * 4294967296 + b := by omega
    have D1 := dig_first (d := d1) huab (by omega) (by omega) (by omega) (by omega)
    obtain ⟨Q1, hQ1⟩ := named ((u * 4294967296 + d1) / Y)
    obtain ⟨U, hU⟩ := named ((u * 4294967296 + d1) % Y)
    have hUY : U < Y := by rw [← hU]; exact Nat.mod_lt _ (by omega)
    have hUab : U < a * 4294967296 + b := by omega
    have D0 := dig_first (d := d0) hUab (by omega) (by omega) (by omega) (by omega)
    obtain ⟨Q0, hQ0⟩ := named ((U * 4294967296 + d0) / Y)
    obtain ⟨R, hR⟩ := named ((U * 4294967296 + d0) % Y)
    have hRY : R < Y := by rw [← hR]; exact Nat.mod_lt _ (by omega)
    have l1 : Q1 < 4294967296 := by rw [← hQ1, ← eY]; exact dig_lt huab (by omega)
    have l0 : Q0 < 4294967296 := by rw [← hQ0, ← eY]; exact dig_lt hUab (by omega)
    have m1 := Nat.div_add_mod (u * 4294967296 + d1) Y
    have m0 := Nat.div_add_mod (U * 4294967296 + d0) Y
    rw [hQ1, hU, Nat.mul_comm] at m1
    rw [hQ0, hR, Nat.mul_comm] at m0
    have whole : N / y = Q1 * 4294967296 + Q0 := by
      rw [← shift_div N y s, hY, hNu, split64 hd1 hd0, base_div _ _ _ _ (by omega), hQ1, hU, hQ0]
    have rest : N % y = R / 2 ^ s := by
      rw [← shift_mod N y s, hY, hNu, split64 hd1 hd0, base_mod, hU, hR]
    rw [hN, whole, rest]
    have q1u : u / a < 18446744073709551616 := Nat.lt_of_le_of_lt (Nat.div_le_self _ _) (by omega)
    have q0u : U / a < 18446744073709551616 := Nat.lt_of_le_of_lt (Nat.div_le_self _ _) (by omega)
    have c1 := Nat.div_add_mod u a
    have c0 := Nat.div_add_mod U a
    rw [Nat.mul_comm] at c1 c0
    have cast1 := Int.natCast_ediv u a
    have cast0 := Int.natCast_ediv U a
    have z1 : (((2 : Int) ^ s)) = ((2 ^ s : Nat) : Int) := by simp
    refine div_core h l y s Y a b L u d1 d0 (u / a) (u % a) Q1 U (U / a) (U % a) Q0 _ _ w hh h0 hs ?_ ?_ ?_ ?_ ?_ ?_ ?_ ?_ ?_ ?_ ?_ ?_ (Lib.hid D1) (Lib.hid (by rw [eY, hQ1])) ?_ ?_ ?_ (Lib.hid D0) (Lib.hid (by rw [eY, hQ0])) ?_ ?_ (Lib.hid LZ)
    · rw [z1, ← Int.natCast_mul, hY, u64_nat _ n2]
    · omega
    · rw [and_low _ n2, hb]
    · rw [z1, ← Int.natCast_mul, IntKind.wrap_u64, ← hL]; omega
    · have hs2 : h * 2 ^ s < 18446744073709551616 := by
        have := Nat.mul_lt_mul_of_lt_of_le hh (Nat.le_refl (2 ^ s)) hp
        omega
      have hdl : l / 2 ^ (64 - s) < 18446744073709551616 := Nat.lt_of_le_of_lt (Nat.div_le_self _ _) hl
      have z2 : ((2 : Int) ^ (64 - s)) = ((2 ^ (64 - s) : Nat) : Int) := by simp
      rw [z1, z2, ← Int.natCast_mul, u64_nat _ hs2, ← Int.natCast_ediv, or_nat _ _ hs2 hdl, shift_or h l s (by omega) hl, hN, hu]
    · omega
    · rw [and_low _ (by omega), hd0]
    · omega
    · omega
    · rw [← Int.natCast_mul, IntKind.wrap_u64, IntKind.wrap_u64]; omega
    · exact u64_nat _ q1u
    · exact u64_nat _ q0u
    · rw [← Int.natCast_mul, IntKind.wrap_u64, IntKind.wrap_u64, IntKind.wrap_u64, IntKind.wrap_u64]; omega
    · omega
    · rw [← Int.natCast_mul, IntKind.wrap_u64, IntKind.wrap_u64]; omega
    · rw [IntKind.wrap_u64, IntKind.wrap_u64]; omega
    · rw [z1, ← Int.natCast_mul, IntKind.wrap_u64, IntKind.wrap_u64, IntKind.wrap_u64, IntKind.wrap_u64, Int.natCast_ediv]
      congr 1; omega
end Go.Proofs.Ytbiofjddclbncaa.Mo
