import Derived.Test.YthaleikmdoijbaaRows
import Derived.Test.YthaleikmdoijbaaMem
import Derived.Test.YthaleikmdoijbaaMo0
import Derived.Outline
import Derived.LoopTactic
import Derived.BigQuiet
import Derived.Deep.CutBlock
import Derived.Deep.LoopGhost
namespace Go.Proofs.Ythaleikmdoijbaa.Mo
set_option linter.unusedVariables false
set_option linter.unusedSimpArgs false
open Go.RowKit Mem

theorem u64_nat (n : Nat) (h : n < 18446744073709551616) : IntKind.u64.wrap (n : Int) = n := by rw [IntKind.wrap_u64]; omega
/-- What a round meets. -/
theorem dig_round {u d a b x z : Nat} (X : Dig u d a b x z) :
    (∃ m n : Nat, x < 4294967296 ∧ m ≤ n ∧ IntKind.u64.wrap ((x : Int) * (b : Int)) = m ∧ IntKind.u64.wrap (IntKind.u64.wrap (4294967296 * (z : Int)) + (d : Int)) = n ∧ x = (u * 4294967296 + d) / (a * 4294967296 + b)) ∨
    (∃ k y : Nat, (4294967296 ≤ x ∨ ∃ m n : Nat, x < 4294967296 ∧ n < m ∧ IntKind.u64.wrap ((x : Int) * (b : Int)) = m ∧ IntKind.u64.wrap (IntKind.u64.wrap (4294967296 * (z : Int)) + (d : Int)) = n) ∧ k < x ∧ IntKind.u64.wrap ((x : Int) - 1) = k ∧ IntKind.u64.wrap ((z : Int) + (a : Int)) = y ∧
      ((y < 4294967296 ∧ Dig u d a b k y) ∨ (4294967296 ≤ y ∧ k = (u * 4294967296 + d) / (a * 4294967296 + b)))) := by
  have hd := X.hd; have hr := X.hr; have ha := X.a2; have hb := X.hb; have hu := X.hu; have ha1 := X.a1
  have hx : x < 18446744073709551616 := by
    have e := X.eq
    rcases Nat.lt_or_ge x 18446744073709551616 with h | h
    · exact h
    · have := Nat.mul_le_mul h ha1
      omega
  have key : ∀ m, x * b = m → x < 4294967296 → m < 18446744073709551616 ∧ IntKind.u64.wrap ((x : Int) * (b : Int)) = m := by
    intro m hm hl
    have : x * b ≤ 4294967295 * 4294967295 := Nat.mul_le_mul (by omega) (by omega)
    have h2 : m < 18446744073709551616 := by omega
    refine ⟨h2, ?_⟩
    rw [← Int.natCast_mul, hm, u64_nat _ h2]
  have key2 : IntKind.u64.wrap (IntKind.u64.wrap (4294967296 * (z : Int)) + (d : Int)) = ((4294967296 * z + d : Nat) : Int) := by
    rw [IntKind.wrap_u64, IntKind.wrap_u64]; omega
  have go : (4294967296 ≤ x ∨ 4294967296 * z + d < x * b) → (4294967296 ≤ x ∨ ∃ m n : Nat, x < 4294967296 ∧ n < m ∧ IntKind.u64.wrap ((x : Int) * (b : Int)) = m ∧ IntKind.u64.wrap (IntKind.u64.wrap (4294967296 * (z : Int)) + (d : Int)) = n) → ∃ k y : Nat, (4294967296 ≤ x ∨ ∃ m n : Nat, x < 4294967296 ∧ n < m ∧ IntKind.u64.wrap ((x : Int) * (b : Int)) = m ∧ IntKind.u64.wrap (IntKind.u64.wrap (4294967296 * (z : Int)) + (d : Int)) = n) ∧ k < x ∧ IntKind.u64.wrap ((x : Int) - 1) = k ∧ IntKind.u64.wrap ((z : Int) + (a : Int)) = y ∧
      ((y < 4294967296 ∧ Dig u d a b k y) ∨ (4294967296 ≤ y ∧ k = (u * 4294967296 + d) / (a * 4294967296 + b))) := by
    intro h1 h2
    obtain ⟨k, e, hk, he⟩ := X.down h1
    refine ⟨k, z + a, h2, by omega, by rw [IntKind.wrap_u64]; omega, by rw [IntKind.wrap_u64]; omega, ?_⟩
    rcases Nat.lt_or_ge (z + a) 4294967296 with h | h
    · exact .inl ⟨h, X.next hk he h⟩
    · exact .inr ⟨h, X.last hk he h⟩
  rcases Nat.lt_or_ge x 4294967296 with h | h
  · obtain ⟨m, hm⟩ : ∃ m, x * b = m := ⟨_, rfl⟩
    obtain ⟨_, k1⟩ := key m hm h
    rcases Nat.lt_or_ge (4294967296 * z + d) m with g | g
    · exact .inr (go (.inr (by omega)) (.inr ⟨m, _, h, g, k1, key2⟩))
    · exact .inl ⟨m, _, h, g, k1, key2, X.out (by omega)⟩
  · exact .inr (go (.inl h) (.inl h))

end Go.Proofs.Ythaleikmdoijbaa.Mo
