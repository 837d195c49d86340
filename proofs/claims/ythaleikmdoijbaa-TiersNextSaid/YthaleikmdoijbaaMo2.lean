import Derived.Test.YthaleikmdoijbaaMo1
import Derived.Test.YthaleikmdoijbaaSh
import Derived.Test.YthaleikmdoijbaaInts
import Derived.Laws.BitsAllLaws
import Derived.Lib.ItoaNum
namespace Go.Proofs.Ythaleikmdoijbaa.Mo
set_option linter.unusedVariables false
set_option linter.unusedSimpArgs false
open Go.RowKit Mem


theorem split32 {Y a b : Nat} (ha : Y / 4294967296 = a) (hb : Y % 4294967296 = b) : a * 4294967296 + b = Y := by omega
theorem split64 {u L d1 d0 : Nat} (ha : L / 4294967296 = d1) (hb : L % 4294967296 = d0) : u * 18446744073709551616 + L = (u * 4294967296 + d1) * 4294967296 + d0 := by omega
theorem named {α : Type} (x : α) : ∃ y, x = y := ⟨x, rfl⟩
theorem and_low (n : Nat) (h : n < 18446744073709551616) : bits .and .u64 (n : Int) 4294967295 = ((n % 4294967296 : Nat) : Int) := Mul64.maskN n h
theorem or_nat (a b : Nat) (ha : a < 18446744073709551616) (hb : b < 18446744073709551616) : bits .or .u64 (a : Int) (b : Int) = ((a ||| b : Nat) : Int) := u64_or_nat a b ha hb

end Go.Proofs.Ythaleikmdoijbaa.Mo
