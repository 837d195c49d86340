import Derived.Test.YtbiofjddclbncaaMo5
import Derived.Handy
namespace Go.Proofs.Ytbiofjddclbncaa.Mo
set_option linter.unusedVariables false
set_option linter.unusedSimpArgs false
open Go.RowKit Mem
set_option maxRecDepth 8000

/-! The document's own numbers of 128 bits: four digits of 32 bits, the lowest first. -/
def dg0 (V : Int) : Int := V % 4294967296
def dg1 (V : Int) : Int := V / 4294967296 % 4294967296
def dg2 (V : Int) : Int := V / 18446744073709551616 % 4294967296
def dg3 (V : Int) : Int := V / 79228162514264337593543950336 % 4294967296
/-- The digits in a row. -/
def bl (V : Int) : List Value := [.int .u64 (dg0 V), .int .u64 (dg1 V), .int .u64 (dg2 V), .int .u64 (dg3 V)]
def bg (V : Int) : Value := .agg #[.int .u64 (dg0 V), .int .u64 (dg1 V), .int .u64 (dg2 V), .int .u64 (dg3 V)]
theorem dg_bd (V : Int) : (0 ≤ dg0 V ∧ dg0 V ≤ 4294967295) ∧ (0 ≤ dg1 V ∧ dg1 V ≤ 4294967295) ∧ (0 ≤ dg2 V ∧ dg2 V ≤ 4294967295) ∧ (0 ≤ dg3 V ∧ dg3 V ≤ 4294967295) := by
  unfold dg0 dg1 dg2 dg3; omega
theorem dg_sum (V : Int) : dg0 V + dg1 V * 4294967296 + dg2 V * 18446744073709551616 + dg3 V * 79228162514264337593543950336 = V % 340282366920938463463374607431768211456 := by
  unfold dg0 dg1 dg2 dg3; omega
theorem dg_of {V x0 x1 x2 x3 : Int} (h0 : 0 ≤ x0 ∧ x0 ≤ 4294967295) (h1 : 0 ≤ x1 ∧ x1 ≤ 4294967295) (h2 : 0 ≤ x2 ∧ x2 ≤ 4294967295) (h3 : 0 ≤ x3 ∧ x3 ≤ 4294967295)
    (h : x0 + x1 * 4294967296 + x2 * 18446744073709551616 + x3 * 79228162514264337593543950336 = V % 340282366920938463463374607431768211456) : x0 = dg0 V ∧ x1 = dg1 V ∧ x2 = dg2 V ∧ x3 = dg3 V := by
  unfold dg0 dg1 dg2 dg3; omega
theorem bg_mod {V W : Int} (h : V % 340282366920938463463374607431768211456 = W % 340282366920938463463374607431768211456) : bg V = bg W := by
  obtain ⟨b0, b1, b2, b3⟩ := dg_bd V
  obtain ⟨e0, e1, e2, e3⟩ := dg_of b0 b1 b2 b3 ((dg_sum V).trans h)
  unfold bg; rw [e0, e1, e2, e3]

set_option maxHeartbeats 400000 in
theorem Of_any (a : Int) (w : World) (h1 : -9223372036854775808 ≤ a) (h2 : a ≤ 9223372036854775807) :
    Calls Try.prog 25 #[.int .i64 a] w fun e w' => e = .returned (bg a) ∧ Below w.heap.size w w' := by
  have wa : IntKind.u64.wrap a = a % 18446744073709551616 := IntKind.wrap_u64 _
  have t0 : (a % 18446744073709551616).tmod 4294967296 = dg0 a := by rw [Int.tmod_eq_emod_of_nonneg (by omega)]; unfold dg0; omega
  have t1 : a % 18446744073709551616 / 4294967296 = dg1 a := by unfold dg1; omega
  have t2 : a % 18446744073709551616 % 4294967296 = dg0 a := by unfold dg0; omega
  unfold bg
  rcases Int.lt_or_le a 0 with h | h
  · have e2 : dg2 a = 4294967295 := by unfold dg2; omega
    have e3 : dg3 a = 4294967295 := by unfold dg3; omega
    rw [e2, e3]
    generalize dg0 a = x0 at *
    generalize dg1 a = x1 at *
    generalize a % 18446744073709551616 = u at *
    clear h1 h2 e2 e3
    go_enter Try.func25, Try.ntmps25
    go_wp2_with fail
    exact bodyPost_ret (v := .agg #[.int .u64 x0, .int .u64 x1, .int .u64 4294967295, .int .u64 4294967295]) (by simp [results, Try.results25, go_sem]) rfl ⟨rfl, by go_grown⟩
  · have e2 : dg2 a = 0 := by unfold dg2; omega
    have e3 : dg3 a = 0 := by unfold dg3; omega
    have hn : ¬ a < 0 := by omega
    rw [e2, e3]
    generalize dg0 a = x0 at *
    generalize dg1 a = x1 at *
    generalize a % 18446744073709551616 = u at *
    clear h1 h2 e2 e3 h
    go_enter Try.func25, Try.ntmps25
    go_wp2_with fail
    exact bodyPost_ret (v := .agg #[.int .u64 x0, .int .u64 x1, .int .u64 0, .int .u64 0]) (by simp [results, Try.results25, go_sem]) rfl ⟨rfl, by go_grown⟩
end Go.Proofs.Ytbiofjddclbncaa.Mo
