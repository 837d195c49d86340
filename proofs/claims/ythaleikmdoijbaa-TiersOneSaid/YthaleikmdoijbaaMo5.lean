import Derived.Test.YthaleikmdoijbaaMo4
namespace Go.Proofs.Ythaleikmdoijbaa.Mo
set_option linter.unusedVariables false
set_option linter.unusedSimpArgs false
open Go.RowKit Mem

theorem na_t {V : Int} (h : isn V = true) : na V = V := by unfold na; rw [h]; rfl
theorem ne_t {V : Int} (h : isn V = true) : ne V = 0 := by unfold ne; rw [h]; rfl
theorem na_f {V : Int} (h : isn V = false) : na V = 0 := by unfold na; rw [h]; rfl
theorem ne_f {V : Int} (h : isn V = false) : ne V = 30 := by unfold ne; rw [h]; rfl
theorem isn_iff (V : Int) : isn V = true ↔ -9223372036854775808 ≤ V ∧ V ≤ 9223372036854775807 := by unfold isn; simp
theorem isn_not {V : Int} (h : isn V = false) : V < -9223372036854775808 ∨ 9223372036854775807 < V := by unfold isn at h; simp at h; omega
/-- What may not be asked of Part. -/
def BadP (a b d : Int) : Prop := a < 0 ∨ (0 ≤ a ∧ b < 0) ∨ (0 ≤ a ∧ 0 ≤ b ∧ d < 1)
theorem badP (a b d : Int) : BadP a b d ∨ (0 ≤ a ∧ 0 ≤ b ∧ 1 ≤ d) := by unfold BadP; omega

/-- The rest, where the part is a number. -/
def pr (q r : Int) : Int := if isn q then r else 0
end Go.Proofs.Ythaleikmdoijbaa.Mo
