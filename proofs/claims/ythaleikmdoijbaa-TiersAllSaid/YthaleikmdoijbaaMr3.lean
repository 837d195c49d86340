import Derived.Test.YthaleikmdoijbaaMr2
namespace Go.Proofs.Ythaleikmdoijbaa.Mo
set_option linter.unusedVariables false
set_option linter.unusedSimpArgs false
open Go.RowKit Mem
set_option maxRecDepth 8000

theorem less_digits {U V : Int} (hU : 0 ≤ U ∧ U < 340282366920938463463374607431768211456) (hV : 0 ≤ V ∧ V < 340282366920938463463374607431768211456) :
    (dg3 U ≠ dg3 V → decide (U < V) = decide (dg3 U < dg3 V)) ∧ (dg3 U = dg3 V → dg2 U ≠ dg2 V → decide (U < V) = decide (dg2 U < dg2 V)) ∧
    (dg3 U = dg3 V → dg2 U = dg2 V → dg1 U ≠ dg1 V → decide (U < V) = decide (dg1 U < dg1 V)) ∧ (dg3 U = dg3 V → dg2 U = dg2 V → dg1 U = dg1 V → decide (U < V) = decide (dg0 U < dg0 V)) := by
  have a := dg_bd U
  have b := dg_bd V
  have c := dg_sum U
  have d := dg_sum V
  generalize dg0 U = a0 at *
  generalize dg1 U = a1 at *
  generalize dg2 U = a2 at *
  generalize dg3 U = a3 at *
  generalize dg0 V = b0 at *
  generalize dg1 V = b1 at *
  generalize dg2 V = b2 at *
  generalize dg3 V = b3 at *
  refine ⟨fun h => ?_, fun h1 h => ?_, fun h1 h2 h => ?_, fun h1 h2 h3 => ?_⟩ <;> (rw [Bool.eq_iff_iff]; simp only [decide_eq_true_eq]; omega)

end Go.Proofs.Ythaleikmdoijbaa.Mo
