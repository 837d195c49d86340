import Derived.Test.YtlfkafcmdndlgaaDoorCi7
import Derived.Lib.LaidTab
import Derived.LaidMore
import Derived.ProofKit
import Derived.Stop.LaidErr
import Derived.LaidLaws
namespace Go.Proofs.YtlfkafcmdndlgaaDoor
open Go.RowKit Mem

theorem gLen : Tryd.prog.globalNamed "quitrent/civil.lengths" = some 0 := by kernel_rfl
theorem tLen : (Tryd.prog.globals[0]?).map (·.type) = some 49 := by kernel_rfl
theorem tPow : (Tryd.prog.globals[3]?).map (·.type) = some 98 := by kernel_rfl
theorem gSyn : Tryd.prog.globalNamed "strconv.ErrSyntax" = some 1 := by kernel_rfl
theorem tSyn : (Tryd.prog.globals[1]?).map (·.type) = some 54 := by kernel_rfl
theorem u49 : Tryd.prog.underlying 49 = some (.array 12 3) := by kernel_rfl
theorem u98 : Tryd.prog.underlying 98 = some (.array 20 72) := by kernel_rfl
theorem c98 : Tryd.prog.cellsOf 98 = 20 := by kernel_rfl
theorem c72 : Tryd.prog.cellsOf 72 = 1 := by kernel_rfl
theorem c104 : Tryd.prog.cellsOf 104 = 1 := by kernel_rfl
theorem c9 : Tryd.prog.cellsOf 9 = 1 := by kernel_rfl

/-- What the row lists. -/
def laid : List (String × DataW Unit) := [("math/bits.deBruijn32tab", Rows.laid_math_bits_deBruijn32tab), ("math/bits.deBruijn64tab", Rows.laid_math_bits_deBruijn64tab), ("internal/strconv.uint64pow10", Rows.laid_internal_strconv_uint64pow10), ("strconv.ErrRange", Rows.laid_strconv_ErrRange), ("strconv.ErrSyntax", Rows.laid_strconv_ErrSyntax), ("quitrent/civil.lengths", Rows.laid_quitrent_civil_lengths)]
theorem tab_of_laid {W : World} (h : laidMetH Tryd.prog laid W) : Ci.Lw W := by
  rw [MakeChecks.laidMetH_plain _ _ _ (by kernel_rfl)] at h
  have h3 := laidMet.tail (laidMet.tail h)
  have h5 := laidMet.tail (laidMet.tail h3)
  have h6 := laidMet.tail h5
  have hP : Lib.TabIs Tryd.prog W "internal/strconv.uint64pow10" .u64 Lib.pow10Tab := Lib.tabIs_of_head Ci.gPow tPow u98 Tryd.underlying72 c72 c98 h3
  have hT : Lib.TabIs Tryd.prog W "quitrent/civil.lengths" .i64 Ci.lens := Lib.tabIs_of_head gLen tLen u49 Tryd.underlying3 Ci.cells3 Ci.cells49 h6
  obtain ⟨a0, s0, hv0, -, -, -⟩ := laid_sentinel h5 gSyn tSyn Tryd.underlying54 (fun u hu => typeName_ptr_named (nm := "errors.errorString") (by kernel_rfl) (by kernel_rfl) (by decide) u hu) Tryd.underlying102 Tryd.underlying104 rfl rfl Tryd.underlying9 c104 c9
  refine ⟨fun i hi => ?_, hP, _, by have h0 := World.var?_cell gSyn hv0 0; simpa using h0, Or.inr ⟨_, _, rfl⟩⟩
  have h1 := hT.cell gLen i (by simpa [Ci.lens] using hi)
  rw [h1]
/-- The heap that start-up code leaves meets the condition. -/
theorem door_met (os : Os) (args : Array Value) : laidMetH Tryd.prog laid ((World.doorLaid Tryd.prog 67 os).forCall (fun _ _ => 0) ⟨#[], args, []⟩).memory :=
  laidMetH_of_parts3 (fuel := 8) (laidMet_of_run' 8 (by kernel_rfl) (by kernel_rfl)) (by kernel_rfl) (by kernel_rfl)
end Go.Proofs.YtlfkafcmdndlgaaDoor
