import Derived.Test.YtakjgimnmobngaaDoorCi7
import Derived.Lib.LaidTab
import Derived.LaidMore
import Derived.ProofKit
namespace Go.Proofs.YtakjgimnmobngaaDoor
open Go.RowKit Mem

theorem gLen : Tryd.prog.globalNamed "quitrent/civil.lengths" = some 0 := by kernel_rfl
theorem tLen : (Tryd.prog.globals[0]?).map (·.type) = some 48 := by kernel_rfl
theorem uLen : Tryd.prog.underlying 48 = some (.array 12 3) := by kernel_rfl

/-- What the row lists. -/
def laid : List (String × DataW Unit) := [("quitrent/civil.lengths", Rows.laid_quitrent_civil_lengths)]
theorem tab_of_laid {W : World} (h : laidMetH Tryd.prog laid W) : Ci.Lens W := by
  rw [MakeChecks.laidMetH_plain _ _ _ (by kernel_rfl)] at h
  have hT : Lib.TabIs Tryd.prog W "quitrent/civil.lengths" .i64 Ci.lens := Lib.tabIs_of_head gLen tLen uLen Tryd.underlying3 Ci.cells3 Ci.cells49 h
  intro i hi
  have h1 := hT.cell gLen i (by simpa [Ci.lens] using hi)
  rw [h1]
/-- The heap that start-up code leaves meets the condition. -/
theorem door_met (os : Os) (args : Array Value) : laidMetH Tryd.prog laid ((World.doorLaid Tryd.prog 14 os).forCall (fun _ _ => 0) ⟨#[], args, []⟩).memory :=
  laidMetH_of_parts3 (fuel := 8) (laidMet_of_run' 8 (by kernel_rfl) (by kernel_rfl)) (by kernel_rfl) (by kernel_rfl)
end Go.Proofs.YtakjgimnmobngaaDoor
