import Derived.Test.YtmekdodkpimabaaDoorCrc1
import Derived.Lib.LaidTab
import Derived.LaidMore
import Derived.ProofKit
namespace Go.Proofs.YtmekdodkpimabaaDoor
open Go.RowKit Mem

theorem gTab : Tryd.prog.globalNamed "quitrent/crc.fours" = some 0 := by kernel_rfl
theorem tTab : (Tryd.prog.globals[0]?).map (·.type) = some 67 := by kernel_rfl
theorem under24 : Tryd.prog.underlying 44 = some (.int .u32) := by kernel_rfl
theorem under36 : Tryd.prog.underlying 67 = some (.array 16 44) := by kernel_rfl
theorem cells24 : Tryd.prog.cellsOf 44 = 1 := by kernel_rfl
theorem cells36 : Tryd.prog.cellsOf 67 = 16 := by kernel_rfl

/-- What the row lists. -/
def laid : List (String × DataW Unit) := [("quitrent/crc.fours", Rows.laid_quitrent_crc_fours)]
theorem tab_of_laid {W : World} (h : laidMetH Tryd.prog laid W) : Tab W := by
  rw [MakeChecks.laidMetH_plain _ _ _ (by kernel_rfl)] at h
  have hT : Lib.TabIs Tryd.prog W "quitrent/crc.fours" .u32 (Crc.four.map fun n : Nat => (n : Int)) := Lib.tabIs_of_head gTab tTab under36 under24 cells24 cells36 h
  have hc : ∀ i, i < 16 → W.cell? ⟨0, i, none⟩ = some (.int .u32 ((Crc.four.getD i 0 : Nat) : Int)) := by
    intro i hi
    have h1 := hT.cell gTab i (by simpa [Crc.four] using hi)
    rw [h1]
    congr 2
    simp only [List.getD_eq_getElem?_getD, List.getElem?_map]
    cases Crc.four[i]? <;> rfl
  refine ⟨?_, hc⟩
  have h0 := hc 0 (by omega)
  rcases Nat.eq_zero_or_pos W.heap.size with hz | hz
  · simp [World.cell?, Array.getElem?_eq_none (Nat.le_of_eq hz)] at h0
  · exact hz
/-- The heap that start-up code leaves meets the condition. -/
theorem door_met (os : Os) (args : Array Value) : laidMetH Tryd.prog laid ((World.doorLaid Tryd.prog 14 os).forCall (fun _ _ => 0) ⟨#[], args, []⟩).memory :=
  laidMetH_of_parts3 (fuel := 8) (laidMet_of_run' 8 (by kernel_rfl) (by kernel_rfl)) (by kernel_rfl) (by kernel_rfl)
end Go.Proofs.YtmekdodkpimabaaDoor
