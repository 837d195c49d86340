import Derived.Test.YtcjokkjepgfinaaGreatDoorQCrc1
import Derived.Lib.LaidTab
import Derived.LaidMore
import Derived.ProofKit
set_option linter.unusedVariables false
set_option linter.unusedSimpArgs false
namespace Go.Proofs.YtcjokkjepgfinaaGreatDoor
open Go.RowKit Mem
theorem gTab : Tryz.prog.globalNamed "quitrent/crc.fours" = some 1 := by kernel_rfl
theorem tTab : (Tryz.prog.globals[1]?).map (·.type) = some 218 := by kernel_rfl
theorem under24 : Tryz.prog.underlying 186 = some (.int .u32) := by kernel_rfl
theorem under36 : Tryz.prog.underlying 218 = some (.array 16 186) := by kernel_rfl
theorem cells24 : Tryz.prog.cellsOf 186 = 1 := by kernel_rfl
theorem cells36 : Tryz.prog.cellsOf 218 = 16 := by kernel_rfl
def laid : List (String × DataW Unit) := [("quitrent/crc.fours", Rows.laid_quitrent_crc_fours)]
theorem tab_of_laid {W : World} (h : laidMetH Tryz.prog laid W) : Tab W := by
  rw [MakeChecks.laidMetH_plain _ _ _ (by kernel_rfl)] at h
  have hT : Lib.TabIs Tryz.prog W "quitrent/crc.fours" .u32 (Crc.four.map fun n : Nat => (n : Int)) := Lib.tabIs_of_head gTab tTab under36 under24 cells24 cells36 h
  have hc : ∀ i, i < 16 → W.cell? ⟨1, i, none⟩ = some (.int .u32 ((Crc.four.getD i 0 : Nat) : Int)) := by
    intro i hi
    have h1 := hT.cell gTab i (by simpa [Crc.four] using hi)
    rw [h1]
    congr 2
    simp only [List.getD_eq_getElem?_getD, List.getElem?_map]
    cases Crc.four[i]? <;> rfl
  refine ⟨?_, hc⟩
  have h0 := hc 0 (by omega)
  rcases Nat.lt_or_ge 1 W.heap.size with hz | hz
  · exact hz
  · simp [World.cell?, Array.getElem?_eq_none hz] at h0
theorem door_met (os : Os) (args : Array Value) : laidMetH Tryz.prog laid ((World.doorLaid Tryz.prog 14 os).forCall (fun _ _ => 0) ⟨#[], args, []⟩).memory :=
  laidMetH_of_parts3 (fuel := 8) (laidMet_of_run' 8 (by kernel_rfl) (by kernel_rfl)) (by kernel_rfl) (by kernel_rfl)
end Go.Proofs.YtcjokkjepgfinaaGreatDoor
