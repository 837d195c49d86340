import Derived.Test.YtcjokkjepgfinaaGreatDoorQW6
import Derived.Laws.BytesArg
import Derived.Laws.Strings
import Derived.Lib.SlBytesConst
set_option linter.unusedVariables false
set_option linter.unusedSimpArgs false
namespace Go.Proofs.YtcjokkjepgfinaaGreatDoor
open Go.RowKit Mem
def str (l : List UInt8) : ByteArray := ⟨l.toArray⟩
theorem str_toList (l : List UInt8) : (str l).toList = l := by rw [ByteArray.toList_eq]; simp [str]
theorem run_str_rd (w : World) {B : Nat} {A : Option Addr} {c : Nat} {l : List UInt8} (h : Rd w B A c l) : (convert 32 9 (.slice A l.length c)).run Tryz.prog w = .ok (.string (str l)) w := by
  by_cases h0 : 0 < l.length
  · obtain ⟨b, o, rfl, _, hc⟩ := h.2.2.2 h0
    rw [run_convert_bytes_arg (P := Tryz.prog) w 32 5 Tryz.underlying32 Tryz.underlying5 b o l.length c (l.map fun x => (x.toNat : Int)) (by simp) (fun i hi => by rw [hc i hi]; simp [List.getD, hi]) 9 Tryz.underlying9]
    congr 2
    apply ByteArray.ext
    apply Array.toList_inj.1
    simp [strOfNums, str, Function.comp_def]
  · have : l = [] := List.eq_nil_of_length_eq_zero (by omega)
    subst this
    rcases A with _ | ad
    · exact run_convert_bytes_nil (P := Tryz.prog) w 32 5 Tryz.underlying32 Tryz.underlying5 _ _ 9 Tryz.underlying9
    · rw [run_convert_bytes_string w 32 9 5 (some ad) _ c Tryz.underlying32 Tryz.underlying5 Tryz.underlying9, run_bytesToString w ad _ c [] (by simp [loadCells, loadCellsFrom])]
      rfl
theorem Left.below {w w' : World} {g B : Nat} {s : St} (h : Left w w' g s) (hB : B ≤ g) (hw : B ≤ w.heap.size) : Below B w w' :=
  ⟨h.2.os, h.2.tape, h.2.output, h.2.size, fun k hk => h.2.block k (by omega) (by simp; omega)⟩
end Go.Proofs.YtcjokkjepgfinaaGreatDoor
