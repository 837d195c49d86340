import Derived.Test.YtnaoodaadeimbaaW6
import Derived.Laws.BytesArg
import Derived.Laws.Strings
import Derived.Lib.SlBytesConst
namespace Go.Proofs.Ytnaoodaadeimbaa
open Go.RowKit Mem

/-- The string of bytes. -/
def str (l : List UInt8) : ByteArray := ⟨l.toArray⟩
theorem str_toList (l : List UInt8) : (str l).toList = l := by rw [ByteArray.toList_eq]; simp [str]
theorem run_str_rd (w : World) {B : Nat} {A : Option Addr} {c : Nat} {l : List UInt8} (h : Rd w B A c l) : (convert 26 9 (.slice A l.length c)).run Try.prog w = .ok (.string (str l)) w := by
  by_cases h0 : 0 < l.length
  · obtain ⟨b, o, rfl, _, hc⟩ := h.2.2.2 h0
    rw [run_convert_bytes_arg (P := Try.prog) w 26 5 Try.underlying26 Try.underlying5 b o l.length c (l.map fun x => (x.toNat : Int)) (by simp) (fun i hi => by rw [hc i hi]; simp [List.getD, hi]) 9 Try.underlying9]
    congr 2
    apply ByteArray.ext
    apply Array.toList_inj.1
    simp [strOfNums, str, Function.comp_def]
  · have : l = [] := List.eq_nil_of_length_eq_zero (by omega)
    subst this
    rcases A with _ | ad
    · exact run_convert_bytes_nil (P := Try.prog) w 26 5 Try.underlying26 Try.underlying5 _ _ 9 Try.underlying9
    · rw [run_convert_bytes_string w 26 9 5 (some ad) _ c Try.underlying26 Try.underlying5 Try.underlying9, run_bytesToString w ad _ c [] (by simp [loadCells, loadCellsFrom])]
      rfl
theorem run_str_own (w : World) {base : Nat} {v : Value} {l : List UInt8} (h : Own 5 w base v l) : (convert 26 9 v).run Try.prog w = .ok (.string (str l)) w := by
  obtain ⟨A, c, rfl, hr, _⟩ := h.form
  exact run_str_rd w hr


theorem Left.below {w w' : World} {g B : Nat} {s : St} (h : Left w w' g s) (hB : B ≤ g) (hw : B ≤ w.heap.size) : Below B w w' :=
  ⟨h.2.os, h.2.tape, h.2.output, h.2.size, fun k hk => h.2.block k (by omega) (by simp; omega)⟩

theorem rd_lit (w : World) (l : List UInt8) (cs : Array Value) (hc : cs = bcs l) (h : l.length ≤ 1000) (fr : Nat × Nat := (0, 0)) : Rd (w.alloc (.cells cs 5 fr)) (w.alloc (.cells cs 5 fr)).heap.size (some ⟨w.heap.size, 0, none⟩) l.length l := by
  subst hc
  exact Rd.lit w l 5 _ (by rw [size_alloc']; omega) (by unfold maxLen; omega) fr
end Go.Proofs.Ytnaoodaadeimbaa
