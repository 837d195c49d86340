import Derived.Test.YtcoaaldffnbdbaaW6
import Derived.Laws.BytesArg
import Derived.Laws.Strings
import Derived.Lib.SlBytesConst
namespace Go.Proofs.Ytcoaaldffnbdbaa
open Go.RowKit Mem

/-- The string of bytes. -/
def str (l : List UInt8) : ByteArray := ⟨l.toArray⟩
theorem str_toList (l : List UInt8) : (str l).toList = l := by rw [ByteArray.toList_eq]; simp [str]
theorem run_str_rd (w : World) {B : Nat} {A : Option Addr} {c : Nat} {l : List UInt8} (h : Rd w B A c l) : (convert 22 9 (.slice A l.length c)).run Try.prog w = .ok (.string (str l)) w := by
  by_cases h0 : 0 < l.length
  · obtain ⟨b, o, rfl, _, hc⟩ := h.2.2.2 h0
    rw [run_convert_bytes_arg (P := Try.prog) w 22 5 Try.underlying22 Try.underlying5 b o l.length c (l.map fun x => (x.toNat : Int)) (by simp) (fun i hi => by rw [hc i hi]; simp [List.getD, hi]) 9 Try.underlying9]
    congr 2
    apply ByteArray.ext
    apply Array.toList_inj.1
    simp [strOfNums, str, Function.comp_def]
  · have : l = [] := List.eq_nil_of_length_eq_zero (by omega)
    subst this
    rcases A with _ | ad
    · exact run_convert_bytes_nil (P := Try.prog) w 22 5 Try.underlying22 Try.underlying5 _ _ 9 Try.underlying9
    · rw [run_convert_bytes_string w 22 9 5 (some ad) _ c Try.underlying22 Try.underlying5 Try.underlying9, run_bytesToString w ad _ c [] (by simp [loadCells, loadCellsFrom])]
      rfl
theorem run_str_own (w : World) {base : Nat} {v : Value} {l : List UInt8} (h : Own 5 w base v l) : (convert 22 9 v).run Try.prog w = .ok (.string (str l)) w := by
  obtain ⟨A, c, rfl, hr, _⟩ := h.form
  exact run_str_rd w hr


theorem Left.below {w w' : World} {g B : Nat} {s : St} (h : Left w w' g s) (hB : B ≤ g) (hw : B ≤ w.heap.size) : Below B w w' :=
  ⟨h.2.os, h.2.tape, h.2.output, h.2.size, fun k hk => h.2.block k (by omega) (by simp; omega)⟩

theorem rd_lit (w : World) (l : List UInt8) (cs : Array Value) (hc : cs = bcs l) (h : l.length ≤ 1000) (fr : Nat × Nat := (0, 0)) : Rd (w.alloc (.cells cs 5 fr)) (w.alloc (.cells cs 5 fr)).heap.size (some ⟨w.heap.size, 0, none⟩) l.length l := by
  subst hc
  exact Rd.lit w l 5 _ (by rw [size_alloc']; omega) (by unfold maxLen; omega) fr

set_option maxHeartbeats 1000000 in
theorem goes_any (w : World) : Calls Try.prog 16 #[] w fun e w' => e = .returned (.bool true) ∧ Below w.heap.size w w' := by
  have hr0 := rd_lit w [0, 0, 0, 3, 97, 98] #[.int .u8 0, .int .u8 0, .int .u8 0, .int .u8 3, .int .u8 97, .int .u8 98] (by rfl) (by simp)
  have H0 := Lib.hid hr0
  clear hr0
  have kc := fun (w : World) (C : Array Value) (n c : Nat) => Lib.run_convert_bytes_const (P := Try.prog) w 22 5 C n c Try.underlying22 Try.underlying5
  go_enter Try.func16, Try.ntmps16
  go_wp2_with fail
  refine (New_any _ _ 6 _ _ H0.out rfl (by omega)).mono ?_
  rintro e w1 ⟨g, rfl, hg, hs, hb⟩
  rw [size_alloc'] at hg
  have HG : Hid (w.heap.size ≤ g) := Lib.hid (by omega)
  have HS := Lib.hid hs
  have HB : Hid (Below w.heap.size w w1) := Lib.hid (below_alloc w _ (by rw [size_alloc'] at hb; exact hb))
  clear hg hs hb
  go_wp2_with fail
  refine (RText_any g _ w1 HS.out (by simp)).mono ?_
  rintro e w2 ⟨v2, rfl, hown, hl⟩
  rw [show (⟨[0, 0, 0, 3, 97, 98], false⟩ : St).text = [] by kernel_rfl] at hown
  rw [show (⟨[0, 0, 0, 3, 97, 98], false⟩ : St).textAfter = ⟨[97, 98], true⟩ by kernel_rfl] at hl
  obtain ⟨A2, c2, rfl, _, _, _⟩ := hown.form
  have HS2 := Lib.hid hl.1
  have HB2 := Lib.hid (HB.out.trans (hl.below HG.out HB.out.size))
  clear hown hl
  rw [show ([] : List UInt8).length = 0 from rfl]
  go_wp2_with fail
  refine (Uint_any none 0 [] 258 w2 (Rd.nil _ _) (by simp) (by omega) (by omega)).mono ?_
  rintro e w3 ⟨v3, rfl, hown, hb⟩
  rw [show [] ++ be 8 (258 : Int).toNat = [0, 0, 0, 0, 0, 0, 1, 2] by kernel_rfl] at hown
  have hcv := run_str_own w3 hown
  have HB3 := Lib.hid (HB2.out.trans (hb.mono HB2.out.size))
  have HS3 := Lib.hid (Rdr.below HS2.out hb HS2.out.lt)
  clear hown hb
  have ht := str_toList [0, 0, 0, 0, 0, 0, 1, 2]
  have hr1 := rd_lit w3 [1] #[.int .u8 1] (by rfl) (by simp)
  have H1 := Lib.hid hr1
  clear hr1
  go_wp2_with fail
  refine (Byte_any _ _ [1] 7 _ H1.out (by simp) (by omega) (by omega)).mono ?_
  rintro e w4 ⟨v4, rfl, hown, hb⟩
  rw [show [1] ++ be 1 (7 : Int).toNat = [1, 7] by kernel_rfl] at hown
  have hcv4 := run_str_own w4 hown
  have hb' := below_alloc w3 _ (by rw [size_alloc'] at hb; exact hb)
  have HB4 := Lib.hid (HB3.out.trans (hb'.mono HB3.out.size))
  have HS4 := Lib.hid (Rdr.below HS3.out hb' HS3.out.lt)
  have ht4 := str_toList [1, 7]
  have hr2 := rd_lit w4 [97, 98] #[.int .u8 97, .int .u8 98] (by rfl) (by simp) (2, 3)
  have H2 := Lib.hid hr2
  clear hr2 hown hb hb' hcv
  go_wp2_with fail
  refine (Text_any none 0 [] _ _ [97, 98] _ (Rd.nil _ _) (by simp) H2.out (by simp)).mono ?_
  rintro e w5 ⟨v5, rfl, hown, hb⟩
  rw [show [] ++ (be 4 ([97, 98] : List UInt8).length ++ [97, 98]) = [0, 0, 0, 2, 97, 98] by kernel_rfl] at hown
  have hcv5 := run_str_own w5 hown
  have hb' := below_alloc w4 _ (by rw [size_alloc'] at hb; exact hb)
  have HB5 := Lib.hid (HB4.out.trans (hb'.mono HB4.out.size))
  have HS5 := Lib.hid (Rdr.below HS4.out hb' HS4.out.lt)
  have ht5 := str_toList [0, 0, 0, 2, 97, 98]
  clear hown hb hb' hcv4
  go_wp2_with fail
  refine (RDone_any g ⟨[97, 98], true⟩ w5 HS5.out).mono ?_
  rintro e w6 ⟨rfl, rfl⟩
  rw [show (⟨[97, 98], true⟩ : St).done = 21 by kernel_rfl]
  go_wp2
  go_ret
  exact ⟨rfl, HB5.out⟩
end Go.Proofs.Ytcoaaldffnbdbaa
