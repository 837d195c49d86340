import Derived.Test.YtpnnakjffcohoaaL4
import Derived.Test.YtpnnakjffcohoaaOpen
namespace Go.Proofs.Ytpnnakjffcohoaa
set_option linter.unusedVariables false
set_option linter.unusedSimpArgs false
open Go.RowKit Mem Go.ChangeMaps
variable {w : World}

def n1 (a : List UInt8) : Dsk := (newD 1).doW 0 a
theorem n1_ref (a : List UInt8) : (n1 a).ref 0 = 0 := rfl
theorem n1_page (a : List UInt8) : (n1 a).page (0 : Int).toNat = a := rfl
theorem n0_ans : (newD 1).ansW 0 = 0 := by decide

set_option maxRecDepth 20000 in
set_option maxHeartbeats 4000000 in
theorem diskNil_core (i : Int) (b : Int) (hb0 : 0 ≤ b) (hb1 : b < 256) (w : World) : Calls Try.prog 7 #[.int .i64 i, .int .u8 b] w fun e w' => e = .returned (.bool true) ∧ Below w.heap.size w w' := by
  have HB0 := Lib.hid hb0
  have HB1 := Lib.hid hb1
  clear hb0 hb1
  go_enter Try.func7, Try.ntmps7
  go_wp2_with fail
  refine (fuse_nil w 1).mono ?_
  rintro e w1 ⟨rfl, rfl⟩
  go_wp2_with fail
  refine (kill_nil _).mono ?_
  rintro e w1 ⟨rfl, rfl⟩
  go_wp2_with fail
  refine (restart_nil _ _).mono ?_
  rintro e w1 ⟨rfl, rfl⟩
  go_wp2_with fail
  refine (read_nil _ i).mono ?_
  rintro e w2 ⟨rfl, hx⟩
  have X1 := Lib.hid hx
  clear hx
  go_wp2_with fail
  refine (write_nil w2 i none 0 0).mono ?_
  rintro e w3 ⟨rfl, hx⟩
  have X2 := Lib.hid (X1.out.trans (hx.mono X1.out.size))
  clear hx X1
  go_wp2_with fail
  refine (flush_nil w3).mono ?_
  rintro e w4 ⟨rfl, rfl⟩
  go_wp2_with fail
  refine (dead_nil _).mono ?_
  rintro e w4 ⟨rfl, rfl⟩
  go_wp2_with fail
  refine (size_nil _).mono ?_
  rintro e w4 ⟨rfl, rfl⟩
  go_wp2_with fail
  refine (waits_nil _).mono ?_
  rintro e w4 ⟨rfl, rfl⟩
  go_wp2_with fail
  refine (St.new 1 _ (by omega) (by omega)).mono ?_
  rintro e w5 ⟨rfl, s1⟩
  have S1 := Lib.hid s1
  clear s1
  go_wp2_with fail
  refine (page_any b b 0 HB0.out HB1.out HB0.out HB1.out (by omega) (by omega) w5).mono ?_
  rintro e w6 ⟨rfl, rfl⟩
  obtain ⟨pa, hpa⟩ : ∃ pa, pa = pageOf (u8 b) (u8 b) ((0 : Int).toNat % 8) := ⟨_, rfl⟩
  have HA := Lib.hid (show pa.length = 4096 by rw [hpa]; exact pageOf_len _ _ _)
  have hat : ∀ i, i < 4096 → bv (pa.getD i 0) = .int .u8 b := fun i hi => by
    rw [hpa, pageOf_at _ _ _ _ hi]
    unfold pageAt
    rw [ite_self, bv_u8 b HB0.out HB1.out]
  rw [← hpa]
  have HAT := Lib.hid hat
  clear hpa hat
  go_wp2_with fail
  refine (S1.out.write 0 pa HA.out (by omega)).mono ?_
  rintro e w7 ⟨rfl, y7, s7, k7⟩
  have s7 : St _ _ _ _ _ (n1 pa) _ := s7
  rw [n0_ans]
  -- the page that was handed in
  have hg5 : (w5.alloc (.cells (bcs pa) 5)).heap[w5.heap.size]? = some (.cells (bcs pa) 5 (0, 0)) := heap_alloc_new _ _
  have hfr := k7.free (k := w5.heap.size) (by simp) (fresh_not S1.out.is _ (Nat.le_refl _))
  have hg7 := hfr.2.trans hg5
  have c7 : w7.cell? ⟨w5.heap.size, 0, none⟩ = some (.int .u8 b) := by
    have := own_cell (own_row (w := w7) w5.heap.size pa 0 (Nat.zero_le _) (by rw [HA.out]; unfold maxLen; omega) hg7) 0 (by rw [HA.out]; omega)
    rw [this, ← HAT.out 0 (by omega), List.getD_eq_getElem?_getD, List.getElem?_eq_getElem (by rw [HA.out]; omega)]; rfl
  have f7 : w7.frozen? ⟨w5.heap.size, 0, none⟩ = false := by simp [World.frozen?, hg7]
  have S7 := Lib.hid s7
  have N7 := Lib.hid hfr.1
  have SZ := Lib.hid (Nat.le_trans X2.out.size S1.out.bel.size)
  have SB := Lib.hid (S1.out.bel.size)
  clear hg5 hfr hg7 s7 k7
  go_wp2_with fail
  refine ((S7.out.poke ⟨w5.heap.size, 0, none⟩ (.int .u8 (IntKind.u8.wrap (b + 1))) N7.out SB.out).read 0).mono ?_
  rintro e w8 ⟨v0, rfl, ho, _, s8, hb8⟩
  rw [n1_ref] at ho ⊢
  have ho := ho rfl
  rw [n1_page] at ho
  obtain ⟨g0, c0, rfl, hg0, hgs, hc⟩ := Own.byte ho HA.out
  have x0 : w8.cell? ⟨g0, 0, none⟩ = some (.int .u8 b) := by rw [hc 0 (by omega), HAT.out 0 (by omega)]
  have x1 : w8.cell? ⟨g0, 1, none⟩ = some (.int .u8 b) := by rw [hc 1 (by omega), HAT.out 1 (by omega)]
  have fx : w8.frozen? ⟨g0, 1, none⟩ = false := by
    obtain ⟨_, _, _, cur, hh, _⟩ := own_parts (Own.down ho)
    simp [World.frozen?, hh]
  have N8 := Lib.hid (fresh_not (S7.out.poke ⟨w5.heap.size, 0, none⟩ (.int .u8 (IntKind.u8.wrap (b + 1))) N7.out SB.out).is g0 hg0)
  have G8 := Lib.hid (show w4.heap.size ≤ g0 by have := (S7.out.poke ⟨w5.heap.size, 0, none⟩ (.int .u8 (IntKind.u8.wrap (b + 1))) N7.out SB.out).bel.size; omega)
  have S8 := Lib.hid s8
  clear ho hc hg0 hgs s8 hb8 S7 N7 c7 f7
  go_wp2_with fail
  refine ((S8.out.poke ⟨g0, 1, none⟩ (.int .u8 (IntKind.u8.wrap (b + 1))) N8.out G8.out).read 0).mono ?_
  rintro e w9 ⟨v1, rfl, ho, _, s9, hb9⟩
  rw [n1_ref] at ho ⊢
  have ho := ho rfl
  rw [n1_page] at ho
  obtain ⟨g1, c1, rfl, _, _, hc⟩ := Own.byte ho HA.out
  have y1 : w9.cell? ⟨g1, 1, none⟩ = some (.int .u8 b) := by rw [hc 1 (by omega), HAT.out 1 (by omega)]
  have HZ := Lib.hid s9.bel
  have HS := Lib.hid HZ.out.size
  clear ho hc s9 hb9 S8 x0 x1 fx
  go_wp2_with fail
  refine (goes_any w9).mono ?_
  rintro e w10 ⟨rfl, hb⟩
  have HB := Lib.hid hb
  clear hb
  go_wp2_with fail
  go_ret
  exact ⟨rfl, X2.out.trans ((HZ.out.trans (HB.out.mono HS.out)).mono X2.out.size)⟩
open Go.ChangeShapes Go.WideShapes Go.Deep in
theorem diskNil_walk (i b : Int) (w : World) (wi : (Lit.int .i64 i).wf = true) (wb : (Lit.int .u8 b).wf = true) : Calls Try.prog 7 #[.int .i64 i, .int .u8 b] w fun e w' => e = .returned (.bool true) ∧ Below w.heap.size w w' :=
  diskNil_core i b (bounds_u8 wb).1 (by have := (bounds_u8 wb).2; omega) w
end Go.Proofs.Ytpnnakjffcohoaa
