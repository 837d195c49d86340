import Derived.Test.YtonmgcfnhbfpgaaDoorL1
import Derived.RegionTactic
import Derived.ChangeAlike
import Derived.Deep.RegionWith
import Derived.LoopTactic
namespace Go.Proofs.YtonmgcfnhbfpgaaDoor
open Go.RowKit Mem

theorem check_zero : Crc.check [0] = 1383945041 := by kernel_rfl
theorem check_zeros : Crc.check (List.replicate 32 0) = 2324772522 := by kernel_rfl
theorem check_ones : Crc.check (List.replicate 32 255) = 1655221059 := by kernel_rfl
theorem check_nils : Crc.check (flat [⟨none, 0, []⟩, ⟨none, 0, []⟩]) = 0 := by kernel_rfl

/-- Check of one list that is there. -/
theorem Check_one (W : World) (hW : Tab W) (A : Option Addr) (n c : Nat) (l : List UInt8) (hn : l.length = n) (hl : Rd W W.heap.size A c l) (m : Nat) (hm : Crc.check l = m) :
    Calls Tryd.prog 8 #[.slice (some ⟨W.heap.size, 0, none⟩) 1 1] (W.alloc (.cells #[.slice A n c] 23)) fun e w' => e = .returned (.int .u32 (m : Int)) ∧ Below W.heap.size W w' := by
  subst hn
  refine (Check_new W [⟨A, c, l⟩] #[.slice A l.length c] 1 rfl rfl (by simp) hW (fun p hp => by obtain rfl := List.mem_singleton.1 hp; exact hl) m (by simpa [flat] using hm)).mono ?_
  rintro e w' ⟨rfl, rfl⟩
  exact ⟨rfl, (Below.refl _ W).alloc (Nat.le_refl _) _⟩

/-- Two rows of 32 bytes, the second full of 255 up to k. -/
def Two (w0 w : World) (g h k : Nat) : Prop :=
  Below w0.heap.size w0 w ∧ w0.heap.size ≤ g ∧ w0.heap.size ≤ h ∧ g < w.heap.size ∧ h < w.heap.size ∧ g ≠ h ∧ (∀ j, j < 32 → w.cell? ⟨g, j, none⟩ = some (.int .u8 0)) ∧
    (∀ j, j < 32 → w.cell? ⟨h, j, none⟩ = some (.int .u8 (if j < k then 255 else 0))) ∧ (∀ j, w.frozen? ⟨h, j, none⟩ = false)
theorem Two.set {w0 w : World} {g h k : Nat} (H : Two w0 w g h k) (hk : k < 32) : Two w0 (w.setCell ⟨h, k, none⟩ (.int .u8 255)) g h (k + 1) := by
  obtain ⟨hb, g1, h1, g2, h2, hne, hz, ho, hf⟩ := H
  refine ⟨hb.setCell h1 _, g1, h1, by simpa using g2, by simpa using h2, hne, fun j hj => ?_, fun j hj => ?_, fun j => by simpa using hf j⟩
  · rw [World.cell?_setCell_other _ _ _ _ (by simp)]; exact hz j hj
  · by_cases e : k = j
    · subst e
      rw [World.cell?_setCell_same _ _ _ (ho k hk), if_pos (by omega)]
    · rw [World.cell?_setCell_other _ _ _ _ (by simp), ho j hj]
      by_cases hjk : j < k
      · rw [if_pos hjk, if_pos (by omega)]
      · rw [if_neg hjk, if_neg (by omega)]
theorem rd_same (w : World) (g : Nat) (hg : g < w.heap.size) (x : UInt8) (h : ∀ j, j < 32 → w.cell? ⟨g, j, none⟩ = some (.int .u8 (x.toNat : Int))) : Rd w w.heap.size (some ⟨g, 0, none⟩) 32 (List.replicate 32 x) :=
  ⟨by simp, by unfold maxLen; omega, fun e => (by cases e), fun _ => ⟨g, 0, rfl, hg, fun i hi => by
    simp at hi
    rw [Nat.zero_add, h i hi, List.getElem_replicate]⟩⟩
theorem two_start (w : World) (g h : Nat) (hgh : (g = w.heap.size ∧ h = w.heap.size + 1) ∨ (h = w.heap.size ∧ g = w.heap.size + 1)) :
    Two w ((w.drew.alloc (.cells (bcs (List.replicate 32 0)) 5)).alloc (.cells (bcs (List.replicate 32 0)) 5)) g h 0 := by
  have hc : ∀ a, a = w.heap.size ∨ a = w.heap.size + 1 → ∀ j, j < 32 → ((w.drew.alloc (.cells (bcs (List.replicate 32 0)) 5)).alloc (.cells (bcs (List.replicate 32 0)) 5)).cell? ⟨a, j, none⟩ = some (.int .u8 0) := by
    intro a ha j hj
    rcases ha with rfl | rfl
    · rw [World.cell?_alloc_lt _ _ ⟨w.heap.size, j, none⟩ (by simp), show w.heap.size = w.drew.heap.size from rfl, cell_of_row _ _ _ _ _ _ (heap_alloc_new w.drew _), bcs_at, List.getElem?_replicate, if_pos hj]; rfl
    · have e : w.heap.size + 1 = (w.drew.alloc (.cells (bcs (List.replicate 32 0)) 5)).heap.size := by simp
      rw [e, cell_of_row _ _ _ _ _ _ (heap_alloc_new _ _), bcs_at, List.getElem?_replicate, if_pos hj]; rfl
  have hf : ∀ a, a = w.heap.size ∨ a = w.heap.size + 1 → ∀ j, ((w.drew.alloc (.cells (bcs (List.replicate 32 0)) 5)).alloc (.cells (bcs (List.replicate 32 0)) 5)).frozen? ⟨a, j, none⟩ = false := by
    intro a ha j
    rcases ha with rfl | rfl
    · rw [World.frozen?_alloc_old _ _ _ (by simp)]; exact World.frozen?_alloc_new w.drew _ _ _
    · have e : w.heap.size + 1 = (w.drew.alloc (.cells (bcs (List.replicate 32 0)) 5)).heap.size := by simp
      rw [e]; exact World.frozen?_alloc_new _ _ _ _
  refine ⟨((Below.refl _ w).drew.alloc (by simp) _).alloc (by simp) _, by omega, by omega, by simp; omega, by simp; omega, by omega, hc g (by omega), fun j hj => by rw [if_neg (by omega)]; exact hc h (by omega) j hj, hf h (by omega)⟩

/-- 32 bytes 0. -/
def zeros32 : Array Value := bcs (List.replicate 32 0)
theorem two_start' (w : World) (g h : Nat) (hgh : (g = w.heap.size ∧ h = w.heap.size + 1) ∨ (h = w.heap.size ∧ g = w.heap.size + 1)) :
    Two w ((w.alloc (.cells zeros32 5)).alloc (.cells zeros32 5)).drew g h 0 := two_start w g h hgh

set_option maxHeartbeats 1000000 in
theorem crcKnown_walk (w : World) (hw : Tab w) : Calls Tryd.prog 7 #[] w fun e w' => e = .returned (.bool true) ∧ Below w.heap.size w w' := by
  obtain ⟨i0, hi, hz0, hz1, hz2⟩ := info_parts (show (Tryd.prog.info? 5).map (fun i => (i.zero, i.size, i.bytes)) = some (some (.int .u8 0), 1, 1) by kernel_rfl)
  have hmk : ∀ W, (Instr.makeSlice 23 (.int .i64 32) (.int .i64 32)).run Tryd.prog W = .ok (.slice (some ⟨W.heap.size, 0, none⟩) 32 32) (W.alloc (.cells zeros32 5)) := by
    intro W
    unfold zeros32
    have hr := run_make (P := Tryd.prog) W 23 5 i0 _ Tryd.underlying23 hi hz0 .i64 .i64 32 32 (by omega) (by omega) (by rw [hz2]; decide) (by omega)
    simp only [hz1, Nat.mul_one] at hr
    rw [← bcs_zeros]
    exact hr
  have HW := Lib.hid hw
  clear hw hi hz0 hz1 hz2
  go_enter Tryd.func7, Tryd.ntmps7
  go_wp2
  go_region
  have T := two_start' w w.heap.size (w.heap.size + 1) (.inl ⟨rfl, rfl⟩)
  generalize ((w.alloc (.cells zeros32 5)).alloc (.cells zeros32 5)).drew = wr at T ⊢
  generalize w.heap.size + 1 = h at T ⊢
  generalize w.heap.size = g at T ⊢
  rotate_left
  have T := two_start' w (w.heap.size + 1) w.heap.size (.inr ⟨rfl, rfl⟩)
  generalize ((w.alloc (.cells zeros32 5)).alloc (.cells zeros32 5)).drew = wr at T ⊢
  generalize w.heap.size + 1 = g at T ⊢
  generalize w.heap.size = h at T ⊢
  all_goals
    clear hmk
    go_wp2_with fail
    go_loopw [3] (fun i wz => ∃ k : Nat, k ≤ 32 ∧ i = .int .i64 k ∧ Two w wz g h k) (fun i _ => 32 - (intOf i).toNat)
    case atStart => exact ⟨0, Nat.zero_le _, rfl, T⟩
    case round =>
      clear T
      obtain ⟨k, hk, rfl, T⟩ := hrel
      by_cases hlt : k < 32
      · have hc := T.2.2.2.2.2.2.2.1 k hlt
        have hf := T.2.2.2.2.2.2.2.2 k
        have HT := Lib.hid (T.set hlt)
        clear T
        go_wp2_with fail
        go_roundw
        case rel => exact ⟨k + 1, by omega, by go_num, HT.out⟩
        case measure => simp [intOf]; omega
      · obtain rfl : k = 32 := by omega
        have HZ := Lib.hid (rd_same _ g T.2.2.2.1 0 T.2.2.2.2.2.2.1)
        have HO := Lib.hid (rd_same _ h T.2.2.2.2.1 255 (fun j hj => by rw [T.2.2.2.2.2.2.2.1 j hj, if_pos hj]; rfl))
        have HB := Lib.hid T.1
        clear T
        have HW1 := Lib.hid (HW.out.below HB.out HW.out.1)
        go_wp2_with fail
        have hr := rd_lit wr [0] #[.int .u8 0] rfl (by decide)
        have hc := Check_one (wr.alloc (.cells #[.int .u8 0] 5)) (HW1.out.alloc _) _ 1 1 [0] rfl hr _ check_zero
        rw [size_alloc'] at hc
        have HC := Lib.hid hc
        clear hc hr
        refine HC.out.mono ?_
        rintro e w1 ⟨rfl, hb⟩
        have HB1 := Lib.hid (below_alloc wr _ hb)
        have HW2 := Lib.hid (HW1.out.below HB1.out HW1.out.1)
        have HZ2 := Lib.hid ((HZ.out.below HB1.out).more HB1.out.size)
        have HO2 := Lib.hid ((HO.out.below HB1.out).more HB1.out.size)
        clear hb HC
        go_wp2_with fail
        refine (Check_one _ HW2.out _ 32 32 _ (by simp) HZ2.out _ check_zeros).mono ?_
        rintro e w2 ⟨rfl, hb⟩
        have HB2 := Lib.hid (HB1.out.trans (hb.mono HB1.out.size))
        have HW3 := Lib.hid (HW2.out.below hb HW2.out.1)
        have HO3 := Lib.hid ((HO2.out.below hb).more hb.size)
        clear hb
        go_wp2_with fail
        refine (Check_one _ HW3.out _ 32 32 _ (by simp) HO3.out _ check_ones).mono ?_
        rintro e w3 ⟨rfl, hb⟩
        have HB3 := Lib.hid (HB2.out.trans (hb.mono HB2.out.size))
        have HW4 := Lib.hid (HW3.out.below hb HW3.out.1)
        clear hb
        go_wp2_with fail
        refine (Check_new w3 [⟨none, 0, []⟩, ⟨none, 0, []⟩] _ 2 rfl rfl (by simp) HW4.out (fun p hp => by simp at hp; subst hp; exact Rd.nil _ _) _ check_nils).mono ?_
        rintro e w4 ⟨rfl, rfl⟩
        have HB4 := Lib.hid (HB3.out.trans (((Below.refl _ w3).alloc (Nat.le_refl _) (.cells #[.slice none 0 0, .slice none 0 0] 23)).mono HB3.out.size))
        have HW5 := Lib.hid (HW4.out.alloc (.cells #[.slice none 0 0, .slice none 0 0] 23))
        go_wp2_with fail
        refine (goes_any _ HW5.out).mono ?_
        rintro e w5 ⟨rfl, hb⟩
        have HB5 := Lib.hid (HB4.out.trans (hb.mono HB4.out.size))
        clear hb
        go_wp2_with fail
        go_ret
        exact ⟨rfl, HB.out.trans (HB5.out.mono HB.out.size)⟩
end Go.Proofs.YtonmgcfnhbfpgaaDoor
