import Derived.Test.YtakjgimnmobngaaDoorCi3
import Derived.Test.YtakjgimnmobngaaDoorPe0
namespace Go.Proofs.YtakjgimnmobngaaDoor.Ci
open Go.RowKit Mem

set_option maxHeartbeats 1000000 in
theorem first_in (q : Int) (w : World) (hw : Lens w) (h1 : 12 ≤ q) (h2 : q ≤ 119999) :
    Calls Tryd.prog 27 #[.int .i64 q] w fun e w' => e = .returned (.tuple #[.int .i64 (fst q), .int .i64 0]) ∧ w = w' := by
  have HW := Lib.hid hw; clear hw
  have L0 := Lib.hid (lenM_in h1 h2)
  have b0 := long_bd (q / 12) (q % 12 + 1)
  have bn := ny_bd (y := q / 12) (by omega) (by omega)
  have bc := cum_bd (q / 12) (k := (q % 12).toNat) (by omega)
  obtain ⟨Y, hY⟩ : ∃ Y, q / 12 = Y := ⟨_, rfl⟩
  obtain ⟨p, hp⟩ : ∃ p : Nat, (p : Int) = q % 12 := ⟨(q % 12).toNat, by omega⟩
  have hp' : (q % 12).toNat = p := by omega
  have hp12 : p < 12 := by omega
  have hq : q = 12 * Y + p := by omega
  have HF := Lib.hid (show fst q = ny Y + cum Y p by unfold fst; rw [hY, hp'])
  rw [hY] at bn bc b0; rw [hp'] at bc
  have hne : lenM q ≠ 0 := by have := long_bd (q / 12) (q % 12 + 1); rw [lenM_in h1 h2]; omega
  have hne' : (lenM q == 0) = false := by simpa using hne
  have HY := Lib.hid hY; have HP := Lib.hid hp; have HQ := Lib.hid hq
  have hY1 : 1 ≤ Y := by omega
  have hY2 : Y ≤ 9999 := by omega
  clear hY hp hp' hq hne b0
  go_enter Tryd.func27, Tryd.ntmps27
  go_wp2_with fail
  refine (length_any q _ HW.out).mono ?_
  rintro e w1 ⟨rfl, rfl⟩
  go_wp2_with fail
  rw [HY.out]
  refine (newYear_any Y _ hY1 (by omega)).mono ?_
  rintro e w1 ⟨rfl, rfl⟩
  go_wp2_with fail
  go_loop [4, 14] (fun t c => ∃ a : Nat, a ≤ p ∧ c = .int .i64 a ∧ t = .int .i64 (ny Y + cum Y p - cum Y (p - a))) (fun _ c => 12 - (intOf c).toNat)
  case atStart => exact ⟨0, Nat.zero_le _, rfl, by congr 1; simp⟩
  case round =>
    obtain ⟨a, ha, rfl, rfl⟩ := hrel
    have ba := cum_bd Y (k := p - a) (by omega)
    by_cases hlt : a < p
    · have HM := Lib.hid (lenM_ym (y := Y) (m := ((p - a : Nat) : Int)) hY1 hY2 (by omega) (by omega))
      have HS := Lib.hid (cum_succ Y (p - a - 1))
      have bl := lenM_bd (12 * Y + ((p - a : Nat) : Int) - 1)
      have ht : decide ((a : Int) < q % 12) = true := by have := HP.out; simp; omega
      have E := Lib.hid (show q - a - 1 = 12 * Y + ((p - a : Nat) : Int) - 1 by have := HQ.out; omega)
      go_wp2_with fail
      rw [E.out]
      refine (length_any _ _ HW.out).mono ?_
      rintro e w1 ⟨rfl, rfl⟩
      go_wp2_with fail
      go_round
      case rel => exact ⟨a + 1, by omega, by go_num, by congr 1; have := HS.out; have := HM.out; rw [show p - a - 1 + 1 = p - a by omega, show ((p - a - 1 : Nat) : Int) + 1 = ((p - a : Nat) : Int) by omega] at *; rw [show p - (a + 1) = p - a - 1 by omega]; omega⟩
      case measure => simp [intOf]; omega
    · have ht : decide ((a : Int) < q % 12) = false := by have := HP.out; simp; omega
      obtain rfl : a = p := by omega
      go_wp2_with fail
      go_ret2
      exact ⟨by rw [HF.out]; simp [cum], rfl⟩
theorem first_out {q : Int} (w : World) (hw : Lens w) (h : q < 12 ∨ 119999 < q) :
    Calls Tryd.prog 27 #[.int .i64 q] w fun e w' => e = .returned (.tuple #[.int .i64 0, .int .i64 1]) ∧ w = w' := by
  have L0 := Lib.hid (lenM_out h)
  have HW := Lib.hid hw; clear hw h
  go_enter Tryd.func27, Tryd.ntmps27
  go_wp2_with fail
  refine (length_any q _ HW.out).mono ?_
  rintro e w1 ⟨rfl, rfl⟩
  rw [L0.out]
  go_wp2_with fail
  go_ret2
  exact ⟨rfl, rfl⟩
end Go.Proofs.YtakjgimnmobngaaDoor.Ci
