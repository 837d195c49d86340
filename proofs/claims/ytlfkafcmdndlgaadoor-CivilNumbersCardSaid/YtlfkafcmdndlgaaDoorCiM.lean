import Derived.Test.YtlfkafcmdndlgaaDoorCi13
namespace Go.Proofs.YtlfkafcmdndlgaaDoor
open Go.RowKit Mem Ci

theorem i64_bd {x : Int} (h : (Lit.int .i64 x).wf = true) : -9223372036854775808 ≤ x ∧ x ≤ 9223372036854775807 := by
  simpa [Lit.wf, IntKind.min, IntKind.max, IntKind.bits, IntKind.signed] using h
namespace Ci
theorem fst_succ {q : Int} (h1 : 12 ≤ q) (h2 : q ≤ 119998) : fst (q + 1) = fst q + lenM q := by
  have e := lenM_in h1 (by omega : q ≤ 119999)
  rw [e]
  unfold fst
  by_cases h : q % 12 = 11
  · rw [show (q + 1) / 12 = q / 12 + 1 by omega, show ((q + 1) % 12).toNat = 0 by omega, show (q % 12).toNat = 11 by omega, h]
    have a := ny_succ (q / 12); have b := cum_12 (q / 12)
    have c : cum (q / 12) 12 = cum (q / 12) 11 + long (q / 12) (11 + 1) := rfl
    have d : cum (q / 12 + 1) 0 = 0 := rfl
    omega
  · rw [show (q + 1) / 12 = q / 12 by omega, show ((q + 1) % 12).toNat = (q % 12).toNat + 1 by omega, cum_succ]
    rw [show (((q % 12).toNat : Nat) : Int) = q % 12 by omega]; omega
theorem leap_400 (y : Int) : leapB (y + 400) = leapB y := by
  rw [Bool.eq_iff_iff, leap_iff, leap_iff]; omega
theorem long_400 (y m : Int) : long (y + 400) m = long y m := by unfold long; rw [leap_400]
theorem cum_400 (y : Int) (k : Nat) : cum (y + 400) k = cum y k := by
  induction k with
  | zero => rfl
  | succ k ih => rw [cum_succ, cum_succ, ih, long_400]
theorem ny_400 (y : Int) : ny (y + 400) = ny y + 146097 := by unfold ny; omega
theorem fst_400 (q : Int) : fst (q + 4800) = fst q + 146097 := by
  unfold fst
  rw [show (q + 4800) / 12 = q / 12 + 400 by omega, show (q + 4800) % 12 = q % 12 by omega, ny_400, cum_400]; omega
theorem fst_bd {q : Int} (h1 : 12 ≤ q) (h2 : q ≤ 119999) : -719528 ≤ fst q ∧ fst q ≤ 2933300 := by
  have a := ny_bd (y := q / 12) (by omega) (by omega)
  have b := cum_bd (q / 12) (k := (q % 12).toNat) (by omega)
  unfold fst; omega
end Ci

set_option maxHeartbeats 2000000 in
theorem civilMonths_walk (q : Int) (w : World) (hw : Lw w) (hq : (Lit.int .i64 q).wf = true) :
    Calls Tryd.prog 7 #[.int .i64 q] w fun e w' => e = .returned (.bool true) ∧ Below w.heap.size w w' := by
  obtain ⟨b1, b2⟩ := i64_bd hq
  clear hq
  have G := Lib.hid (goes_any w hw)
  have HW := Lib.hid hw.lens; clear hw
  by_cases hin : 12 ≤ q ∧ q ≤ 119999
  · obtain ⟨h1, h2⟩ := hin
    have bf := fst_bd h1 h2
    have hl := long_bd (q / 12) (q % 12 + 1)
    have e := lenM_in h1 h2
    have hpos : decide (0 < lenM q) = true := by simp; omega
    have lb := lenM_bd q
    clear hl e
    by_cases h3 : q ≤ 119998
    · have HS := Lib.hid (fst_succ h1 h3)
      by_cases h4 : q + 4800 ≤ 119999
      · have H4 := Lib.hid (fst_400 q)
        go_enter Tryd.func7, Tryd.ntmps7
        go_wp2_with fail
        refine (first_in (q) _ HW.out (by omega) (by omega)).mono ?_
        rintro e w1 ⟨rfl, rfl⟩
        go_wp2_with fail
        refine (first_in (q + 1) _ HW.out (by omega) (by omega)).mono ?_
        rintro e w1 ⟨rfl, rfl⟩
        rw [HS.out]
        go_wp2_with fail
        refine (first_in (q + 4800) _ HW.out (by omega) (by omega)).mono ?_
        rintro e w1 ⟨rfl, rfl⟩
        rw [H4.out]
        go_wp2_with fail
        refine (length_any q _ HW.out).mono ?_
        rintro e w1 ⟨rfl, rfl⟩
        go_wp2_with fail
        refine G.out.mono ?_
        rintro e w1 ⟨rfl, hb⟩
        have HB := Lib.hid hb; clear hb
        go_wp2_with fail
        go_ret
        exact ⟨rfl, HB.out⟩
      · have h5 : 119999 < q + 4800 := by omega
        clear h4
        go_enter Tryd.func7, Tryd.ntmps7
        go_wp2_with fail
        refine (first_in (q) _ HW.out (by omega) (by omega)).mono ?_
        rintro e w1 ⟨rfl, rfl⟩
        go_wp2_with fail
        refine (first_in (q + 1) _ HW.out (by omega) (by omega)).mono ?_
        rintro e w1 ⟨rfl, rfl⟩
        rw [HS.out]
        go_wp2_with fail
        refine (first_out (q := q + 4800) _ HW.out (by omega)).mono ?_
        rintro e w1 ⟨rfl, rfl⟩
        go_wp2_with fail
        refine (length_any q _ HW.out).mono ?_
        rintro e w1 ⟨rfl, rfl⟩
        go_wp2_with fail
        refine G.out.mono ?_
        rintro e w1 ⟨rfl, hb⟩
        have HB := Lib.hid hb; clear hb
        go_wp2_with fail
        go_ret
        exact ⟨rfl, HB.out⟩
    · obtain rfl : q = 119999 := by omega
      clear h3
      go_enter Tryd.func7, Tryd.ntmps7
      go_wp2_with fail
      refine (first_in (119999) _ HW.out (by omega) (by omega)).mono ?_
      rintro e w1 ⟨rfl, rfl⟩
      go_wp2_with fail
      refine (first_out (q := 120000) _ HW.out (by omega)).mono ?_
      rintro e w1 ⟨rfl, rfl⟩
      go_wp2_with fail
      refine (length_any 119999 _ HW.out).mono ?_
      rintro e w1 ⟨rfl, rfl⟩
      go_wp2_with fail
      refine G.out.mono ?_
      rintro e w1 ⟨rfl, hb⟩
      have HB := Lib.hid hb; clear hb
      go_wp2_with fail
      go_ret
      exact ⟨rfl, HB.out⟩
  · have L0 := Lib.hid (lenM_out (q := q) (by omega))
    by_cases hm : q = 9223372036854775807
    · have hm' : (q == 9223372036854775807) = true := by simpa using hm
      have E := Lib.hid (show wrap64 (q + 1) < 12 ∨ 119999 < wrap64 (q + 1) by rw [hm]; left; decide +kernel)
      have HQ := Lib.hid (show q < 12 ∨ 119999 < q by omega)
      clear hin hm b2 b1
      go_enter Tryd.func7, Tryd.ntmps7
      go_wp2_with fail
      refine (first_out (q := q) _ HW.out HQ.out).mono ?_
      rintro e w1 ⟨rfl, rfl⟩
      go_wp2_with fail
      refine (first_out _ HW.out E.out).mono ?_
      rintro e w1 ⟨rfl, rfl⟩
      go_wp2_with fail
      refine (length_any q _ HW.out).mono ?_
      rintro e w1 ⟨rfl, rfl⟩
      rw [L0.out]
      go_wp2_with fail
      refine G.out.mono ?_
      rintro e w1 ⟨rfl, hb⟩
      have HB := Lib.hid hb; clear hb
      go_wp2_with fail
      go_ret
      exact ⟨rfl, HB.out⟩
    · have hm' : (q == 9223372036854775807) = false := by simpa using hm
      have hb3 : q ≤ 9223372036854775806 := by omega
      have hlt : q < 12 ∨ 119999 < q := by omega
      clear hm hin b2
      by_cases h11 : q = 11
      · subst h11
        clear hlt
        go_enter Tryd.func7, Tryd.ntmps7
        go_wp2_with fail
        refine (first_out (q := 11) _ HW.out (by omega)).mono ?_
        rintro e w1 ⟨rfl, rfl⟩
        go_wp2_with fail
        refine (first_in (12) _ HW.out (by omega) (by omega)).mono ?_
        rintro e w1 ⟨rfl, rfl⟩
        go_wp2_with fail
        refine (length_any 11 _ HW.out).mono ?_
        rintro e w1 ⟨rfl, rfl⟩
        rw [L0.out]
        go_wp2_with fail
        refine G.out.mono ?_
        rintro e w1 ⟨rfl, hb⟩
        have HB := Lib.hid hb; clear hb
        go_wp2_with fail
        go_ret
        exact ⟨rfl, HB.out⟩
      · have hh : q + 1 < 12 ∨ 119999 < q + 1 := by omega
        have HH := Lib.hid hh; have HL := Lib.hid hlt
        clear h11 hh hlt
        go_enter Tryd.func7, Tryd.ntmps7
        go_wp2_with fail
        refine (first_out (q := q) _ HW.out HL.out).mono ?_
        rintro e w1 ⟨rfl, rfl⟩
        go_wp2_with fail
        refine (first_out (q := q + 1) _ HW.out HH.out).mono ?_
        rintro e w1 ⟨rfl, rfl⟩
        go_wp2_with fail
        refine (length_any q _ HW.out).mono ?_
        rintro e w1 ⟨rfl, rfl⟩
        rw [L0.out]
        go_wp2_with fail
        refine G.out.mono ?_
        rintro e w1 ⟨rfl, hb⟩
        have HB := Lib.hid hb; clear hb
        go_wp2_with fail
        go_ret
        exact ⟨rfl, HB.out⟩
end Go.Proofs.YtlfkafcmdndlgaaDoor
