import Derived.Test.YtakjgimnmobngaaDoorCi7
namespace Go.Proofs.YtakjgimnmobngaaDoor.Ci
open Go.RowKit Mem

/-! The document's own answers. -/
set_option maxHeartbeats 400000 in
theorem rleap_any (y : Int) (w : World) : Calls Tryd.prog 42 #[.int .i64 y] w fun e w' => e = .returned (.bool (leapB y)) ∧ w = w' := by
  have L := Lib.hid (leap_t y)
  have K := Lib.hid (show y.tmod 400 = 0 → y.tmod 4 = 0 from fun h => by
    have a := tmod_zero y 4; have c := tmod_zero y 400
    simp only [Int.cast_ofNat_Int] at a c
    rw [a]; rw [c] at h; omega)
  by_cases h4 : y.tmod 400 = 0
  · have K4 := Lib.hid (K.out h4)
    have h4' : (y.tmod 400 == 0) = true := by simpa using h4
    have H := Lib.hid h4; clear h4
    go_enter Tryd.func42, Tryd.ntmps42
    go_wp2
    go_ret
    refine ⟨ret_bool ?_, rfl⟩
    rw [L.out, K4.out, H.out]; simp
  · have h4' : (y.tmod 400 == 0) = false := by simpa using h4
    have H := Lib.hid h4'; clear h4
    go_enter Tryd.func42, Tryd.ntmps42
    go_wp2
    all_goals
      go_ret
      refine ⟨ret_bool ?_, rfl⟩
      rw [L.out, H.out]; simp_all
set_option maxHeartbeats 400000 in
theorem rlong_any (y m : Int) (w : World) : Calls Tryd.prog 38 #[.int .i64 y, .int .i64 m] w fun e w' => e = .returned (.int .i64 (long y m)) ∧ w = w' := by
  by_cases h2 : m = 2
  · subst h2
    cases hl : leapB y with
    | true =>
      have HL := Lib.hid hl; clear hl
      have C := Lib.hid (rleap_any y w)
      go_enter Tryd.func38, Tryd.ntmps38
      go_wp2_with fail
      refine C.out.mono ?_
      rintro e w' ⟨rfl, rfl⟩
      rw [HL.out]
      go_wp2_with fail
      go_ret
      exact ⟨ret_int (by unfold long; rw [if_pos rfl, if_pos HL.out]), rfl⟩
    | false =>
      have HL := Lib.hid hl; clear hl
      have C := Lib.hid (rleap_any y w)
      go_enter Tryd.func38, Tryd.ntmps38
      go_wp2_with fail
      refine C.out.mono ?_
      rintro e w' ⟨rfl, rfl⟩
      rw [HL.out]
      go_wp2_with fail
      go_ret
      exact ⟨ret_int (by unfold long; rw [if_pos rfl, HL.out]; rfl), rfl⟩
  · have h2' : (m == 2) = false := by simpa using h2
    by_cases h4 : m = 4 ∨ m = 6 ∨ m = 9 ∨ m = 11
    · have E := Lib.hid (show long y m = 30 by unfold long; rw [if_neg h2, if_pos h4])
      clear h2 h2'
      rcases h4 with rfl | rfl | rfl | rfl <;>
      ( go_enter Tryd.func38, Tryd.ntmps38
        go_wp2_with fail
        go_ret
        exact ⟨ret_int E.out.symm, rfl⟩)
    · have E := Lib.hid (show long y m = 31 by unfold long; rw [if_neg h2, if_neg h4])
      have a1 : (m == 4) = false := by simp; omega
      have a2 : (m == 6) = false := by simp; omega
      have a3 : (m == 9) = false := by simp; omega
      have a4 : (m == 11) = false := by simp; omega
      clear h2 h4
      go_enter Tryd.func38, Tryd.ntmps38
      go_wp2_with fail
      go_ret
      exact ⟨ret_int E.out.symm, rfl⟩
set_option maxHeartbeats 400000 in
theorem rlength_any (q : Int) (w : World) : Calls Tryd.prog 39 #[.int .i64 q] w fun e w' => e = .returned (.int .i64 (lenM q)) ∧ w = w' := by
  by_cases h : 12 ≤ q ∧ q ≤ 119999
  · obtain ⟨h1, h2⟩ := h
    have L := Lib.hid (lenM_in h1 h2)
    have C := Lib.hid (rlong_any (q / 12) (q % 12 + 1) w)
    go_enter Tryd.func39, Tryd.ntmps39
    go_wp2_with fail
    refine C.out.mono ?_
    rintro e w' ⟨rfl, rfl⟩
    go_wp2_with fail
    go_ret
    exact ⟨ret_int L.out.symm, rfl⟩
  · have L := Lib.hid (lenM_out (q := q) (by omega))
    rcases (show q < 12 ∨ (12 ≤ q ∧ 119999 < q) by omega) with h' | ⟨h2, h'⟩ <;>
    ( clear h
      go_enter Tryd.func39, Tryd.ntmps39
      go_wp2_with fail
      go_ret
      exact ⟨ret_int L.out.symm, rfl⟩)
theorem rdays_any (y : Int) (w : World) : Calls Tryd.prog 37 #[.int .i64 y] w fun e w' => e = .returned (.int .i64 (days y)) ∧ w = w' := by
  have C := Lib.hid (rleap_any y w)
  cases hl : leapB y with
  | true =>
    have HL := Lib.hid hl; clear hl
    go_enter Tryd.func37, Tryd.ntmps37
    go_wp2_with fail
    refine C.out.mono ?_
    rintro e w' ⟨rfl, rfl⟩
    rw [HL.out]
    go_wp2_with fail
    go_ret
    exact ⟨ret_int (by unfold days; rw [if_pos HL.out]), rfl⟩
  | false =>
    have HL := Lib.hid hl; clear hl
    go_enter Tryd.func37, Tryd.ntmps37
    go_wp2_with fail
    refine C.out.mono ?_
    rintro e w' ⟨rfl, rfl⟩
    rw [HL.out]
    go_wp2_with fail
    go_ret
    exact ⟨ret_int (by unfold days; rw [HL.out]; rfl), rfl⟩
set_option maxHeartbeats 1000000 in
theorem rvalid_any (y m d : Int) (w : World) :
    Calls Tryd.prog 43 #[.agg #[.int .i64 y, .int .i64 m, .int .i64 d]] w fun e w' => e = .returned (.bool (vldB y m d)) ∧ Below w.heap.size w w' := by
  have hb6 : (1 ≤ y ∧ y ≤ 9999 ∧ 1 ≤ m ∧ m ≤ 12 ∧ 1 ≤ d) ∨ y < 1 ∨ (1 ≤ y ∧ 9999 < y) ∨ (1 ≤ y ∧ y ≤ 9999 ∧ m < 1) ∨ (1 ≤ y ∧ y ≤ 9999 ∧ 1 ≤ m ∧ 12 < m) ∨ (1 ≤ y ∧ y ≤ 9999 ∧ 1 ≤ m ∧ m ≤ 12 ∧ d < 1) := by omega
  rcases hb6 with ⟨h1, h2, h3, h4, h5⟩ | h
  · have E := Lib.hid (show vldB y m d = decide (d ≤ long y m) by rw [Bool.eq_iff_iff]; simp [vldB, h1, h2, h3, h4, h5])
    have a1 : decide (0 < y) = true := by simp; omega
    have a2 : decide (y < 10000) = true := by simp; omega
    have a3 : decide (0 < m) = true := by simp; omega
    have a4 : decide (m < 13) = true := by simp; omega
    have a5 : decide (0 < d) = true := by simp; omega
    have C := Lib.hid (rlong_any y m)
    go_enter Tryd.func43, Tryd.ntmps43
    go_wp2_with fail
    go_quiet ((go_at_call 38; exact quiet_left (C.out _)))
    go_wp2
    go_ret
    exact ⟨ret_bool (by rw [E.out]), below_drewN ((Below.refl _ _).alloc (Nat.le_refl _) _) _⟩
  · have HF := Lib.hid (show vldB y m d = false by rw [Bool.eq_false_iff]; intro k; have := vld_of k; omega)
    rcases h with g | ⟨g1, g⟩ | ⟨g1, g2, g⟩ | ⟨g1, g2, g3, g⟩ | ⟨g1, g2, g3, g4, g⟩
    · have a1 : decide (0 < y) = false := by simp; omega
      go_enter Tryd.func43, Tryd.ntmps43
      go_wp2_with fail
      go_quiet (fail)
      go_wp2
      go_ret
      exact ⟨ret_bool HF.out.symm, below_drewN ((Below.refl _ _).alloc (Nat.le_refl _) _) _⟩
    · have a1 : decide (0 < y) = true := by simp; omega
      have a2 : decide (y < 10000) = false := by simp; omega
      go_enter Tryd.func43, Tryd.ntmps43
      go_wp2_with fail
      go_quiet (fail)
      go_wp2
      go_ret
      exact ⟨ret_bool HF.out.symm, below_drewN ((Below.refl _ _).alloc (Nat.le_refl _) _) _⟩
    · have a1 : decide (0 < y) = true := by simp; omega
      have a2 : decide (y < 10000) = true := by simp; omega
      have a3 : decide (0 < m) = false := by simp; omega
      go_enter Tryd.func43, Tryd.ntmps43
      go_wp2_with fail
      go_quiet (fail)
      go_wp2
      go_ret
      exact ⟨ret_bool HF.out.symm, below_drewN ((Below.refl _ _).alloc (Nat.le_refl _) _) _⟩
    · have a1 : decide (0 < y) = true := by simp; omega
      have a2 : decide (y < 10000) = true := by simp; omega
      have a3 : decide (0 < m) = true := by simp; omega
      have a4 : decide (m < 13) = false := by simp; omega
      go_enter Tryd.func43, Tryd.ntmps43
      go_wp2_with fail
      go_quiet (fail)
      go_wp2
      go_ret
      exact ⟨ret_bool HF.out.symm, below_drewN ((Below.refl _ _).alloc (Nat.le_refl _) _) _⟩
    · have a1 : decide (0 < y) = true := by simp; omega
      have a2 : decide (y < 10000) = true := by simp; omega
      have a3 : decide (0 < m) = true := by simp; omega
      have a4 : decide (m < 13) = true := by simp; omega
      have a5 : decide (0 < d) = false := by simp; omega
      go_enter Tryd.func43, Tryd.ntmps43
      go_wp2_with fail
      go_quiet (fail)
      go_wp2
      go_ret
      exact ⟨ret_bool HF.out.symm, below_drewN ((Below.refl _ _).alloc (Nat.le_refl _) _) _⟩
end Go.Proofs.YtakjgimnmobngaaDoor.Ci
