import Derived.Test.YtlfkafcmdndlgaaDoorCi4
namespace Go.Proofs.YtlfkafcmdndlgaaDoor.Ci
open Go.RowKit Mem

set_option maxHeartbeats 1000000 in
theorem day_yes {y m d : Int} (w : World) (hw : Lens w) (hs : 0 < w.heap.size) (h : vldB y m d = true) :
    Calls Tryd.prog 10 #[.agg #[.int .i64 y, .int .i64 m, .int .i64 d]] w fun e w' => e = .returned (.tuple #[.int .i64 (num y m d), .int .i64 0]) ∧ Below w.heap.size w w' := by
  have HL := Lib.hid (fun W (h : Below (w.heap.size) w W) => hw.below h hs)
  have H := Lib.hid h; clear h hw
  obtain ⟨h1, h2, h3, h4, h5, h6⟩ := vld_of H.out
  have lb := long_bd y m
  have HF := Lib.hid (fst_ym (y := y) h3 h4)
  have nb := num_bd H.out
  have HN := Lib.hid (show num y m 1 + d - 1 = num y m d by unfold num; omega)
  have nb1 := num_bd (num_first h1 h2 h3 h4)
  go_enter Tryd.func10, Tryd.ntmps10
  go_wp2_with fail
  refine (valid_yes _ (HL.out _ ((Below.refl _ _).alloc (Nat.le_refl _) _)) (by simp) H.out).mono ?_
  rintro e w1 ⟨rfl, hb⟩
  obtain ⟨hc, hf⟩ := bcell hb
  have b1 := Lib.hid (((Below.refl _ _).alloc (Nat.le_refl _) _).trans (hb.mono (by simp)) : Below w.heap.size w w1)
  have z1 : w.heap.size < w1.heap.size := by have := hb.size; simp at this; omega
  go_wp2_with fail
  refine (monthOf_any y m d _ h1 h2 h3 h4).mono ?_
  rintro e w2 ⟨rfl, hb2⟩
  obtain ⟨hc2, hf2⟩ := bcell hb2
  have b2 := Lib.hid (b1.out.trans (hb2.mono (Nat.le_of_lt z1)))
  have z2 : w.heap.size < w2.heap.size := by have := hb2.size; omega
  go_wp2_with fail
  refine (first_in _ _ (HL.out _ b2.out) (by omega) (by omega)).mono ?_
  rintro e w3 ⟨rfl, rfl⟩
  rw [HF.out]
  go_wp2_with fail
  go_ret2
  exact ⟨by rw [HN.out]; rfl, b2.out⟩
set_option maxHeartbeats 1000000 in
theorem day_no {y m d : Int} (w : World) (hw : Lens w) (hs : 0 < w.heap.size) (h : vldB y m d = false) :
    Calls Tryd.prog 10 #[.agg #[.int .i64 y, .int .i64 m, .int .i64 d]] w fun e w' => e = .returned (.tuple #[.int .i64 0, .int .i64 1]) ∧ Below w.heap.size w w' := by
  have HL := Lib.hid (fun W (h : Below (w.heap.size) w W) => hw.below h hs)
  have H := Lib.hid h; clear h hw
  go_enter Tryd.func10, Tryd.ntmps10
  go_wp2_with fail
  refine (valid_not _ (HL.out _ ((Below.refl _ _).alloc (Nat.le_refl _) _)) (by simp) H.out).mono ?_
  rintro e w1 ⟨rfl, hb⟩
  go_wp2_with fail
  go_ret2
  exact ⟨rfl, ((Below.refl _ _).alloc (Nat.le_refl _) _).trans (hb.mono (by simp))⟩

/-- What Clamp's day is. -/
theorem mod12 (q : Int) (h : 12 ≤ q) : q.tmod 12 = q % 12 ∧ q.tdiv 12 = q / 12 := ⟨Int.tmod_eq_emod_of_nonneg (by omega), Int.tdiv_eq_ediv_of_nonneg (by omega)⟩
set_option maxHeartbeats 1000000 in
theorem clamp_in (q d : Int) (w : World) (hw : Lens w) (h1 : 12 ≤ q) (h2 : q ≤ 119999) (h3 : 1 ≤ d) :
    Calls Tryd.prog 24 #[.int .i64 q, .int .i64 d] w fun e w' => e = .returned (.tuple #[.agg #[.int .i64 (q / 12), .int .i64 (q % 12 + 1), .int .i64 (min d (lenM q))], .int .i64 0]) ∧ Below w.heap.size w w' := by
  have hb0 := hw
  have HW := Lib.hid (fun W (h : Below (w.heap.size) w W) (hs : 0 < w.heap.size) => hw.below h hs); clear hw
  have hs : 0 < w.heap.size := by
    have := hb0 0 (by omega)
    exact World.block_lt_of_cell? w _ this
  clear hb0
  have lb := lenM_bd q
  have hne : (lenM q == 0) = false := by have := long_bd (q / 12) (q % 12 + 1); have := lenM_in h1 h2; simp; omega
  rcases Int.lt_or_le (lenM q) d with hm | hm
  · have M := Lib.hid (show min d (lenM q) = lenM q by omega)
    have h0 : ¬ d < lenM q := by omega
    go_enter Tryd.func24, Tryd.ntmps24
    go_wp2_with fail
    refine (length_any q _ (HW.out _ ((Below.refl _ _).alloc (Nat.le_refl _) _) hs)).mono ?_
    rintro e w1 ⟨rfl, rfl⟩
    go_wp2_with fail
    all_goals
      first
      | (exfalso; omega)
      | exact bodyPost_ret (v := .tuple #[.agg #[.int .i64 (q / 12), .int .i64 (q % 12 + 1), .int .i64 (lenM q)], .int .i64 0]) (by simp [results, Tryd.results24, go_sem]) rfl ⟨by rw [M.out], (Below.refl _ _).alloc (Nat.le_refl _) _⟩
  · have M := Lib.hid (show min d (lenM q) = d by omega)
    go_enter Tryd.func24, Tryd.ntmps24
    go_wp2_with fail
    refine (length_any q _ (HW.out _ ((Below.refl _ _).alloc (Nat.le_refl _) _) hs)).mono ?_
    rintro e w1 ⟨rfl, rfl⟩
    go_wp2_with fail
    all_goals
      first
      | (exfalso; omega)
      | exact bodyPost_ret (v := .tuple #[.agg #[.int .i64 (q / 12), .int .i64 (q % 12 + 1), .int .i64 d], .int .i64 0]) (by simp [results, Tryd.results24, go_sem]) rfl ⟨by rw [M.out], (Below.refl _ _).alloc (Nat.le_refl _) _⟩
set_option maxHeartbeats 1000000 in
theorem clamp_out (q d : Int) (w : World) (hw : Lens w) (h : q < 12 ∨ 119999 < q ∨ d < 1) :
    Calls Tryd.prog 24 #[.int .i64 q, .int .i64 d] w fun e w' => e = .returned (.tuple #[.agg #[.int .i64 0, .int .i64 0, .int .i64 0], .int .i64 1]) ∧ Below w.heap.size w w' := by
  have hb0 := hw
  have HW := Lib.hid (fun W (h : Below (w.heap.size) w W) (hs : 0 < w.heap.size) => hw.below h hs); clear hw
  have hs : 0 < w.heap.size := by
    have := hb0 0 (by omega)
    exact World.block_lt_of_cell? w _ this
  clear hb0
  by_cases hz : lenM q = 0
  · have hne : (lenM q == 0) = true := by simpa using hz
    have HZ := Lib.hid hz; clear hz h
    go_enter Tryd.func24, Tryd.ntmps24
    go_wp2_with fail
    refine (length_any q _ (HW.out _ ((Below.refl _ _).alloc (Nat.le_refl _) _) hs)).mono ?_
    rintro e w1 ⟨rfl, rfl⟩
    rw [HZ.out]
    go_wp2_with fail
    all_goals exact bodyPost_ret (v := .tuple #[.agg #[.int .i64 0, .int .i64 0, .int .i64 0], .int .i64 1]) (by simp [results, Tryd.results24, go_sem]) rfl ⟨rfl, (Below.refl _ _).alloc (Nat.le_refl _) _⟩
  · have hne : (lenM q == 0) = false := by simpa using hz
    have hd : d < 1 := by
      by_cases g : q < 12 ∨ 119999 < q
      · exact absurd (lenM_out g) hz
      · omega
    clear hz h
    go_enter Tryd.func24, Tryd.ntmps24
    go_wp2_with fail
    refine (length_any q _ (HW.out _ ((Below.refl _ _).alloc (Nat.le_refl _) _) hs)).mono ?_
    rintro e w1 ⟨rfl, rfl⟩
    go_wp2_with fail
    all_goals exact bodyPost_ret (v := .tuple #[.agg #[.int .i64 0, .int .i64 0, .int .i64 0], .int .i64 1]) (by simp [results, Tryd.results24, go_sem]) rfl ⟨rfl, (Below.refl _ _).alloc (Nat.le_refl _) _⟩
end Go.Proofs.YtlfkafcmdndlgaaDoor.Ci
