import Derived.Test.YtakjgimnmobngaaDoorCi4
namespace Go.Proofs.YtakjgimnmobngaaDoor.Ci
open Go.RowKit Mem

/-- What Clamp's day is. -/
theorem mod12 (q : Int) (h : 12 ≤ q) : q.tmod 12 = q % 12 ∧ q.tdiv 12 = q / 12 := ⟨Int.tmod_eq_emod_of_nonneg (by omega), Int.tdiv_eq_ediv_of_nonneg (by omega)⟩
set_option maxHeartbeats 1000000 in
theorem clamp_in (q d : Int) (w : World) (hw : Lens w) (h1 : 12 ≤ q) (h2 : q ≤ 119999) (h3 : 1 ≤ d) :
    Calls Tryd.prog 34 #[.int .i64 q, .int .i64 d] w fun e w' => e = .returned (.tuple #[.agg #[.int .i64 (q / 12), .int .i64 (q % 12 + 1), .int .i64 (min d (lenM q))], .int .i64 0]) ∧ Below w.heap.size w w' := by
  have hb0 := hw
  have HW := Lib.hid (fun W (h : Below (w.heap.size) w W) (hs : 0 < w.heap.size) => hw.below h hs); clear hw
  have hs : 0 < w.heap.size := by
    have := hb0 0 (by omega)
    exact World.block_lt_of_cell? w _ this
  clear hb0
  have lb := lenM_bd q
  have hne : (lenM q == 0) = false := by have := long_bd (q / 12) (q % 12 + 1); have := lenM_in h1 h2; simp; omega
  rcases Int.lt_or_le (lenM q) d with hm | hm
  · have M := Lib.hid (show min d (lenM q) = lenM q by omega)
    have h0 : ¬ d < lenM q := by omega
    go_enter Tryd.func34, Tryd.ntmps34
    go_wp2_with fail
    refine (length_any q _ (HW.out _ ((Below.refl _ _).alloc (Nat.le_refl _) _) hs)).mono ?_
    rintro e w1 ⟨rfl, rfl⟩
    go_wp2_with fail
    all_goals
      first
      | (exfalso; omega)
      | exact bodyPost_ret (v := .tuple #[.agg #[.int .i64 (q / 12), .int .i64 (q % 12 + 1), .int .i64 (lenM q)], .int .i64 0]) (by simp [results, Tryd.results34, go_sem]) rfl ⟨by rw [M.out], (Below.refl _ _).alloc (Nat.le_refl _) _⟩
  · have M := Lib.hid (show min d (lenM q) = d by omega)
    go_enter Tryd.func34, Tryd.ntmps34
    go_wp2_with fail
    refine (length_any q _ (HW.out _ ((Below.refl _ _).alloc (Nat.le_refl _) _) hs)).mono ?_
    rintro e w1 ⟨rfl, rfl⟩
    go_wp2_with fail
    all_goals
      first
      | (exfalso; omega)
      | exact bodyPost_ret (v := .tuple #[.agg #[.int .i64 (q / 12), .int .i64 (q % 12 + 1), .int .i64 d], .int .i64 0]) (by simp [results, Tryd.results34, go_sem]) rfl ⟨by rw [M.out], (Below.refl _ _).alloc (Nat.le_refl _) _⟩
set_option maxHeartbeats 1000000 in
theorem clamp_out (q d : Int) (w : World) (hw : Lens w) (h : q < 12 ∨ 119999 < q ∨ d < 1) :
    Calls Tryd.prog 34 #[.int .i64 q, .int .i64 d] w fun e w' => e = .returned (.tuple #[.agg #[.int .i64 0, .int .i64 0, .int .i64 0], .int .i64 1]) ∧ Below w.heap.size w w' := by
  have hb0 := hw
  have HW := Lib.hid (fun W (h : Below (w.heap.size) w W) (hs : 0 < w.heap.size) => hw.below h hs); clear hw
  have hs : 0 < w.heap.size := by
    have := hb0 0 (by omega)
    exact World.block_lt_of_cell? w _ this
  clear hb0
  by_cases hz : lenM q = 0
  · have hne : (lenM q == 0) = true := by simpa using hz
    have HZ := Lib.hid hz; clear hz h
    go_enter Tryd.func34, Tryd.ntmps34
    go_wp2_with fail
    refine (length_any q _ (HW.out _ ((Below.refl _ _).alloc (Nat.le_refl _) _) hs)).mono ?_
    rintro e w1 ⟨rfl, rfl⟩
    rw [HZ.out]
    go_wp2_with fail
    all_goals exact bodyPost_ret (v := .tuple #[.agg #[.int .i64 0, .int .i64 0, .int .i64 0], .int .i64 1]) (by simp [results, Tryd.results34, go_sem]) rfl ⟨rfl, (Below.refl _ _).alloc (Nat.le_refl _) _⟩
  · have hne : (lenM q == 0) = false := by simpa using hz
    have hd : d < 1 := by
      by_cases g : q < 12 ∨ 119999 < q
      · exact absurd (lenM_out g) hz
      · omega
    clear hz h
    go_enter Tryd.func34, Tryd.ntmps34
    go_wp2_with fail
    refine (length_any q _ (HW.out _ ((Below.refl _ _).alloc (Nat.le_refl _) _) hs)).mono ?_
    rintro e w1 ⟨rfl, rfl⟩
    go_wp2_with fail
    all_goals exact bodyPost_ret (v := .tuple #[.agg #[.int .i64 0, .int .i64 0, .int .i64 0], .int .i64 1]) (by simp [results, Tryd.results34, go_sem]) rfl ⟨rfl, (Below.refl _ _).alloc (Nat.le_refl _) _⟩
end Go.Proofs.YtakjgimnmobngaaDoor.Ci
