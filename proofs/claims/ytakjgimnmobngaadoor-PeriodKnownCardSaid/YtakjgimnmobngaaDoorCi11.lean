import Derived.Test.YtakjgimnmobngaaDoorCi9
namespace Go.Proofs.YtakjgimnmobngaaDoor.Ci
open Go.RowKit Mem

set_option maxHeartbeats 2000000 in
theorem rday_yes {y m d : Int} (w : World) (h : vldB y m d = true) :
    Calls Tryd.prog 40 #[.agg #[.int .i64 y, .int .i64 m, .int .i64 d]] w fun e w' => e = .returned (.tuple #[.int .i64 (num y m d), .int .i64 0]) ∧ Below w.heap.size w w' := by
  obtain ⟨h1, h2, h3, h4, h5, h6⟩ := vld_of h
  have lb := long_bd y m
  have HN := Lib.hid (show num y m d = d - 1 + cum y (m - 1).toNat + ny y by unfold num; omega)
  have bc := cum_bd y (k := (m - 1).toNat) (by omega)
  have H := Lib.hid h; clear h
  have V := Lib.hid (fun W => rvalid_any y m d W)
  go_enter Tryd.func40, Tryd.ntmps40
  go_wp2_with fail
  refine (V.out _).mono ?_
  rintro e w1 ⟨rfl, hb⟩
  rw [H.out]
  have B1 := Lib.hid (((Below.refl _ _).alloc (Nat.le_refl _) _).trans (hb.mono (by simp)) : Below w.heap.size w w1)
  have q0 : w1.cell? ⟨w.heap.size, 0, none⟩ = some (.int .i64 y) := by rw [(bcell hb).1 _ _ (by simp)]; simp
  have q1 : w1.cell? ⟨w.heap.size, 1, none⟩ = some (.int .i64 m) := by rw [(bcell hb).1 _ _ (by simp)]; simp
  have q2 : w1.cell? ⟨w.heap.size, 2, none⟩ = some (.int .i64 d) := by rw [(bcell hb).1 _ _ (by simp)]; simp
  clear hb V
  go_wp2_with fail
  go_loop [4, 5] (fun n c => ∃ k : Nat, k ≤ (m - 1).toNat ∧ c = .int .i64 ((k : Int) + 1) ∧ n = .int .i64 (d - 1 + cum y k)) (fun _ c => (13 - intOf c).toNat)
  case atStart => exact ⟨0, by omega, by simp, by congr 1; simp [cum]⟩
  case round =>
    obtain ⟨k, hk, rfl, rfl⟩ := hrel
    have bk := cum_bd y (k := k) (by omega)
    by_cases hlt : (k : Int) + 1 < m
    · have HS := Lib.hid (cum_succ y k)
      have bl := long_bd y ((k : Int) + 1)
      go_wp2_with fail
      refine (rlong_any y ((k : Int) + 1) _).mono ?_
      rintro e w2 ⟨rfl, rfl⟩
      go_wp2_with fail
      go_round
      case rel => exact ⟨k + 1, by omega, by congr 1, by congr 1; rw [HS.out]; omega⟩
      case measure => simp [intOf]; omega
    · have HK := Lib.hid (show k = (m - 1).toNat by omega)
      go_wp2_with fail
      go_loop [4, 6] (fun n c => ∃ j : Nat, c = .int .i64 (1970 + j) ∧ n = .int .i64 (d - 1 + cum y k + ny (1970 + j)) ∧ ((j : Int) = 0 ∨ 1970 + (j : Int) ≤ y)) (fun _ c => (y - intOf c).toNat)
      case atStart => exact ⟨0, by simp, by congr 1; simp [ny_1970], .inl rfl⟩
      case round =>
        obtain ⟨j, rfl, rfl, hj⟩ := hrel
        have bn := ny_bd (y := 1970 + j) (by omega) (by omega)
        by_cases hy : 1970 + (j : Int) < y
        · have HS := Lib.hid (ny_succ (1970 + j))
          have bd := days_bd (1970 + j)
          go_wp2_with fail
          refine (rdays_any (1970 + (j : Int)) _).mono ?_
          rintro e w2 ⟨rfl, rfl⟩
          go_wp2_with fail
          go_round
          case rel => exact ⟨j + 1, by rw [show (1970 : Int) + ((j + 1 : Nat) : Int) = 1970 + j + 1 by omega], by congr 1; rw [show (1970 : Int) + ((j + 1 : Nat) : Int) = 1970 + j + 1 by omega, HS.out]; omega, .inr (by omega)⟩
          case measure => simp only [intOf]; omega
        · go_wp2_with fail
          go_loop [4, 6] (fun n c => ∃ z : Int, y ≤ z ∧ z ≤ 1970 + j ∧ c = .int .i64 z ∧ n = .int .i64 (d - 1 + cum y k + ny z)) (fun _ c => (intOf c - y).toNat)
          case atStart => exact ⟨1970 + j, by omega, by omega, rfl, rfl⟩
          case round =>
            obtain ⟨z, hz1, hz2, rfl, rfl⟩ := hrel
            have bz := ny_bd (y := z) (by clear hz2; omega) (by omega)
            by_cases hy2 : y < z
            · have HS := Lib.hid (ny_succ (z - 1))
              have bd := days_bd (z - 1)
              go_wp2_with fail
              refine (rdays_any (z - 1) _).mono ?_
              rintro e w2 ⟨rfl, rfl⟩
              go_wp2_with fail
              go_round
              case rel => exact ⟨z - 1, by omega, by omega, rfl, by congr 1; have := HS.out; rw [show z - 1 + 1 = z by omega] at this; omega⟩
              case measure => simp [intOf]; omega
            · obtain rfl : z = y := by omega
              go_wp2_with fail
              go_ret2
              exact ⟨by rw [HN.out, ← HK.out]; rfl, B1.out⟩
theorem rday_no {y m d : Int} (w : World) (h : vldB y m d = false) :
    Calls Tryd.prog 40 #[.agg #[.int .i64 y, .int .i64 m, .int .i64 d]] w fun e w' => e = .returned (.tuple #[.int .i64 0, .int .i64 1]) ∧ Below w.heap.size w w' := by
  have H := Lib.hid h; clear h
  have V := Lib.hid (fun W => rvalid_any y m d W)
  go_enter Tryd.func40, Tryd.ntmps40
  go_wp2_with fail
  refine (V.out _).mono ?_
  rintro e w1 ⟨rfl, hb⟩
  rw [H.out]
  go_wp2_with fail
  go_ret2
  exact ⟨rfl, ((Below.refl _ _).alloc (Nat.le_refl _) _).trans (hb.mono (by simp))⟩
set_option maxHeartbeats 400000 in
theorem rfirst_in (q : Int) (w : World) (h1 : 12 ≤ q) (h2 : q ≤ 119999) :
    Calls Tryd.prog 28 #[.int .i64 q] w fun e w' => e = .returned (.tuple #[.int .i64 (fst q), .int .i64 0]) ∧ Below w.heap.size w w' := by
  have lb := long_bd (q / 12) (q % 12 + 1)
  have L0 := lenM_in h1 h2
  have hne : (lenM q == 0) = false := by simp; omega
  have hv : vldB (q / 12) (q % 12 + 1) 1 = true := num_first (by omega) (by omega) (by omega) (by omega)
  have C := Lib.hid (rday_yes (y := q / 12) (m := q % 12 + 1) (d := 1) w hv)
  have E := Lib.hid (show num (q / 12) (q % 12 + 1) 1 = fst q by unfold num fst; rw [show q % 12 + 1 - 1 = q % 12 by omega]; omega)
  clear L0 hv
  go_enter Tryd.func28, Tryd.ntmps28
  go_wp2_with fail
  refine (rlength_any q _).mono ?_
  rintro e w1 ⟨rfl, rfl⟩
  go_wp2_with fail
  refine C.out.mono ?_
  rintro e w1 ⟨rfl, hb⟩
  rw [E.out]
  have HB := Lib.hid hb; clear hb
  go_wp2_with fail
  go_ret2
  exact ⟨rfl, HB.out⟩
theorem rfirst_out {q : Int} (w : World) (h : q < 12 ∨ 119999 < q) :
    Calls Tryd.prog 28 #[.int .i64 q] w fun e w' => e = .returned (.tuple #[.int .i64 0, .int .i64 1]) ∧ w = w' := by
  have L0 := Lib.hid (lenM_out h)
  clear h
  go_enter Tryd.func28, Tryd.ntmps28
  go_wp2_with fail
  refine (rlength_any q _).mono ?_
  rintro e w1 ⟨rfl, rfl⟩
  rw [L0.out]
  go_wp2_with fail
  go_ret2
  exact ⟨rfl, rfl⟩

set_option maxHeartbeats 4000000 in
theorem rof_in (z : Int) (w : World) (h1 : -719162 ≤ z) (h2 : z ≤ 2932896) :
    Calls Tryd.prog 24 #[.int .i64 z] w fun e w' => ∃ y m d : Int, e = .returned (.tuple #[.agg #[.int .i64 y, .int .i64 m, .int .i64 d], .int .i64 0]) ∧ (vldB y m d = true ∧ num y m d = z) ∧ Below w.heap.size w w' := by
  go_enter Tryd.func24, Tryd.ntmps24
  go_wp2_with fail
  go_loop [0, 4] (fun n c => ∃ y : Int, 0 ≤ y ∧ y ≤ 1970 ∧ c = .int .i64 y ∧ n = .int .i64 (z - ny y) ∧ (y = 1970 ∨ z - ny (y + 1) < 0)) (fun _ c => (intOf c).toNat)
  case atStart => exact ⟨1970, by omega, by omega, rfl, by congr 1; rw [ny_1970]; omega, .inl rfl⟩
  case round =>
    obtain ⟨y, hy0, hy1, rfl, rfl, hy2⟩ := hrel
    have bn := ny_bd (y := y) (by omega) (by omega)
    have n1 := ny_1
    have hpos : 1 ≤ y := by
      rcases hy2 with rfl | hy2
      · omega
      · rcases Int.lt_or_le y 1 with k | k
        · have : y = 0 := by omega
          subst this
          simp only [Int.zero_add] at hy2; omega
        · exact k
    by_cases hlt : z - ny y < 0
    · have HS := Lib.hid (ny_succ (y - 1))
      have bd := days_bd (y - 1)
      have hp : 0 < y := by omega
      have H0 := Lib.hid hlt
      clear hy2 n1
      go_wp2_with fail
      refine (rdays_any (y - 1) _).mono ?_
      rintro e w2 ⟨rfl, rfl⟩
      go_wp2_with fail
      go_round
      case rel => exact ⟨y - 1, by omega, by omega, rfl, by congr 1; have := HS.out; rw [show y - 1 + 1 = y by omega] at this; omega, .inr (by rw [show y - 1 + 1 = y by omega]; exact H0.out)⟩
      case measure => simp [intOf]; omega
    · have hge : 0 ≤ z - ny y := by omega
      clear hlt hy2 n1
      go_wp2_with fail
      go_loop [0, 4] (fun n c => ∃ x : Int, 1 ≤ x ∧ x ≤ 9999 ∧ c = .int .i64 x ∧ n = .int .i64 (z - ny x) ∧ 0 ≤ z - ny x) (fun _ c => (10000 - intOf c).toNat)
      case atStart => exact ⟨y, hpos, by omega, rfl, rfl, hge⟩
      case round =>
        obtain ⟨x, hx0, hx1, rfl, rfl, hx2⟩ := hrel
        have bx := ny_bd (y := x) (by omega) (by omega)
        have bd := days_bd x
        have hx10 : x < 10000 := by omega
        by_cases hlt : days x ≤ z - ny x
        · have HS := Lib.hid (ny_succ x)
          have H9 := Lib.hid (show x + 1 ≤ 9999 by
            have := ny_succ x; have k := ny_10000
            rcases Int.lt_or_le 9999 (x + 1) with j | j
            · have e : x + 1 = 10000 := by omega
              rw [e] at this; omega
            · exact j)
          go_wp2_with fail
          refine (rdays_any x _).mono ?_
          rintro e w2 ⟨rfl, rfl⟩
          go_wp2_with fail
          refine (rdays_any x _).mono ?_
          rintro e w2 ⟨rfl, rfl⟩
          go_wp2_with fail
          go_round
          case rel => exact ⟨x + 1, by omega, H9.out, rfl, by congr 1; rw [HS.out]; omega, by rw [HS.out]; omega⟩
          case measure => simp [intOf]; omega
        · have H12 := Lib.hid (cum_12 x)
          have hlt' : z - ny x < days x := by omega
          have hd : decide (days x ≤ z - ny x) = false := by simpa using hlt
          clear hlt
          go_wp2_with fail
          refine (rdays_any x _).mono ?_
          rintro e w2 ⟨rfl, rfl⟩
          go_wp2_with fail
          go_loop [0, 5] (fun n c => ∃ k : Nat, k < 12 ∧ c = .int .i64 ((k : Int) + 1) ∧ n = .int .i64 (z - ny x - cum x k) ∧ 0 ≤ z - ny x - cum x k) (fun _ c => (13 - intOf c).toNat)
          case atStart => exact ⟨0, by omega, by simp, by congr 1; simp [cum], by simp [cum]; omega⟩
          case round =>
            obtain ⟨k, hk, rfl, rfl, hk2⟩ := hrel
            have bk := cum_bd x (k := k) (by omega)
            have bl := long_bd x ((k : Int) + 1)
            have HC := Lib.hid (cum_succ x k)
            by_cases hlt : long x ((k : Int) + 1) ≤ z - ny x - cum x k
            · have H11 := Lib.hid (show k + 1 < 12 by
                rcases Nat.lt_or_ge (k + 1) 12 with j | j
                · exact j
                · have e : k = 11 := by omega
                  subst e
                  have := H12.out; have e2 : cum x 12 = cum x 11 + long x ((11 : Nat) + 1) := rfl; omega)
              go_wp2_with fail
              refine (rlong_any x ((k : Int) + 1) _).mono ?_
              rintro e w2 ⟨rfl, rfl⟩
              go_wp2_with fail
              refine (rlong_any x ((k : Int) + 1) _).mono ?_
              rintro e w2 ⟨rfl, rfl⟩
              go_wp2_with fail
              go_round
              case rel => exact ⟨k + 1, H11.out, by congr 1, by congr 1; rw [HC.out]; omega, by rw [HC.out]; omega⟩
              case measure => simp [intOf]; omega
            · have r := num_at (y := x) (z := z) hx0 (by omega) hk hk2 (by omega)
              have R := Lib.hid r; clear r
              have hlt' : z - ny x - cum x k < long x ((k : Int) + 1) := by omega
              clear hlt
              go_wp2_with fail
              refine (rlong_any x ((k : Int) + 1) _).mono ?_
              rintro e w2 ⟨rfl, rfl⟩
              go_wp2_with fail
              exact bodyPost_ret (v := .tuple #[.agg #[.int .i64 x, .int .i64 (k + 1), .int .i64 (z - ny x - cum x k + 1)], .int .i64 0]) (by simp [results, Tryd.results24, go_sem]) rfl ⟨x, (k : Int) + 1, z - ny x - cum x k + 1, rfl, ⟨R.out.1, R.out.2⟩, (Below.refl _ _).alloc (Nat.le_refl _) _⟩
end Go.Proofs.YtakjgimnmobngaaDoor.Ci
