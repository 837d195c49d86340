import Derived.Test.YtlfkafcmdndlgaaDoorCi11
namespace Go.Proofs.YtlfkafcmdndlgaaDoor.Ci
open Go.RowKit Mem

set_option maxHeartbeats 2000000 in
theorem rof_low (z : Int) (w : World) (h1 : -800000 ≤ z) (h2 : z < -719162) :
    Calls Tryd.prog 20 #[.int .i64 z] w fun e w' => e = .returned (.tuple #[.agg #[.int .i64 0, .int .i64 0, .int .i64 0], .int .i64 1]) ∧ Below w.heap.size w w' := by
  go_enter Tryd.func20, Tryd.ntmps20
  go_wp2_with fail
  go_loop [0, 4] (fun n c => ∃ y : Int, 0 ≤ y ∧ y ≤ 1970 ∧ c = .int .i64 y ∧ n = .int .i64 (z - ny y)) (fun _ c => (intOf c).toNat)
  case atStart => exact ⟨1970, by omega, by omega, rfl, by congr 1; rw [ny_1970]; omega⟩
  case round =>
    obtain ⟨y, hy0, hy1, rfl, rfl⟩ := hrel
    have bn := ny_bd (y := y) (by omega) (by omega)
    by_cases hp : 0 < y
    · have hlt : z - ny y < 0 := by have := ny_le (a := 1) (b := y) (by omega); have := ny_1; omega
      have HS := Lib.hid (ny_succ (y - 1))
      have bd := days_bd (y - 1)
      go_wp2_with fail
      refine (rdays_any (y - 1) _).mono ?_
      rintro e w2 ⟨rfl, rfl⟩
      go_wp2_with fail
      go_round
      case rel => exact ⟨y - 1, by omega, by omega, rfl, by congr 1; have := HS.out; rw [show y - 1 + 1 = y by omega] at this; omega⟩
      case measure => simp only [intOf]; omega
    · obtain rfl : y = 0 := by omega
      clear hp
      obtain ⟨n, hn⟩ : ∃ n, z - ny 0 = n := ⟨_, rfl⟩
      rw [hn]
      clear bn hn
      by_cases hlt : n < 0 <;>
      ( go_wp2_with fail
        exact bodyPost_ret (v := .tuple #[.agg #[.int .i64 0, .int .i64 0, .int .i64 0], .int .i64 1]) (by simp [results, Tryd.results20, go_sem]) rfl ⟨rfl, (Below.refl _ _).alloc (Nat.le_refl _) _⟩)
set_option maxHeartbeats 2000000 in
theorem rof_high (z : Int) (w : World) (h1 : 2932896 < z) (h2 : z ≤ 3000000) :
    Calls Tryd.prog 20 #[.int .i64 z] w fun e w' => e = .returned (.tuple #[.agg #[.int .i64 0, .int .i64 0, .int .i64 0], .int .i64 1]) ∧ Below w.heap.size w w' := by
  go_enter Tryd.func20, Tryd.ntmps20
  go_wp2_with fail
  go_loop [0, 4] (fun n c => c = .int .i64 1970 ∧ n = .int .i64 z) (fun _ c => 0)
  case atStart => exact ⟨rfl, rfl⟩
  case round =>
    obtain ⟨rfl, rfl⟩ := hrel
    go_wp2_with fail
    go_loop [0, 4] (fun n c => ∃ x : Int, 1970 ≤ x ∧ x ≤ 10000 ∧ c = .int .i64 x ∧ n = .int .i64 (z - ny x)) (fun _ c => (10000 - intOf c).toNat)
    case atStart => exact ⟨1970, by omega, by omega, rfl, by congr 1; rw [ny_1970]; omega⟩
    case round =>
      obtain ⟨x, hx0, hx1, rfl, rfl⟩ := hrel
      have bx := ny_bd (y := x) (by omega) (by omega)
      by_cases hp : x < 10000
      · have HS := Lib.hid (ny_succ x)
        have bd := days_bd x
        have hge : days x ≤ z - ny x := by
          have a := ny_succ x; have b := ny_le (a := x + 1) (b := 10000) (by omega); have c := ny_10000; omega
        go_wp2_with fail
        refine (rdays_any x _).mono ?_
        rintro e w2 ⟨rfl, rfl⟩
        go_wp2_with fail
        refine (rdays_any x _).mono ?_
        rintro e w2 ⟨rfl, rfl⟩
        go_wp2_with fail
        go_round
        case rel => exact ⟨x + 1, by omega, by omega, rfl, by congr 1; rw [HS.out]; omega⟩
        case measure => simp only [intOf]; omega
      · obtain rfl : x = 10000 := by omega
        clear hp
        obtain ⟨n, hn⟩ : ∃ n, z - ny 10000 = n := ⟨_, rfl⟩
        rw [hn]
        clear bx hn
        go_wp2_with fail
        exact bodyPost_ret (v := .tuple #[.agg #[.int .i64 0, .int .i64 0, .int .i64 0], .int .i64 1]) (by simp [results, Tryd.results20, go_sem]) rfl ⟨rfl, (Below.refl _ _).alloc (Nat.le_refl _) _⟩
theorem rof_yes {y m d : Int} (w : World) (h : vldB y m d = true) :
    Calls Tryd.prog 20 #[.int .i64 (num y m d)] w fun e w' => e = .returned (.tuple #[.agg #[.int .i64 y, .int .i64 m, .int .i64 d], .int .i64 0]) ∧ Below w.heap.size w w' := by
  have b := num_bd h
  refine (rof_in _ w b.1 b.2).mono ?_
  rintro e w' ⟨y', m', d', rfl, ⟨hv, hn⟩, hb⟩
  obtain ⟨rfl, rfl, rfl⟩ := num_inj hv h hn
  exact ⟨rfl, hb⟩
end Go.Proofs.YtlfkafcmdndlgaaDoor.Ci
