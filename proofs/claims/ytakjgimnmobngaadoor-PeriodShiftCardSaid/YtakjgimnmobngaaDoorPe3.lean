import Derived.Test.YtakjgimnmobngaaDoorPe2
import Derived.Test.YtakjgimnmobngaaDoorCi11
namespace Go.Proofs.YtakjgimnmobngaaDoor.Ci
open Go.RowKit Mem Go.Sort

/-! The document's own answers. -/
theorem sh_ex (s : Int) : shB s = true ↔ ∃ k : Int, -56 ≤ k ∧ k ≤ 56 ∧ s = 900 * k := by
  constructor
  · intro h; obtain ⟨a, b, c⟩ := sh_of h; exact ⟨s / 900, by omega, by omega, by omega⟩
  · rintro ⟨k, a, b, rfl⟩; exact sh_mk ⟨by omega, by omega, by omega⟩
set_option maxHeartbeats 1000000 in
theorem rcheck_any (s : Int) (w : World) : Calls Tryd.prog 14 #[.int .i64 s] w fun e w' => e = .returned (.bool (shB s)) ∧ w = w' := by
  have H := Lib.hid (sh_ex s)
  go_enter Tryd.func14, Tryd.ntmps14
  go_wp2_with fail
  go_loop [3] (fun c => ∃ k : Int, -56 ≤ k ∧ k ≤ 57 ∧ c = .int .i64 k ∧ (shB s = true → 900 * k ≤ s)) (fun c => (57 - intOf c).toNat)
  case atStart => exact ⟨-56, by omega, by omega, rfl, fun h => by obtain ⟨k, a, b, e⟩ := H.out.1 h; omega⟩
  case round =>
    obtain ⟨k, h1, h2, rfl, hk⟩ := hrel
    have HK := Lib.hid hk; clear hk
    by_cases hlt : k ≤ 56
    · by_cases he : s = 900 * k
      · have T := Lib.hid (show shB s = true from H.out.2 ⟨k, h1, hlt, he⟩)
        have he' : (s == 900 * k) = true := by simpa using he
        clear he
        go_wp2_with fail
        go_ret
        exact ⟨ret_bool T.out.symm, rfl⟩
      · have he' : (s == 900 * k) = false := by simpa using he
        have N := Lib.hid (show shB s = true → 900 * (k + 1) ≤ s from fun h => by
          have := HK.out h; obtain ⟨j, a, b, e⟩ := H.out.1 h; omega)
        clear he
        go_wp2_with fail
        go_round
        case rel => exact ⟨k + 1, by omega, by omega, by congr 1, N.out⟩
        case measure => simp [intOf]; omega
    · obtain rfl : k = 57 := by omega
      have F := Lib.hid (show shB s = false by
        cases e : shB s with
        | true => have := HK.out e; obtain ⟨j, a, b, e'⟩ := H.out.1 e; omega
        | false => rfl)
      go_wp2_with fail
      go_ret
      exact ⟨ret_bool F.out.symm, rfl⟩
theorem rday_yes9 {t s : Int} (w : World) (h : TimeOk t s) :
    Calls Tryd.prog 10 #[.int .i64 t, .int .i64 s] w fun e w' => e = .returned (.tuple #[.int .i64 (dayN t s), .int .i64 0]) ∧ w = w' := by
  have h1 := h.lo; have h2 := h.hi
  obtain ⟨g1, g2, _⟩ := sh_of h.sh
  have C := Lib.hid (rcheck_any s w)
  rw [h.sh] at C
  have E := Lib.hid (show (t + s + 86400) / 86400 - 1 = dayN t s by unfold dayN; omega)
  have hp : 0 ≤ t + s + 86400 := by omega
  clear h
  go_enter Tryd.func10, Tryd.ntmps10
  go_wp2_with fail
  refine C.out.mono ?_
  rintro e w1 ⟨rfl, rfl⟩
  go_wp2_with fail
  go_ret2
  exact ⟨by rw [← E.out]; rfl, rfl⟩
theorem rday_no9 {t s : Int} (w : World) (h : ¬ TimeOk t s) :
    Calls Tryd.prog 10 #[.int .i64 t, .int .i64 s] w fun e w' => e = .returned (.tuple #[.int .i64 0, .int .i64 1]) ∧ w = w' := by
  have hn := time_no h; clear h
  rcases hn with h | ⟨h1, h⟩ | ⟨h1, h2, h⟩
  · go_enter Tryd.func10, Tryd.ntmps10
    go_wp2_with fail
    go_ret2
    exact ⟨rfl, rfl⟩
  · go_enter Tryd.func10, Tryd.ntmps10
    go_wp2_with fail
    go_ret2
    exact ⟨rfl, rfl⟩
  · have C := Lib.hid (rcheck_any s w)
    rw [h] at C; clear h
    go_enter Tryd.func10, Tryd.ntmps10
    go_wp2_with fail
    refine C.out.mono ?_
    rintro e w1 ⟨rfl, rfl⟩
    go_wp2_with fail
    go_ret2
    exact ⟨rfl, rfl⟩
set_option maxHeartbeats 1000000 in
theorem rmonth_yes {t s q : Int} (w : World) (h : TimeOk t s) (hq : IsM q (dayN t s)) :
    Calls Tryd.prog 12 #[.int .i64 t, .int .i64 s] w fun e w' => e = .returned (.tuple #[.int .i64 q, .int .i64 0]) ∧ Below w.heap.size w w' := by
  have C := Lib.hid (rday_yes9 w h)
  have D := Lib.hid (rof_in (dayN t s) w (dayN_in h).1 (dayN_in h).2)
  clear h
  go_enter Tryd.func12, Tryd.ntmps12
  go_wp2_with fail
  refine C.out.mono ?_
  rintro e w1 ⟨rfl, rfl⟩
  go_wp2_with fail
  refine D.out.mono ?_
  rintro e w1 ⟨y, m, d, rfl, ⟨hv, hn⟩, hb⟩
  have B := Lib.hid (hb.alloc hb.size (.cells #[.int .i64 y, .int .i64 m, .int .i64 d] 30))
  clear hb
  have E := Lib.hid (isM_of' hq hv hn)
  obtain ⟨v1, v2, v3, v4, _, _⟩ := vld_of hv
  clear hv hn hq
  go_wp2_with fail
  go_ret2
  exact ⟨by rw [← E.out]; rfl, B.out⟩
theorem rmonth_no {t s : Int} (w : World) (h : ¬ TimeOk t s) :
    Calls Tryd.prog 12 #[.int .i64 t, .int .i64 s] w fun e w' => e = .returned (.tuple #[.int .i64 0, .int .i64 1]) ∧ w = w' := by
  have C := Lib.hid (rday_no9 w h)
  clear h
  go_enter Tryd.func12, Tryd.ntmps12
  go_wp2_with fail
  refine C.out.mono ?_
  rintro e w1 ⟨rfl, rfl⟩
  go_wp2_with fail
  go_ret2
  exact ⟨rfl, rfl⟩
set_option maxHeartbeats 1000000 in
theorem rstart_yes {q s : Int} (w : World) (h1 : 12 ≤ q) (h2 : q ≤ 119999) (h : shB s = true) :
    Calls Tryd.prog 17 #[.int .i64 q, .int .i64 s] w fun e w' => e = .returned (.tuple #[.int .i64 (86400 * fst q - s), .int .i64 0]) ∧ Below w.heap.size w w' := by
  have fb := fst_bd h1 h2
  have C := Lib.hid (rfirst_in q w h1 h2)
  have D := Lib.hid (fun W => rcheck_any s W)
  obtain ⟨g1, g2, _⟩ := sh_of h
  rw [h] at D
  clear h1 h2 h
  go_enter Tryd.func17, Tryd.ntmps17
  go_wp2_with fail
  refine C.out.mono ?_
  rintro e w1 ⟨rfl, hb⟩
  have B := Lib.hid hb; clear hb
  go_wp2_with fail
  refine (D.out _).mono ?_
  rintro e w1 ⟨rfl, rfl⟩
  go_wp2_with fail
  go_ret2
  exact ⟨rfl, B.out⟩
set_option maxHeartbeats 1000000 in
theorem rstart_no {q s : Int} (w : World) (h : ¬ (12 ≤ q ∧ q ≤ 119999 ∧ shB s = true)) :
    Calls Tryd.prog 17 #[.int .i64 q, .int .i64 s] w fun e w' => e = .returned (.tuple #[.int .i64 0, .int .i64 1]) ∧ Below w.heap.size w w' := by
  by_cases hq : 12 ≤ q ∧ q ≤ 119999
  · have hs : shB s = false := by
      cases e : shB s with
      | true => exact absurd ⟨hq.1, hq.2, e⟩ h
      | false => rfl
    have C := Lib.hid (rfirst_in q w hq.1 hq.2)
    have D := Lib.hid (fun W => rcheck_any s W)
    rw [hs] at D
    clear hq h hs
    go_enter Tryd.func17, Tryd.ntmps17
    go_wp2_with fail
    refine C.out.mono ?_
    rintro e w1 ⟨rfl, hb⟩
    have B := Lib.hid hb; clear hb
    go_wp2_with fail
    refine (D.out _).mono ?_
    rintro e w1 ⟨rfl, rfl⟩
    go_wp2_with fail
    go_ret2
    exact ⟨rfl, B.out⟩
  · have C := Lib.hid (rfirst_out (q := q) w (by omega))
    clear hq h
    go_enter Tryd.func17, Tryd.ntmps17
    go_wp2_with fail
    refine C.out.mono ?_
    rintro e w1 ⟨rfl, rfl⟩
    go_wp2_with fail
    go_ret2
    exact ⟨rfl, Below.refl _ _⟩
end Go.Proofs.YtakjgimnmobngaaDoor.Ci
