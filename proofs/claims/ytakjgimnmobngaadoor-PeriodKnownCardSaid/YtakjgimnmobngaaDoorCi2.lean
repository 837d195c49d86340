import Derived.Test.YtakjgimnmobngaaDoorChecked
import Derived.Test.YtakjgimnmobngaaDoorMem
import Derived.Test.YtakjgimnmobngaaDoorCi0
import Derived.Lib.LaidTab
import Derived.BigQuiet
import Derived.Deep.QuietTactic
import Derived.Lib.ItoaNum
namespace Go.Proofs.YtakjgimnmobngaaDoor.Ci
open Go.RowKit Mem

theorem cells3 : Tryd.prog.cellsOf 3 = 1 := by kernel_rfl
theorem cells23 : Tryd.prog.cellsOf 30 = 3 := by kernel_rfl
theorem cells49 : Tryd.prog.cellsOf 48 = 12 := by kernel_rfl

def lens : List Int := [31, 28, 31, 30, 31, 30, 31, 31, 30, 31, 30, 31]
/-- The table of months' lengths lies where start-up code lays it. -/
def Lens (w : World) : Prop := ∀ i, i < 12 → w.cell? ⟨0, i, none⟩ = some (.int .i64 (lens.getD i 0))
theorem Lens.below {w w' : World} {B : Nat} (h : Lens w) (hb : Below B w w') (hB : 0 < B) : Lens w' := fun i hi => (hb.cell (p := ⟨0, i, none⟩) hB).trans (h i hi)

theorem lens_at (y : Int) (m : Nat) (h : m < 12) : long y ((m : Int) + 1) = if m = 1 then (if leapB y = true then 29 else 28) else lens.getD m 0 := by
  have : m = 0 ∨ m = 1 ∨ m = 2 ∨ m = 3 ∨ m = 4 ∨ m = 5 ∨ m = 6 ∨ m = 7 ∨ m = 8 ∨ m = 9 ∨ m = 10 ∨ m = 11 := by omega
  rcases this with rfl | rfl | rfl | rfl | rfl | rfl | rfl | rfl | rfl | rfl | rfl | rfl <;> simp [long, lens]
theorem ret_int {k : IntKind} {a b : Int} (h : a = b) : Ending.returned (.int k a) = .returned (.int k b) := by rw [h]
theorem ret_bool {a b : Bool} (h : a = b) : Ending.returned (.bool a) = .returned (.bool b) := by rw [h]

theorem tmod_zero (y : Int) (n : Nat) : y.tmod n = 0 ↔ y % n = 0 := by
  rw [← Int.dvd_iff_tmod_eq_zero, Int.dvd_iff_emod_eq_zero]
theorem leap_t (y : Int) : leapB y = (y.tmod 4 == 0 && (y.tmod 100 != 0 || y.tmod 400 == 0)) := by
  have a := tmod_zero y 4; have b := tmod_zero y 100; have c := tmod_zero y 400
  simp only [Int.cast_ofNat_Int] at a b c
  have e : ∀ {p q : Int}, (p = 0 ↔ q = 0) → (q == 0) = (p == 0) := by
    intro p q h; rw [Bool.eq_iff_iff]; simp [h]
  simp only [leapB, bne, e a, e b, e c]

set_option maxHeartbeats 400000 in
theorem leap_any (y : Int) (w : World) : Calls Tryd.prog 41 #[.int .i64 y] w fun e w' => e = .returned (.bool (leapB y)) ∧ w = w' := by
  have L := Lib.hid (leap_t y)
  go_enter Tryd.func41, Tryd.ntmps41
  go_wp2
  all_goals
    go_ret
    refine ⟨ret_bool ?_, rfl⟩
    rw [L.out]; simp_all

set_option maxHeartbeats 1000000 in
theorem length_any (q : Int) (w : World) (hw : Lens w) : Calls Tryd.prog 33 #[.int .i64 q] w fun e w' => e = .returned (.int .i64 (lenM q)) ∧ w = w' := by
  by_cases h : 12 ≤ q ∧ q ≤ 119999
  · obtain ⟨h1, h2⟩ := h
    have L := Lib.hid (lenM_in h1 h2)
    have hr : (q % 12).toNat < 12 := by omega
    have A := Lib.hid (lens_at (q / 12) (q % 12).toNat hr)
    have E := Lib.hid (show (((q % 12).toNat : Nat) : Int) = q % 12 by omega)
    have hc := hw (q % 12).toNat hr
    have B0 := Lib.hid (show ∀ i, i < 12 → 0 ≤ lens.getD i 0 ∧ lens.getD i 0 ≤ 31 by decide)
    obtain ⟨b1, b2⟩ := B0.out _ hr
    generalize hv : lens.getD (q % 12).toNat 0 = v at hc A b1 b2
    have V := Lib.hid hv; clear hv hw
    by_cases hp : q % 12 = 1
    · have hp' : (q % 12 == 1) = true := by rw [hp]; rfl
      have P := Lib.hid hp
      have T : (q % 12).toNat = 1 := by omega
      have v28 : v = 28 := by rw [← V.out, T]; rfl
      subst v28
      have T' := Lib.hid T; clear T hp
      cases hl : leapB (q / 12) with
      | true =>
        have HL := Lib.hid hl; clear hl
        have cl := leap_any (q / 12) w
        rw [HL.out] at cl
        have C := Lib.hid cl; clear cl
        go_enter Tryd.func33, Tryd.ntmps33
        go_wp2_with (go_at_call 41; refine C.out.mono ?_; rintro e w' ⟨rfl, rfl⟩)
        go_ret
        exact ⟨ret_int (by rw [L.out, ← E.out, A.out, if_pos T'.out, if_pos HL.out]), rfl⟩
      | false =>
        have HL := Lib.hid hl; clear hl
        have cl := leap_any (q / 12) w
        rw [HL.out] at cl
        have C := Lib.hid cl; clear cl
        go_enter Tryd.func33, Tryd.ntmps33
        go_wp2_with (go_at_call 41; refine C.out.mono ?_; rintro e w' ⟨rfl, rfl⟩)
        go_ret
        exact ⟨ret_int (by rw [L.out, ← E.out, A.out, if_pos T'.out, HL.out]; rfl), rfl⟩
    · have hp' : (q % 12 == 1) = false := by simpa using hp
      have T' := Lib.hid (show ¬ (q % 12).toNat = 1 by omega)
      clear hp
      go_enter Tryd.func33, Tryd.ntmps33
      go_wp2
      go_ret
      exact ⟨ret_int (by rw [L.out, ← E.out, A.out, if_neg T'.out]), rfl⟩
  · have L := Lib.hid (lenM_out (q := q) (by omega))
    rcases (show q < 12 ∨ 119999 < q by omega) with h' | h'
    · clear h hw
      go_enter Tryd.func33, Tryd.ntmps33
      go_wp2
      go_ret
      exact ⟨ret_int L.out.symm, rfl⟩
    · have h2 : ¬ q < 12 := by omega
      clear h hw
      go_enter Tryd.func33, Tryd.ntmps33
      go_wp2
      go_ret
      exact ⟨ret_int L.out.symm, rfl⟩

set_option maxHeartbeats 400000 in
theorem newYear_any (y : Int) (w : World) (h1 : 1 ≤ y) (h2 : y ≤ 10000) : Calls Tryd.prog 32 #[.int .i64 y] w fun e w' => e = .returned (.int .i64 (ny y)) ∧ w = w' := by
  have L := Lib.hid (show ny y = -719162 + 365 * (y - 1) + (y - 1) / 4 - (y - 1) / 100 + (y - 1) / 400 by unfold ny; omega)
  go_enter Tryd.func32, Tryd.ntmps32
  go_wp2
  go_ret
  exact ⟨ret_int (by rw [L.out]; first | done | omega), rfl⟩
theorem date_eq {a b c x y z : Int} (W : World) : (binOp .eql 30 (.agg #[.int .i64 a, .int .i64 b, .int .i64 c]) (.agg #[.int .i64 x, .int .i64 y, .int .i64 z])).run Tryd.prog W = .ok (.bool (a == x && b == y && c == z)) W := by
  go_simp
  by_cases h1 : a = x <;> by_cases h2 : b = y <;> by_cases h3 : c = z <;> simp [h1, h2, h3]
end Go.Proofs.YtakjgimnmobngaaDoor.Ci
