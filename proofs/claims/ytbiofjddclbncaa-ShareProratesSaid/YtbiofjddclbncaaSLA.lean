import Derived.Test.YtbiofjddclbncaaSs10
namespace Go.Proofs.Ytbiofjddclbncaa
set_option linter.unusedVariables false
set_option linter.unusedSimpArgs false
set_option maxRecDepth 8000
open Go.RowKit Mem Mo Sr
theorem RProrate_any (D : Int) (A1 : Option Addr) (c1 : Nat) (a : List Int) (A2 : Option Addr) (c2 : Nat) (d : List Int) (w : World) (hr1 : RdI w w.heap.size A1 c1 a) (hr2 : RdI w w.heap.size A2 c2 d) (hna : Nums a) (hnd : Nums d) :
    Calls Try.prog 13 #[.slice A1 a.length c1, .slice A2 d.length c2, .int .i64 D] w (PrPost a d D w) := by
  by_cases h : a.length ≠ d.length ∨ a.length < 1 ∨ 100 < a.length ∨ D < 1 ∨ 10000 < D
  · exact RProrate_arg D A1 c1 a A2 c2 d w h
  · exact RProrate_go D A1 c1 a A2 c2 d w hr1 hr2 (by omega) (by omega) (by omega) (by omega) (by omega) hna hnd
set_option maxHeartbeats 1000000 in
theorem shareProrates_walk (A1 : Option Addr) (len1 c1 : Nat) (a : List Int) (hl1 : a.length = len1) (A2 : Option Addr) (len2 c2 : Nat) (d : List Int) (hl2 : d.length = len2) (D : Int) (w : World)
    (hr1 : RdI w w.heap.size A1 c1 a ∧ ∀ x ∈ a, -9223372036854775808 ≤ x ∧ x ≤ 9223372036854775807) (hr2 : RdI w w.heap.size A2 c2 d ∧ ∀ x ∈ d, -9223372036854775808 ≤ x ∧ x ≤ 9223372036854775807) (hD : (Lit.int .i64 D).wf = true) :
    Calls Try.prog 4 #[.slice A1 len1 c1, .slice A2 len2 c2, .int .i64 D] w fun e w' => e = .returned (.bool true) ∧ Below w.heap.size w w' := by
  have HR1 := Lib.hid hr1.1
  have HR2 := Lib.hid hr2.1
  have G := Lib.hid (fun W => goes_any W)
  have P1 := Lib.hid (Prorate_any D A1 c1 a A2 c2 d w hr1.1 hr2.1)
  have P2 := Lib.hid (fun W (h : Below w.heap.size w W) => RProrate_any D A1 c1 a A2 c2 d W (Rb hr1.1 h) (Rb hr2.1 h) hr1.2 hr2.2)
  have SA := Lib.hid (fun A1 c1 A2 c2 W h1 h2 => same_any A1 c1 (prl a d D) A2 c2 (prl a d D) W h1 h2)
  rw [decide_eq_true rfl] at SA
  unfold PrPost at P1 P2
  rw [hl1, hl2] at P1 P2
  obtain ⟨m, hm⟩ := named (prl a d D).length
  rw [hm] at P1 P2 SA
  generalize prE a d D = ev at *
  clear hr1 hr2 hl1 hl2 hD hm
  by_cases h1 : 200 < len1
  · have z1 : (200 < (len1 : Int)) = True := eq_true (by omega)
    clear h1
    go_enter Try.func4, Try.ntmps4
    go_wp2_with fail
    go_ret
    exact ⟨rfl, Below.refl _ _⟩
  have z1 : (200 < (len1 : Int)) = False := eq_false (by omega)
  by_cases h2 : 200 < len2
  · have z2 : (200 < (len2 : Int)) = True := eq_true (by omega)
    clear h1 h2
    go_enter Try.func4, Try.ntmps4
    go_wp2_with fail
    go_ret
    exact ⟨rfl, Below.refl _ _⟩
  have z2 : (200 < (len2 : Int)) = False := eq_false (by omega)
  clear h1 h2
  go_enter Try.func4, Try.ntmps4
  go_wp2_with fail
  refine P1.out.mono ?_
  rintro e w1 ⟨Aa, ca, rfl, hr, hb⟩
  have Ra := Lib.hid hr
  have B1 := Lib.hid hb
  clear hr hb
  go_wp2_with fail
  refine (P2.out w1 B1.out).mono ?_
  rintro e w2 ⟨Ab, cb, rfl, hr, hb⟩
  have Ra2 := Lib.hid (Rb Ra.out hb)
  have Rb2 := Lib.hid hr
  have B2 := Lib.hid (Bt B1.out hb)
  clear hr hb
  go_wp2_with fail
  refine (SA.out Aa ca Ab cb w2 Ra2.out Rb2.out).mono ?_
  rintro e w3 ⟨rfl, hb⟩
  have B3 := Lib.hid (Bt B2.out hb)
  clear hb
  go_wp2_with fail
  refine (G.out _).mono ?_
  rintro e w4 ⟨rfl, hb⟩
  have B4 := Lib.hid (Bt B3.out hb)
  clear hb
  go_wp2_with fail
  go_ret
  exact ⟨rfl, B4.out⟩
end Go.Proofs.Ytbiofjddclbncaa
