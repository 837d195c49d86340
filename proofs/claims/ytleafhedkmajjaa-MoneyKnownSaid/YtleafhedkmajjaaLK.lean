import Derived.Test.YtleafhedkmajjaaMo5
namespace Go.Proofs.Ytleafhedkmajjaa
set_option linter.unusedVariables false
set_option linter.unusedSimpArgs false
open Go.RowKit Mem Mo
set_option maxHeartbeats 1000000 in
theorem moneyKnown_walk (w : World) : Calls Try.prog 9 #[] w fun e w' => e = .returned (.bool true) ∧ Below w.heap.size w w' := by
  have C0 := Lib.hid (fun W => Mul_any (4294967296) (2147483648) W (by omega) (by omega) (by omega) (by omega))
  rw [show na ((4294967296 : Int) * (2147483648)) = 0 by decide, show ne ((4294967296 : Int) * (2147483648)) = 30 by decide] at C0
  have C1 := Lib.hid (fun W => Mul_any (-4294967296) (2147483648) W (by omega) (by omega) (by omega) (by omega))
  rw [show na ((-4294967296 : Int) * (2147483648)) = -9223372036854775808 by decide, show ne ((-4294967296 : Int) * (2147483648)) = 0 by decide] at C1
  have C2 := Lib.hid (fun W => Mul_any (-9223372036854775808) (-1) W (by omega) (by omega) (by omega) (by omega))
  rw [show na ((-9223372036854775808 : Int) * (-1)) = 0 by decide, show ne ((-9223372036854775808 : Int) * (-1)) = 30 by decide] at C2
  have C3 := Lib.hid (fun W => Part_yes (4611686018427387904) (4611686018427387904) (4611686018427387904) W (by omega) (by omega) (by omega) (by omega) (by omega) (by omega))
  rw [show na ((4611686018427387904 : Int) * (4611686018427387904) / (4611686018427387904)) = 4611686018427387904 by decide, show pr ((4611686018427387904 : Int) * (4611686018427387904) / (4611686018427387904)) ((4611686018427387904 : Int) * (4611686018427387904) % (4611686018427387904)) = 0 by decide, show ne ((4611686018427387904 : Int) * (4611686018427387904) / (4611686018427387904)) = 0 by decide] at C3
  have C4 := Lib.hid (fun W => Part_yes (4611686018427387904) (4) (1) W (by omega) (by omega) (by omega) (by omega) (by omega) (by omega))
  rw [show na ((4611686018427387904 : Int) * (4) / (1)) = 0 by decide, show pr ((4611686018427387904 : Int) * (4) / (1)) ((4611686018427387904 : Int) * (4) % (1)) = 0 by decide, show ne ((4611686018427387904 : Int) * (4) / (1)) = 30 by decide] at C4
  have C5 := Lib.hid (fun W => Part_no (-1) (1) (1) W (by unfold BadP; omega))
  have C6 := Lib.hid (fun W => Part_no (1) (1) (0) W (by unfold BadP; omega))
  have C7 := Lib.hid (fun W => Sum_any none 0 [] W W.heap.size (RdI.nil W _) (Nat.le_refl _) (by intro x hx; simp at hx) (by simp))
  rw [show na ([] : List Int).sum = 0 by decide, show ne ([] : List Int).sum = 0 by decide] at C7
  have C8 := Lib.hid (fun W => Add_any (-9223372036854775808) (-1) W (by omega) (by omega) (by omega) (by omega))
  rw [show na ((-9223372036854775808 : Int) + (-1)) = 0 by decide, show ne ((-9223372036854775808 : Int) + (-1)) = 30 by decide] at C8
  have G := Lib.hid (fun W => goes_any W)
  have B0 := Lib.hid (Below.refl w.heap.size w)
  go_enter Try.func9, Try.ntmps9
  go_wp2_with fail
  refine (C0.out _).mono ?_
  rintro e w1 ⟨rfl, hb⟩
  have B1 := Lib.hid (B0.out.trans (hb.mono B0.out.size)); clear hb
  go_wp2_with fail
  refine (C1.out _).mono ?_
  rintro e w2 ⟨rfl, hb⟩
  have B2 := Lib.hid (B1.out.trans (hb.mono B1.out.size)); clear hb
  go_wp2_with fail
  refine (C2.out _).mono ?_
  rintro e w3 ⟨rfl, hb⟩
  have B3 := Lib.hid (B2.out.trans (hb.mono B2.out.size)); clear hb
  go_wp2_with fail
  refine (C3.out _).mono ?_
  rintro e w4 ⟨rfl, hb⟩
  have B4 := Lib.hid (B3.out.trans (hb.mono B3.out.size)); clear hb
  go_wp2_with fail
  refine (C4.out _).mono ?_
  rintro e w5 ⟨rfl, hb⟩
  have B5 := Lib.hid (B4.out.trans (hb.mono B4.out.size)); clear hb
  go_wp2_with fail
  refine (C5.out _).mono ?_
  rintro e w6 ⟨rfl, hb⟩
  have B6 := Lib.hid (B5.out.trans (hb.mono B5.out.size)); clear hb
  go_wp2_with fail
  refine (C6.out _).mono ?_
  rintro e w7 ⟨rfl, hb⟩
  have B7 := Lib.hid (B6.out.trans (hb.mono B6.out.size)); clear hb
  go_wp2_with fail
  refine (C7.out _).mono ?_
  rintro e w8 ⟨rfl, hb⟩
  have B8 := Lib.hid (B7.out.trans (hb.mono B7.out.size)); clear hb
  go_wp2_with fail
  refine (C8.out _).mono ?_
  rintro e w9 ⟨rfl, hb⟩
  have B9 := Lib.hid (B8.out.trans (hb.mono B8.out.size)); clear hb
  go_wp2_with fail
  refine (G.out _).mono ?_
  rintro e w10 ⟨rfl, hb⟩
  have B10 := Lib.hid (B9.out.trans (hb.mono B9.out.size)); clear hb
  go_wp2_with fail
  go_ret
  exact ⟨rfl, B10.out⟩
end Go.Proofs.Ytleafhedkmajjaa
