import Derived.Test.YtleafhedkmajjaaLB
namespace Go.Proofs.Ytleafhedkmajjaa
set_option linter.unusedVariables false
set_option linter.unusedSimpArgs false
open Go.RowKit Mem Mo
set_option maxHeartbeats 2000000 in
theorem moneySigns_walk (a b : Int) (w : World) (_ha : (Lit.int .i64 a).wf = true) (_hb : (Lit.int .i64 b).wf = true) : Calls Try.prog 7 #[.int .i64 a, .int .i64 b] w fun e w' => e = .returned (.bool true) ∧ Below w.heap.size w w' := by
  have ha := i64_bd _ha
  have hb := i64_bd _hb
  clear _ha _hb
  have G := Lib.hid (fun W => goes_any W)
  have B0 := Lib.hid (Below.refl w.heap.size w)
  have C1 := Lib.hid (fun W => Mul_any a b W (by omega) (by omega) (by omega) (by omega))
  have C2 := Lib.hid (fun W => Mul_any b a W (by omega) (by omega) (by omega) (by omega))
  have C3 := Lib.hid (fun W => Mul_any a 1 W (by omega) (by omega) (by omega) (by omega))
  have C4 := Lib.hid (fun W => Mul_any a 0 W (by omega) (by omega) (by omega) (by omega))
  rw [Int.mul_comm b a] at C2
  have i1 : isn a = true := (isn_iff a).2 ha
  rw [Int.mul_one, na_t i1, ne_t i1] at C3
  rw [Int.mul_zero, show na 0 = 0 by decide, show ne 0 = 0 by decide] at C4
  by_cases hbm : b = -9223372036854775808
  · generalize na (a * b) = x at *
    generalize ne (a * b) = e0 at *
    have kb : (b == -9223372036854775808) = true := by simp [hbm]
    clear ha hb i1
    subst hbm
    clear kb
    go_enter Try.func7, Try.ntmps7
    go_wp2_with fail
    refine (C1.out _).mono ?_
    rintro e w1 ⟨rfl, hb⟩
    have B1 := Lib.hid (B0.out.trans (hb.mono B0.out.size)); clear hb
    go_wp2_with fail
    refine (C2.out _).mono ?_
    rintro e w2 ⟨rfl, hb⟩
    have B2 := Lib.hid (B1.out.trans (hb.mono B1.out.size)); clear hb
    go_wp2_with fail
    refine (C3.out _).mono ?_
    rintro e w3 ⟨rfl, hb⟩
    have B3 := Lib.hid (B2.out.trans (hb.mono B2.out.size)); clear hb
    go_wp2_with fail
    refine (C4.out _).mono ?_
    rintro e w4 ⟨rfl, hb⟩
    have B4 := Lib.hid (B3.out.trans (hb.mono B3.out.size)); clear hb
    go_wp2_with fail
    refine (G.out _).mono ?_
    rintro e w5 ⟨rfl, hb⟩
    have B5 := Lib.hid (B4.out.trans (hb.mono B4.out.size)); clear hb
    go_wp2_with fail
    go_ret
    exact ⟨rfl, B5.out⟩
  · have C5 := Lib.hid (fun W => Mul_any a (-b) W (by omega) (by omega) (by omega) (by omega))
    rw [Int.mul_neg] at C5
    have kb : (b == -9223372036854775808) = false := by simpa using hbm
    have kn : IntKind.i64.wrap (-b) = -b := by rw [IntKind.wrap_i64]; omega
    generalize a * b = P at *
    cases hp : isn P with
    | true =>
      have g1 := (isn_iff P).1 hp
      rw [na_t hp, ne_t hp] at C1 C2
      cases hz : isn (-P) with
      | true =>
        have g2 := (isn_iff (-P)).1 hz
        rw [na_t hz, ne_t hz] at C5
        have kz : IntKind.i64.wrap (- -P) = P := by rw [IntKind.wrap_i64]; omega
        have kz2 : IntKind.i64.wrap P = P := by rw [IntKind.wrap_i64]; omega
        clear ha hb i1 hp hz g1 g2 hbm
        go_enter Try.func7, Try.ntmps7
        go_wp2_with fail
        refine (C1.out _).mono ?_
        rintro e w1 ⟨rfl, hb⟩
        have B1 := Lib.hid (B0.out.trans (hb.mono B0.out.size)); clear hb
        go_wp2_with fail
        refine (C2.out _).mono ?_
        rintro e w2 ⟨rfl, hb⟩
        have B2 := Lib.hid (B1.out.trans (hb.mono B1.out.size)); clear hb
        go_wp2_with fail
        refine (C3.out _).mono ?_
        rintro e w3 ⟨rfl, hb⟩
        have B3 := Lib.hid (B2.out.trans (hb.mono B2.out.size)); clear hb
        go_wp2_with fail
        refine (C4.out _).mono ?_
        rintro e w4 ⟨rfl, hb⟩
        have B4 := Lib.hid (B3.out.trans (hb.mono B3.out.size)); clear hb
        go_wp2_with fail
        refine (C5.out _).mono ?_
        rintro e w5 ⟨rfl, hb⟩
        have B5 := Lib.hid (B4.out.trans (hb.mono B4.out.size)); clear hb
        go_wp2_with fail
        refine (G.out _).mono ?_
        rintro e w6 ⟨rfl, hb⟩
        have B6 := Lib.hid (B5.out.trans (hb.mono B5.out.size)); clear hb
        go_wp2_with fail
        go_ret
        exact ⟨rfl, B6.out⟩
      | false =>
        have g2 := isn_not hz
        obtain rfl : P = -9223372036854775808 := by omega
        rw [na_f hz, ne_f hz] at C5
        clear ha hb i1 hp hz g1 g2 hbm
        go_enter Try.func7, Try.ntmps7
        go_wp2_with fail
        refine (C1.out _).mono ?_
        rintro e w1 ⟨rfl, hb⟩
        have B1 := Lib.hid (B0.out.trans (hb.mono B0.out.size)); clear hb
        go_wp2_with fail
        refine (C2.out _).mono ?_
        rintro e w2 ⟨rfl, hb⟩
        have B2 := Lib.hid (B1.out.trans (hb.mono B1.out.size)); clear hb
        go_wp2_with fail
        refine (C3.out _).mono ?_
        rintro e w3 ⟨rfl, hb⟩
        have B3 := Lib.hid (B2.out.trans (hb.mono B2.out.size)); clear hb
        go_wp2_with fail
        refine (C4.out _).mono ?_
        rintro e w4 ⟨rfl, hb⟩
        have B4 := Lib.hid (B3.out.trans (hb.mono B3.out.size)); clear hb
        go_wp2_with fail
        refine (C5.out _).mono ?_
        rintro e w5 ⟨rfl, hb⟩
        have B5 := Lib.hid (B4.out.trans (hb.mono B4.out.size)); clear hb
        go_wp2_with fail
        refine (G.out _).mono ?_
        rintro e w6 ⟨rfl, hb⟩
        have B6 := Lib.hid (B5.out.trans (hb.mono B5.out.size)); clear hb
        go_wp2_with fail
        go_ret
        exact ⟨rfl, B6.out⟩
    | false =>
      have g1 := isn_not hp
      rw [na_f hp, ne_f hp] at C1 C2
      cases hz : isn (-P) with
      | true =>
        have g2 := (isn_iff (-P)).1 hz
        obtain rfl : P = 9223372036854775808 := by omega
        rw [na_t hz, ne_t hz] at C5
        clear ha hb i1 hp hz g1 g2 hbm
        go_enter Try.func7, Try.ntmps7
        go_wp2_with fail
        refine (C1.out _).mono ?_
        rintro e w1 ⟨rfl, hb⟩
        have B1 := Lib.hid (B0.out.trans (hb.mono B0.out.size)); clear hb
        go_wp2_with fail
        refine (C2.out _).mono ?_
        rintro e w2 ⟨rfl, hb⟩
        have B2 := Lib.hid (B1.out.trans (hb.mono B1.out.size)); clear hb
        go_wp2_with fail
        refine (C3.out _).mono ?_
        rintro e w3 ⟨rfl, hb⟩
        have B3 := Lib.hid (B2.out.trans (hb.mono B2.out.size)); clear hb
        go_wp2_with fail
        refine (C4.out _).mono ?_
        rintro e w4 ⟨rfl, hb⟩
        have B4 := Lib.hid (B3.out.trans (hb.mono B3.out.size)); clear hb
        go_wp2_with fail
        refine (C5.out _).mono ?_
        rintro e w5 ⟨rfl, hb⟩
        have B5 := Lib.hid (B4.out.trans (hb.mono B4.out.size)); clear hb
        go_wp2_with fail
        refine (G.out _).mono ?_
        rintro e w6 ⟨rfl, hb⟩
        have B6 := Lib.hid (B5.out.trans (hb.mono B5.out.size)); clear hb
        go_wp2_with fail
        go_ret
        exact ⟨rfl, B6.out⟩
      | false =>
        rw [na_f hz, ne_f hz] at C5
        clear ha hb i1 hp hz g1 hbm
        go_enter Try.func7, Try.ntmps7
        go_wp2_with fail
        refine (C1.out _).mono ?_
        rintro e w1 ⟨rfl, hb⟩
        have B1 := Lib.hid (B0.out.trans (hb.mono B0.out.size)); clear hb
        go_wp2_with fail
        refine (C2.out _).mono ?_
        rintro e w2 ⟨rfl, hb⟩
        have B2 := Lib.hid (B1.out.trans (hb.mono B1.out.size)); clear hb
        go_wp2_with fail
        refine (C3.out _).mono ?_
        rintro e w3 ⟨rfl, hb⟩
        have B3 := Lib.hid (B2.out.trans (hb.mono B2.out.size)); clear hb
        go_wp2_with fail
        refine (C4.out _).mono ?_
        rintro e w4 ⟨rfl, hb⟩
        have B4 := Lib.hid (B3.out.trans (hb.mono B3.out.size)); clear hb
        go_wp2_with fail
        refine (C5.out _).mono ?_
        rintro e w5 ⟨rfl, hb⟩
        have B5 := Lib.hid (B4.out.trans (hb.mono B4.out.size)); clear hb
        go_wp2_with fail
        refine (G.out _).mono ?_
        rintro e w6 ⟨rfl, hb⟩
        have B6 := Lib.hid (B5.out.trans (hb.mono B5.out.size)); clear hb
        go_wp2_with fail
        go_ret
        exact ⟨rfl, B6.out⟩

set_option maxHeartbeats 2000000 in
theorem moneyNeg_walk (a b : Int) (w : World) (_ha : (Lit.int .i64 a).wf = true) (_hb : (Lit.int .i64 b).wf = true) : Calls Try.prog 8 #[.int .i64 a, .int .i64 b] w fun e w' => e = .returned (.bool true) ∧ Below w.heap.size w w' := by
  have ha := i64_bd _ha
  have hb := i64_bd _hb
  clear _ha _hb
  have G := Lib.hid (fun W => goes_any W)
  have B0 := Lib.hid (Below.refl w.heap.size w)
  have C1 := Lib.hid (fun W => Add_any a b W (by omega) (by omega) (by omega) (by omega))
  by_cases hbm : b = -9223372036854775808
  · subst hbm
    generalize na (a + -9223372036854775808) = x at *
    generalize ne (a + -9223372036854775808) = e0 at *
    clear ha hb
    go_enter Try.func8, Try.ntmps8
    go_wp2_with fail
    refine (C1.out _).mono ?_
    rintro e w1 ⟨rfl, hb⟩
    have B1 := Lib.hid (B0.out.trans (hb.mono B0.out.size)); clear hb
    go_wp2_with fail
    refine (G.out _).mono ?_
    rintro e w2 ⟨rfl, hb⟩
    have B2 := Lib.hid (B1.out.trans (hb.mono B1.out.size)); clear hb
    go_wp2_with fail
    go_ret
    exact ⟨rfl, B2.out⟩
  · have kb : (b == -9223372036854775808) = false := by simpa using hbm
    have kn : IntKind.i64.wrap (-b) = -b := by rw [IntKind.wrap_i64]; omega
    have C2 := Lib.hid (fun W => Add_any b (-b) W (by omega) (by omega) (by omega) (by omega))
    rw [show b + -b = 0 by omega, show na 0 = 0 by decide, show ne 0 = 0 by decide] at C2
    cases hp : isn (a + b) with
    | true =>
      have g1 := (isn_iff _).1 hp
      rw [na_t hp, ne_t hp] at C1
      have C3 := Lib.hid (fun W => Add_any (a + b) (-b) W (by omega) (by omega) (by omega) (by omega))
      have i1 : isn a = true := (isn_iff a).2 ha
      rw [show a + b + -b = a by omega, na_t i1, ne_t i1] at C3
      obtain ⟨s, hs⟩ := named (a + b)
      have ks : wrap64 (a + b) = s := by unfold wrap64; omega
      rw [hs] at C1 C3
      clear ha hb hp g1 i1 hbm hs
      go_enter Try.func8, Try.ntmps8
      go_wp2_with fail
      refine (C1.out _).mono ?_
      rintro e w1 ⟨rfl, hb⟩
      have B1 := Lib.hid (B0.out.trans (hb.mono B0.out.size)); clear hb
      go_wp2_with fail
      refine (C2.out _).mono ?_
      rintro e w2 ⟨rfl, hb⟩
      have B2 := Lib.hid (B1.out.trans (hb.mono B1.out.size)); clear hb
      go_wp2_with fail
      refine (C3.out _).mono ?_
      rintro e w3 ⟨rfl, hb⟩
      have B3 := Lib.hid (B2.out.trans (hb.mono B2.out.size)); clear hb
      go_wp2_with fail
      refine (G.out _).mono ?_
      rintro e w4 ⟨rfl, hb⟩
      have B4 := Lib.hid (B3.out.trans (hb.mono B3.out.size)); clear hb
      go_wp2_with fail
      go_ret
      exact ⟨rfl, B4.out⟩
    | false =>
      have g1 := isn_not hp
      rw [na_f hp, ne_f hp] at C1
      rcases g1 with g1 | g1
      · have x1 : ¬ 0 < a := by omega
        have x2 : ¬ 0 < b := by omega
        clear ha hb hp g1 hbm
        go_enter Try.func8, Try.ntmps8
        go_wp2_with fail
        refine (C1.out _).mono ?_
        rintro e w1 ⟨rfl, hb⟩
        have B1 := Lib.hid (B0.out.trans (hb.mono B0.out.size)); clear hb
        go_wp2_with fail
        refine (C2.out _).mono ?_
        rintro e w2 ⟨rfl, hb⟩
        have B2 := Lib.hid (B1.out.trans (hb.mono B1.out.size)); clear hb
        go_wp2_with fail
        refine (G.out _).mono ?_
        rintro e w3 ⟨rfl, hb⟩
        have B3 := Lib.hid (B2.out.trans (hb.mono B2.out.size)); clear hb
        go_wp2_with fail
        go_ret
        exact ⟨rfl, B3.out⟩
      · have x1 : 0 < a := by omega
        have x2 : 0 < b := by omega
        clear ha hb hp g1 hbm
        go_enter Try.func8, Try.ntmps8
        go_wp2_with fail
        refine (C1.out _).mono ?_
        rintro e w1 ⟨rfl, hb⟩
        have B1 := Lib.hid (B0.out.trans (hb.mono B0.out.size)); clear hb
        go_wp2_with fail
        refine (C2.out _).mono ?_
        rintro e w2 ⟨rfl, hb⟩
        have B2 := Lib.hid (B1.out.trans (hb.mono B1.out.size)); clear hb
        go_wp2_with fail
        refine (G.out _).mono ?_
        rintro e w3 ⟨rfl, hb⟩
        have B3 := Lib.hid (B2.out.trans (hb.mono B2.out.size)); clear hb
        go_wp2_with fail
        go_ret
        exact ⟨rfl, B3.out⟩
end Go.Proofs.Ytleafhedkmajjaa
