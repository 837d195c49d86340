import Derived.Test.YtleafhedkmajjaaMo5
import Derived.LaidMore
namespace Go.Proofs.Ytleafhedkmajjaa
set_option linter.unusedVariables false
set_option linter.unusedSimpArgs false
open Go.RowKit Mem Mo
theorem i64_bd {x : Int} (h : (Lit.int .i64 x).wf = true) : -9223372036854775808 ≤ x ∧ x ≤ 9223372036854775807 := by
  simpa [Lit.wf, IntKind.min, IntKind.max, IntKind.bits, IntKind.signed] using h
set_option maxHeartbeats 1000000 in
theorem moneyBack_walk (a b d : Int) (w : World) (_ha : (Lit.int .i64 a).wf = true) (_hb : (Lit.int .i64 b).wf = true) (_hd : (Lit.int .i64 d).wf = true) : Calls Try.prog 5 #[.int .i64 a, .int .i64 b, .int .i64 d] w fun e w' => e = .returned (.bool true) ∧ Below w.heap.size w w' := by
  have ha := i64_bd _ha
  have hb := i64_bd _hb
  have hd := i64_bd _hd
  clear _ha _hb _hd
  have G := Lib.hid (fun W => goes_any W)
  have B0 := Lib.hid (Below.refl w.heap.size w)
  rcases badP a b d with h | ⟨h1, h2, h3⟩
  · have C1 := Lib.hid (fun W => Part_no a b d W h)
    rcases h with h | ⟨h1, h2⟩ | ⟨h1, h2, h3⟩
    all_goals
      clear ha hb hd
      go_enter Try.func5, Try.ntmps5
      go_wp2_with fail
      refine (C1.out _).mono ?_
      rintro e w1 ⟨rfl, hb⟩
      have B1 := Lib.hid (B0.out.trans (hb.mono B0.out.size)); clear hb
      go_wp2_with fail
      refine (G.out _).mono ?_
      rintro e w2 ⟨rfl, hb⟩
      have B2 := Lib.hid (B1.out.trans (hb.mono B1.out.size)); clear hb
      go_wp2_with fail
      go_ret
      exact ⟨rfl, B2.out⟩
  · have C1 := Lib.hid (fun W => Part_yes a b d W h1 (by omega) h2 (by omega) h3 (by omega))
    have C2 := Lib.hid (fun W => Mul_any a b W (by omega) (by omega) (by omega) (by omega))
    have hm := Int.mul_nonneg h1 h2
    have hmod := Int.mul_emod a b 18446744073709551616
    obtain ⟨P, hP⟩ := named (a * b)
    rw [hP] at C1 C2 hm hmod
    have e3 := Int.mul_ediv_add_emod P d
    have r0 := Int.emod_nonneg P (show d ≠ 0 by omega)
    have r1 := Int.emod_lt_of_pos P (show 0 < d by omega)
    have q0 : 0 ≤ P / d := Int.ediv_nonneg hm (by omega)
    have qle : P / d ≤ P := Int.ediv_le_self _ hm
    have t1 := Int.tdiv_eq_ediv_of_nonneg (b := d) hm
    have t2 := Int.tmod_eq_emod_of_nonneg (b := d) hm
    obtain ⟨q, hq⟩ := named (P / d)
    obtain ⟨r, hr⟩ := named (P % d)
    rw [hq] at C1 e3 q0 qle t1
    rw [hr] at C1 e3 r0 r1 t2
    cases hp : isn P with
    | true =>
      have hp1 : P ≤ 9223372036854775807 := by unfold isn at hp; simp at hp; omega
      have hpq : isn q = true := by unfold isn; simp; omega
      have s1 : na q = q := by unfold na; rw [hpq]; rfl
      have s2 : ne q = 0 := by unfold ne; rw [hpq]; rfl
      have s3 : pr q r = r := by unfold pr; rw [hpq]; rfl
      have s4 : na P = P := by unfold na; rw [hp]; rfl
      have s5 : ne P = 0 := by unfold ne; rw [hp]; rfl
      rw [s1, s2, s3] at C1
      rw [s4, s5] at C2
      have k1 : IntKind.i64.wrap (P.tdiv d) = q := by rw [t1, IntKind.wrap_i64]; omega
      have d0 : ¬ d = 0 := by omega
      clear ha hb hd e3 r0 r1 q0 qle hp hp1 hpq s1 s2 s3 s4 s5 hq hr hP hm hmod t1
      go_enter Try.func5, Try.ntmps5
      go_wp2_with fail
      refine (C1.out _).mono ?_
      rintro e w1 ⟨rfl, hb⟩
      have B1 := Lib.hid (B0.out.trans (hb.mono B0.out.size)); clear hb
      go_wp2_with fail
      refine (C2.out _).mono ?_
      rintro e w2 ⟨rfl, hb⟩
      have B2 := Lib.hid (B1.out.trans (hb.mono B1.out.size)); clear hb
      go_wp2_with fail
      refine (G.out _).mono ?_
      rintro e w3 ⟨rfl, hb⟩
      have B3 := Lib.hid (B2.out.trans (hb.mono B2.out.size)); clear hb
      go_wp2_with fail
      go_ret
      exact ⟨rfl, B3.out⟩
    | false =>
      have s5 : ne P = 30 := by unfold ne; rw [hp]; rfl
      rw [s5] at C2
      generalize na P = pv at C2
      cases hpq : isn q with
      | false =>
        have s1 : na q = 0 := by unfold na; rw [hpq]; rfl
        have s2 : ne q = 30 := by unfold ne; rw [hpq]; rfl
        have s3 : pr q r = 0 := by unfold pr; rw [hpq]; rfl
        rw [s1, s2, s3] at C1
        clear ha hb hd e3 r0 r1 q0 qle hp hpq s1 s2 s3 s5 hq hr hP hm hmod t1 t2
        go_enter Try.func5, Try.ntmps5
        go_wp2_with fail
        refine (C1.out _).mono ?_
        rintro e w1 ⟨rfl, hb⟩
        have B1 := Lib.hid (B0.out.trans (hb.mono B0.out.size)); clear hb
        go_wp2_with fail
        refine (C2.out _).mono ?_
        rintro e w2 ⟨rfl, hb⟩
        have B2 := Lib.hid (B1.out.trans (hb.mono B1.out.size)); clear hb
        go_wp2_with fail
        refine (G.out _).mono ?_
        rintro e w3 ⟨rfl, hb⟩
        have B3 := Lib.hid (B2.out.trans (hb.mono B2.out.size)); clear hb
        go_wp2_with fail
        go_ret
        exact ⟨rfl, B3.out⟩
      | true =>
        have s1 : na q = q := by unfold na; rw [hpq]; rfl
        have s2 : ne q = 0 := by unfold ne; rw [hpq]; rfl
        have s3 : pr q r = r := by unfold pr; rw [hpq]; rfl
        rw [s1, s2, s3] at C1
        have hq2 : q ≤ 9223372036854775807 := by unfold isn at hpq; simp at hpq; omega
        have k1 : IntKind.u64.wrap q = q := by rw [IntKind.wrap_u64]; omega
        have k2 : IntKind.u64.wrap d = d := by rw [IntKind.wrap_u64]; omega
        have k3 : IntKind.u64.wrap r = r := by rw [IntKind.wrap_u64]; omega
        have k4 : IntKind.u64.wrap a = a := by rw [IntKind.wrap_u64]; omega
        have k5 : IntKind.u64.wrap b = b := by rw [IntKind.wrap_u64]; omega
        have k6 : IntKind.u64.wrap (IntKind.u64.wrap (q * d) + r) = P % 18446744073709551616 := by rw [IntKind.wrap_u64, IntKind.wrap_u64, Int.mul_comm]; omega
        have k7 : IntKind.u64.wrap (a * b) = P % 18446744073709551616 := by rw [hP, IntKind.wrap_u64]
        have hr2 : r < d := r1
        have hr3 : 0 ≤ r := r0
        have hq3 : 0 ≤ q := q0
        generalize P % 18446744073709551616 = m at k6 k7
        clear ha hb hd e3 r0 r1 q0 qle hp hpq s1 s2 s3 s5 hq hr hP hm hmod t1 t2 hq2
        go_enter Try.func5, Try.ntmps5
        go_wp2_with fail
        refine (C1.out _).mono ?_
        rintro e w1 ⟨rfl, hb⟩
        have B1 := Lib.hid (B0.out.trans (hb.mono B0.out.size)); clear hb
        go_wp2_with fail
        refine (C2.out _).mono ?_
        rintro e w2 ⟨rfl, hb⟩
        have B2 := Lib.hid (B1.out.trans (hb.mono B1.out.size)); clear hb
        go_wp2_with fail
        refine (G.out _).mono ?_
        rintro e w3 ⟨rfl, hb⟩
        have B3 := Lib.hid (B2.out.trans (hb.mono B2.out.size)); clear hb
        go_wp2_with fail
        go_ret
        exact ⟨rfl, B3.out⟩
end Go.Proofs.Ytleafhedkmajjaa
