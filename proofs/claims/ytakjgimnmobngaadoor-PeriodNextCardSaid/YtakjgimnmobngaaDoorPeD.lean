import Derived.Test.YtakjgimnmobngaaDoorPeA
namespace Go.Proofs.YtakjgimnmobngaaDoor
open Go.RowKit Mem Ci
set_option maxHeartbeats 2000000 in
theorem periodNext_walk (t m s : Int) (w : World) (hw : Lens w) (_ht : (Lit.int .i64 t).wf = true) (_hm : (Lit.int .i64 m).wf = true) (_hs : (Lit.int .i64 s).wf = true) :
    Calls Tryd.prog 6 #[.int .i64 t, .int .i64 m, .int .i64 s] w fun e w' => e = .returned (.bool true) ∧ Below w.heap.size w w' := by
  have hs := lens_size hw
  have HL := Lib.hid (fun W (h : Below w.heap.size w W) => hw.below h hs); clear hw
  have G := Lib.hid (fun W (hB : Below w.heap.size w W) => pgoes_any W (HL.out _ hB))
  obtain ⟨bm1, bm2⟩ := i64_bd _hm; clear hs _ht _hm _hs
  by_cases g : t < 0 ∨ m < 0 ∨ 137438953472 < t
  · rcases (show t < 0 ∨ (0 ≤ t ∧ m < 0) ∨ (0 ≤ t ∧ 0 ≤ m ∧ 137438953472 < t) by omega) with h | ⟨h1, h⟩ | ⟨h1, h2, h⟩
    · clear g
      go_enter Tryd.func6, Tryd.ntmps6
      go_wp2_with fail
      refine (G.out _ (Below.refl _ _)).mono ?_
      rintro e w1 ⟨rfl, hb⟩
      have B1 := Lib.hid hb
      clear hb
      go_wp2_with fail
      go_ret
      exact ⟨rfl, B1.out⟩
    · clear g
      go_enter Tryd.func6, Tryd.ntmps6
      go_wp2_with fail
      refine (G.out _ (Below.refl _ _)).mono ?_
      rintro e w1 ⟨rfl, hb⟩
      have B1 := Lib.hid hb
      clear hb
      go_wp2_with fail
      go_ret
      exact ⟨rfl, B1.out⟩
    · clear g
      go_enter Tryd.func6, Tryd.ntmps6
      go_wp2_with fail
      refine (G.out _ (Below.refl _ _)).mono ?_
      rintro e w1 ⟨rfl, hb⟩
      have B1 := Lib.hid hb
      clear hb
      go_wp2_with fail
      go_ret
      exact ⟨rfl, B1.out⟩
  have t1 : 0 ≤ t := by omega
  have m1 : 0 ≤ m := by omega
  have t2 : t ≤ 137438953472 := by omega
  clear g
  by_cases g : 137438953472 - t < m
  · go_enter Tryd.func6, Tryd.ntmps6
    go_wp2_with fail
    refine (G.out _ (Below.refl _ _)).mono ?_
    rintro e w1 ⟨rfl, hb⟩
    have B1 := Lib.hid hb
    clear hb
    go_wp2_with fail
    go_ret
    exact ⟨rfl, B1.out⟩
  have m2 : m ≤ 137438953472 - t := by omega
  clear g
  cases hv : shB s with
  | false =>
    have K := Lib.hid (fun W => check_not W hv); clear hv
    go_enter Tryd.func6, Tryd.ntmps6
    go_wp2_with fail
    refine (K.out _).mono ?_
    rintro e w1 ⟨rfl, rfl⟩
    go_wp2_with fail
    refine (G.out _ (Below.refl _ _)).mono ?_
    rintro e w2 ⟨rfl, hb⟩
    have B1 := Lib.hid hb
    clear hb
    go_wp2_with fail
    go_ret
    exact ⟨rfl, B1.out⟩
  | true =>
    have K := Lib.hid (fun W => check_yes W hv)
    obtain ⟨s1, s2, _⟩ := sh_of hv
    have ok1 := timeOk t1 t2 hv
    have ok2 := timeOk (t := t + m) (s := s) (by omega) (by omega) hv
    obtain ⟨q1, hq1⟩ := isM_has (dayN_in ok1).1 (dayN_in ok1).2
    obtain ⟨q2, hq2⟩ := isM_has (dayN_in ok2).1 (dayN_in ok2).2
    have d1 := dayN_bd ok1.lo ok1.hi hv
    have d2 := dayN_bd ok2.lo ok2.hi hv
    have hle : dayN t s ≤ dayN (t + m) s := by unfold dayN; omega
    have hdf : dayN (t + m) s - dayN t s ≤ m / 86400 + 1 := by unfold dayN; omega
    have qle := hq1.mono hq2 hle
    have C1 := Lib.hid (fun W => pday_yes W ok1)
    have C2 := Lib.hid (fun W => pday_yes W ok2)
    have C3 := Lib.hid (fun W (hB : Below w.heap.size w W) => pmonth_yes W (HL.out _ hB) ok1 hq1)
    have C4 := Lib.hid (fun W (hB : Below w.heap.size w W) => pmonth_yes W (HL.out _ hB) ok2 hq2)
    clear ok1 ok2 hq1 hq2 hv
    generalize dayN t s = z1 at *
    generalize dayN (t + m) s = z2 at *
    have y1 : IntKind.i64.wrap (z2 - z1) = z2 - z1 := IntWalk.i64_in _ (by omega)
    have y2 : m.tdiv 86400 = m / 86400 := Int.tdiv_eq_ediv_of_nonneg m1
    go_enter Tryd.func6, Tryd.ntmps6
    go_wp2_with fail
    refine (K.out _).mono ?_
    rintro e w1 ⟨rfl, rfl⟩
    go_wp2_with fail
    refine (C1.out _).mono ?_
    rintro e w2 ⟨rfl, rfl⟩
    go_wp2_with fail
    refine (C2.out _).mono ?_
    rintro e w3 ⟨rfl, rfl⟩
    go_wp2_with fail
    refine (C3.out _ (Below.refl _ _)).mono ?_
    rintro e w4 ⟨rfl, hb⟩
    have B1 := Lib.hid hb
    clear hb
    go_wp2_with fail
    refine (C4.out _ B1.out).mono ?_
    rintro e w5 ⟨rfl, hb⟩
    have B2 := Lib.hid (B1.out.trans (hb.mono B1.out.size))
    clear hb
    go_wp2_with fail
    refine (G.out _ B2.out).mono ?_
    rintro e w6 ⟨rfl, hb⟩
    have B3 := Lib.hid (B2.out.trans (hb.mono B2.out.size))
    clear hb
    go_wp2_with fail
    go_ret
    exact ⟨rfl, B3.out⟩
end Go.Proofs.YtakjgimnmobngaaDoor
