import Derived.Test.YtakjgimnmobngaaDoorPeA
namespace Go.Proofs.YtakjgimnmobngaaDoor
open Go.RowKit Mem Ci
set_option maxHeartbeats 2000000 in
theorem periodShift_walk (t s : Int) (w : World) (hw : Lens w) (_ht : (Lit.int .i64 t).wf = true) (_hs : (Lit.int .i64 s).wf = true) :
    Calls Tryd.prog 7 #[.int .i64 t, .int .i64 s] w fun e w' => e = .returned (.bool true) ∧ Below w.heap.size w w' := by
  have hs := lens_size hw
  have HL := Lib.hid (fun W (h : Below w.heap.size w W) => hw.below h hs); clear hw
  have G := Lib.hid (fun W (hB : Below w.heap.size w W) => pgoes_any W (HL.out _ hB))
  obtain ⟨bm1, bm2⟩ := i64_bd _ht; clear hs _ht _hs
  cases hv : shB s with
  | false =>
    have K := Lib.hid (fun W => check_not W hv); clear hv
    go_enter Tryd.func7, Tryd.ntmps7
    go_wp2_with fail
    refine (K.out _).mono ?_
    rintro e w1 ⟨rfl, rfl⟩
    go_wp2_with fail
    refine (G.out _ (Below.refl _ _)).mono ?_
    rintro e w2 ⟨rfl, hb⟩
    have B1 := Lib.hid hb
    clear hb
    go_wp2_with fail
    go_ret
    exact ⟨rfl, B1.out⟩
  | true =>
    have K := Lib.hid (fun W => check_yes W hv)
    by_cases g : t < 50400 ∨ 137438903072 < t
    · clear hv
      rcases (show t < 50400 ∨ (50400 ≤ t ∧ 137438903072 < t) by omega) with h | ⟨h1, h⟩
      · clear g
        go_enter Tryd.func7, Tryd.ntmps7
        go_wp2_with fail
        refine (K.out _).mono ?_
        rintro e w1 ⟨rfl, rfl⟩
        go_wp2_with fail
        refine (G.out _ (Below.refl _ _)).mono ?_
        rintro e w2 ⟨rfl, hb⟩
        have B1 := Lib.hid hb
        clear hb
        go_wp2_with fail
        go_ret
        exact ⟨rfl, B1.out⟩
      · clear g
        go_enter Tryd.func7, Tryd.ntmps7
        go_wp2_with fail
        refine (K.out _).mono ?_
        rintro e w1 ⟨rfl, rfl⟩
        go_wp2_with fail
        refine (G.out _ (Below.refl _ _)).mono ?_
        rintro e w2 ⟨rfl, hb⟩
        have B1 := Lib.hid hb
        clear hb
        go_wp2_with fail
        go_ret
        exact ⟨rfl, B1.out⟩
    have t1 : 50400 ≤ t := by omega
    have t2 : t ≤ 137438903072 := by omega
    clear g
    obtain ⟨s1, s2, _⟩ := sh_of hv
    have ok1 := timeOk (t := t) (s := s) (by omega) (by omega) hv
    have ok2 := timeOk (t := t + s) (s := 0) (by omega) (by omega) (by decide)
    have E : dayN (t + s) 0 = dayN t s := by unfold dayN; simp
    obtain ⟨q, hq⟩ := isM_has (dayN_in ok1).1 (dayN_in ok1).2
    have C1 := Lib.hid (fun W => pday_yes W ok1)
    have C2 := Lib.hid (fun W => pday_yes W ok2)
    rw [E] at C2
    have C3 := Lib.hid (fun W (hB : Below w.heap.size w W) => pmonth_yes W (HL.out _ hB) ok1 hq)
    have C4 := Lib.hid (fun W (hB : Below w.heap.size w W) => pmonth_yes W (HL.out _ hB) ok2 (E.symm ▸ hq))
    clear ok1 ok2 hq hv E
    generalize dayN t s = z at *
    go_enter Tryd.func7, Tryd.ntmps7
    go_wp2_with fail
    refine (K.out _).mono ?_
    rintro e w1 ⟨rfl, rfl⟩
    go_wp2_with fail
    refine (C1.out _).mono ?_
    rintro e w2 ⟨rfl, rfl⟩
    go_wp2_with fail
    refine (C2.out _).mono ?_
    rintro e w3 ⟨rfl, rfl⟩
    go_wp2_with fail
    refine (C3.out _ (Below.refl _ _)).mono ?_
    rintro e w4 ⟨rfl, hb⟩
    have B1 := Lib.hid hb
    clear hb
    go_wp2_with fail
    refine (C4.out _ B1.out).mono ?_
    rintro e w5 ⟨rfl, hb⟩
    have B2 := Lib.hid (B1.out.trans (hb.mono B1.out.size))
    clear hb
    go_wp2_with fail
    refine (G.out _ B2.out).mono ?_
    rintro e w6 ⟨rfl, hb⟩
    have B3 := Lib.hid (B2.out.trans (hb.mono B2.out.size))
    clear hb
    go_wp2_with fail
    go_ret
    exact ⟨rfl, B3.out⟩
end Go.Proofs.YtakjgimnmobngaaDoor
