import Derived.Test.YtakjgimnmobngaaDoorPeA
namespace Go.Proofs.YtakjgimnmobngaaDoor
open Go.RowKit Mem Ci
set_option maxHeartbeats 2000000 in
theorem periodKnown_walk (w : World) (hw : Lens w)  :
    Calls Tryd.prog 8 #[] w fun e w' => e = .returned (.bool true) ∧ Below w.heap.size w w' := by
  have hs := lens_size hw
  have HL := Lib.hid (fun W (h : Below w.heap.size w W) => hw.below h hs); clear hw
  have G := Lib.hid (fun W (hB : Below w.heap.size w W) => pgoes_any W (HL.out _ hB))
  clear hs
  have k0 : TimeOk 0 0 := timeOk (by decide) (by decide) (by decide)
  have k1 : TimeOk 137438953472 50400 := timeOk (by decide) (by decide) (by decide)
  obtain ⟨q, hq⟩ := isM_has (dayN_in k1).1 (dayN_in k1).2
  have qb : 72000 < q := by
    have a : fst 72001 + lenM 72001 ≤ dayN 137438953472 50400 := by decide +kernel
    rcases Int.lt_or_le 72000 q with k | k
    · exact k
    · have := fst_lt hq.lo (show q < 72001 by omega) (by omega); have := hq.lt; have := lenM_lo (q := 72001) (by omega) (by omega); omega
  have qh := hq.hi
  have c1 := fun W => pday_yes W k0
  rw [show dayN 0 0 = 0 by decide] at c1
  have c2 := fun W => pday_no (t := -1) (s := 0) W (fun h => absurd h.lo (by decide))
  have c3 := fun W => pday_no (t := 137438953473) (s := 0) W (fun h => absurd h.hi (by decide))
  have c4 := fun W => pday_no (t := 0) (s := 50401) W (fun h => absurd h.sh (by decide))
  have c5 := fun W (hB : Below w.heap.size w W) => pmonth_yes W (HL.out _ hB) k1 hq
  have c6 := fun W (hB : Below w.heap.size w W) => start_no (q := 11) (s := 0) W (HL.out _ hB) (by omega)
  have c7 := fun W (hB : Below w.heap.size w W) => dawn_no (z := 1099511627776) (s := 0) W (HL.out _ hB) (by omega)
  have c8 := fun W (hB : Below w.heap.size w W) => dawn_yes (z := -1) (s := 900) W (HL.out _ hB) (by decide) (by decide) (by decide)
  rw [show 86400 * (-1) - 900 = (-87300 : Int) by decide] at c8
  have c9 := fun W => check_not (s := 51300) W (by decide)
  have ca := fun W => check_yes (s := -50400) W (by decide)
  have C1 := Lib.hid c1; have C2 := Lib.hid c2; have C3 := Lib.hid c3; have C4 := Lib.hid c4; have C5 := Lib.hid c5; have C6 := Lib.hid c6; have C7 := Lib.hid c7; have C8 := Lib.hid c8; have C9 := Lib.hid c9; have CA := Lib.hid ca
  clear c1 c2 c3 c4 c5 c6 c7 c8 c9 ca k0 k1 hq
  go_enter Tryd.func8, Tryd.ntmps8
  go_wp2_with fail
  refine (C1.out _).mono ?_
  rintro e w1 ⟨rfl, rfl⟩
  go_wp2_with fail
  refine (C2.out _).mono ?_
  rintro e w2 ⟨rfl, rfl⟩
  go_wp2_with fail
  refine (C3.out _).mono ?_
  rintro e w3 ⟨rfl, rfl⟩
  go_wp2_with fail
  refine (C4.out _).mono ?_
  rintro e w4 ⟨rfl, rfl⟩
  go_wp2_with fail
  refine (C5.out _ (Below.refl _ _)).mono ?_
  rintro e w5 ⟨rfl, hb⟩
  have B1 := Lib.hid hb
  clear hb
  go_wp2_with fail
  refine (C6.out _ B1.out).mono ?_
  rintro e w6 ⟨rfl, hb⟩
  have B2 := Lib.hid (B1.out.trans (hb.mono B1.out.size))
  clear hb
  go_wp2_with fail
  refine (C7.out _ B2.out).mono ?_
  rintro e w7 ⟨rfl, hb⟩
  have B3 := Lib.hid (B2.out.trans (hb.mono B2.out.size))
  clear hb
  go_wp2_with fail
  refine (C8.out _ B3.out).mono ?_
  rintro e w8 ⟨rfl, hb⟩
  have B4 := Lib.hid (B3.out.trans (hb.mono B3.out.size))
  clear hb
  go_wp2_with fail
  refine (C9.out _).mono ?_
  rintro e w9 ⟨rfl, rfl⟩
  go_wp2_with fail
  refine (CA.out _).mono ?_
  rintro e w10 ⟨rfl, rfl⟩
  go_wp2_with fail
  refine (G.out _ B4.out).mono ?_
  rintro e w11 ⟨rfl, hb⟩
  have B5 := Lib.hid (B4.out.trans (hb.mono B4.out.size))
  clear hb
  go_wp2_with fail
  go_ret
  exact ⟨rfl, B5.out⟩
end Go.Proofs.YtakjgimnmobngaaDoor
