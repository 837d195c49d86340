import Derived.Test.YtakjgimnmobngaaDoorPe3
namespace Go.Proofs.YtakjgimnmobngaaDoor.Ci
open Go.RowKit Mem Go.Sort

theorem timeOk {t s : Int} (h1 : 0 ≤ t) (h2 : t ≤ 137438953472) (h : shB s = true) : TimeOk t s := ⟨h1, h2, h⟩
set_option maxHeartbeats 1000000 in
theorem pgoes_any (w : World) (hw : Lens w) : Calls Tryd.prog 15 #[] w fun e w' => e = .returned (.bool true) ∧ Below w.heap.size w w' := by
  have hs := lens_size hw
  have HL := Lib.hid (fun W (h : Below w.heap.size w W) => hw.below h hs); clear hw
  have k1 : TimeOk 0 (-900) := timeOk (by decide) (by decide) (by decide)
  have m1 : IsM 23639 (dayN 0 (-900)) := ⟨by decide, by decide, by decide, by decide⟩
  have c1 := fun W => pday_yes W k1
  rw [show dayN 0 (-900) = -1 by decide] at c1
  have c2 := fun W (hB : Below w.heap.size w W) => pmonth_yes W (HL.out _ hB) k1 m1
  have c3 := fun W (hB : Below w.heap.size w W) => start_yes (q := 23641) (s := 3600) W (HL.out _ hB) (by decide) (by decide) (by decide)
  rw [show 86400 * fst 23641 - 3600 = 2674800 by decide] at c3
  have c4 := fun W => check_not (s := 901) W (by decide)
  have c5 := fun W => check_yes (s := 50400) W (by decide)
  have C1 := Lib.hid c1; have C2 := Lib.hid c2; have C3 := Lib.hid c3; have C4 := Lib.hid c4; have C5 := Lib.hid c5
  clear c1 c2 c3 c4 c5 k1 m1
  go_enter Tryd.func15, Tryd.ntmps15
  go_wp2_with fail
  refine (C1.out _).mono ?_
  rintro e w1 ⟨rfl, rfl⟩
  go_wp2_with fail
  refine (C2.out _ (Below.refl _ _)).mono ?_
  rintro e w1 ⟨rfl, hb⟩
  have B1 := Lib.hid hb; clear hb
  go_wp2_with fail
  refine (C3.out _ B1.out).mono ?_
  rintro e w2 ⟨rfl, hb⟩
  have B2 := Lib.hid (B1.out.trans (hb.mono B1.out.size)); clear hb
  go_wp2_with fail
  refine (C4.out _).mono ?_
  rintro e w3 ⟨rfl, rfl⟩
  go_wp2_with fail
  refine (C5.out _).mono ?_
  rintro e w3 ⟨rfl, rfl⟩
  go_wp2_with fail
  go_ret
  exact ⟨rfl, B2.out⟩
end Go.Proofs.YtakjgimnmobngaaDoor.Ci
