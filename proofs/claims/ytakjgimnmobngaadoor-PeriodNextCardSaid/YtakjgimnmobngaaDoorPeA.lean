import Derived.Test.YtakjgimnmobngaaDoorPe4
import Derived.LaidMore
namespace Go.Proofs.YtakjgimnmobngaaDoor
open Go.RowKit Mem Ci

theorem i64_bd {x : Int} (h : (Lit.int .i64 x).wf = true) : -9223372036854775808 ≤ x ∧ x ≤ 9223372036854775807 := by
  simpa [Lit.wf, IntKind.min, IntKind.max, IntKind.bits, IntKind.signed] using h

set_option maxHeartbeats 2000000 in
theorem periodTimes_walk (t s : Int) (w : World) (hw : Lens w) (_ht : (Lit.int .i64 t).wf = true) (_hs : (Lit.int .i64 s).wf = true) :
    Calls Tryd.prog 3 #[.int .i64 t, .int .i64 s] w fun e w' => e = .returned (.bool true) ∧ Below w.heap.size w w' := by
  have hs := lens_size hw
  have HL := Lib.hid (fun W (h : Below w.heap.size w W) => hw.below h hs); clear hw _ht _hs
  have K1 := Lib.hid (fun W => check_any s W)
  have K2 := Lib.hid (fun W => rcheck_any s W)
  generalize hv : shB s = v at K1 K2
  have KV := Lib.hid hv; clear hv
  have G := Lib.hid (fun W (hB : Below w.heap.size w W) => pgoes_any W (HL.out _ hB))
  by_cases ok : TimeOk t s
  · obtain ⟨q, hq⟩ := isM_has (dayN_in ok).1 (dayN_in ok).2
    have C1 := Lib.hid (fun W => pday_yes W ok)
    have C2 := Lib.hid (fun W => rday_yes9 W ok)
    have C3 := Lib.hid (fun W (hB : Below w.heap.size w W) => pmonth_yes W (HL.out _ hB) ok hq)
    have C4 := Lib.hid (fun W => rmonth_yes W ok hq)
    generalize dayN t s = z at C1 C2
    clear ok hq
    go_enter Tryd.func3, Tryd.ntmps3
    go_wp2_with fail
    refine (C1.out _).mono ?_
    rintro e w1 ⟨rfl, rfl⟩
    go_wp2_with fail
    refine (C2.out _).mono ?_
    rintro e w1 ⟨rfl, rfl⟩
    go_wp2_with fail
    refine (C3.out _ (Below.refl _ _)).mono ?_
    rintro e w1 ⟨rfl, hb⟩
    have B1 := Lib.hid hb; clear hb
    go_wp2_with fail
    refine (C4.out _).mono ?_
    rintro e w2 ⟨rfl, hb⟩
    have B2 := Lib.hid (B1.out.trans (hb.mono B1.out.size)); clear hb
    go_wp2_with fail
    refine (K1.out _).mono ?_
    rintro e w3 ⟨rfl, rfl⟩
    go_wp2_with fail
    refine (K2.out _).mono ?_
    rintro e w3 ⟨rfl, rfl⟩
    go_wp2_with fail
    refine (G.out _ B2.out).mono ?_
    rintro e w3 ⟨rfl, hb⟩
    have B3 := Lib.hid (B2.out.trans (hb.mono B2.out.size)); clear hb
    go_wp2_with fail
    go_ret
    exact ⟨rfl, B3.out⟩
  · have C1 := Lib.hid (fun W => pday_no W ok)
    have C2 := Lib.hid (fun W => rday_no9 W ok)
    have C3 := Lib.hid (fun W => pmonth_no W ok)
    have C4 := Lib.hid (fun W => rmonth_no W ok)
    clear ok
    go_enter Tryd.func3, Tryd.ntmps3
    go_wp2_with fail
    refine (C1.out _).mono ?_
    rintro e w1 ⟨rfl, rfl⟩
    go_wp2_with fail
    refine (C2.out _).mono ?_
    rintro e w1 ⟨rfl, rfl⟩
    go_wp2_with fail
    refine (C3.out _).mono ?_
    rintro e w1 ⟨rfl, rfl⟩
    go_wp2_with fail
    refine (C4.out _).mono ?_
    rintro e w2 ⟨rfl, rfl⟩
    go_wp2_with fail
    refine (K1.out _).mono ?_
    rintro e w3 ⟨rfl, rfl⟩
    go_wp2_with fail
    refine (K2.out _).mono ?_
    rintro e w3 ⟨rfl, rfl⟩
    go_wp2_with fail
    refine (G.out _ (Below.refl _ _)).mono ?_
    rintro e w3 ⟨rfl, hb⟩
    have B3 := Lib.hid hb; clear hb
    go_wp2_with fail
    go_ret
    exact ⟨rfl, B3.out⟩
end Go.Proofs.YtakjgimnmobngaaDoor
