import Derived.Test.YtlfkafcmdndlgaaDoorCiT
namespace Go.Proofs.YtlfkafcmdndlgaaDoor
open Go.RowKit Mem Ci

set_option maxHeartbeats 2000000 in
theorem back_yi (y m d : Int) (y' m' d' : Int) (hv2 : vldB y' m' d' = true) (w : World) (hw : Lw w) (h : vldB y m d = true) :
    Calls Tryd.prog 5 #[.agg #[.int .i64 y, .int .i64 m, .int .i64 d], .int .i64 (num y' m' d')] w fun e w' => e = .returned (.bool true) ∧ Below w.heap.size w w' := by
  have HL := Lib.hid (fun W (h : Below w.heap.size w W) => hw.below h (Nat.le_refl _))
  have hs := hw.size; clear hw
  have H := Lib.hid h; clear h
  have HV2 := Lib.hid hv2; have bz := num_bd hv2; clear hv2
  have nb := num_bd H.out
  go_enter Tryd.func5, Tryd.ntmps5
  go_wp2_with fail
  have B0 := Lib.hid ((Below.refl w.heap.size w).alloc (Nat.le_refl _) (.cells #[.int .i64 y, .int .i64 m, .int .i64 d] 23))
  refine (day_yes _ (HL.out _ B0.out).lens (by simp) H.out).mono ?_
  rintro e w1 ⟨rfl, hb⟩
  have B1 := Lib.hid (B0.out.trans (hb.mono B0.out.size))
  have D1 := Lib.hid ((DAt.new w y m d).below hb)
  have z1 : w.heap.size < w1.heap.size := D1.out.lt
  clear hb
  go_wp2_with fail
  refine (of_yes _ (HL.out _ B1.out).lens H.out).mono ?_
  rintro e w2 ⟨rfl, hb⟩
  have B2 := Lib.hid (B1.out.trans (hb.mono B1.out.size))
  have D2 := Lib.hid (D1.out.below hb)
  have B2a := Lib.hid (B2.out.alloc B2.out.size (.cells #[.int .i64 y, .int .i64 m, .int .i64 d] 23))
  have D2a := Lib.hid (D2.out.alloc (.cells #[.int .i64 y, .int .i64 m, .int .i64 d] 23))
  have E2 := Lib.hid (DAt.new w2 y m d)
  clear hb
  have c0 := D2a.out.c0; have c1 := D2a.out.c1; have c2 := D2a.out.c2
  go_wp2_with fail
  refine (text_yes _ (HL.out _ B2a.out) H.out).mono ?_
  rintro e w3 ⟨rfl, hb⟩
  have B3 := Lib.hid (B2a.out.trans (hb.mono B2a.out.size))
  have D3 := Lib.hid (D2a.out.below hb)
  have E3 := Lib.hid (E2.out.below hb)
  clear hb c0 c1 c2
  go_wp2_with fail
  refine (parse_txt _ (HL.out _ B3.out) H.out).mono ?_
  rintro e w4 ⟨rfl, hb⟩
  have B4 := Lib.hid (B3.out.trans (hb.mono B3.out.size))
  have D4 := Lib.hid (D3.out.below hb)
  have E4 := Lib.hid (E3.out.below hb)
  have B4a := Lib.hid (B4.out.alloc B4.out.size (.cells #[.int .i64 y, .int .i64 m, .int .i64 d] 23))
  have D4a := Lib.hid (D4.out.alloc (.cells #[.int .i64 y, .int .i64 m, .int .i64 d] 23))
  have E4a := Lib.hid (E4.out.alloc (.cells #[.int .i64 y, .int .i64 m, .int .i64 d] 23))
  clear hb
  have c0 := D4a.out.c0; have c1 := D4a.out.c1; have c2 := D4a.out.c2
  have e0 := E4a.out.c0; have e1 := E4a.out.c1; have e2 := E4a.out.c2
  go_wp2_with fail
  refine (valid_yes _ (HL.out _ B4a.out).lens (by simp) H.out).mono ?_
  rintro e w5 ⟨rfl, hb⟩
  have B5 := Lib.hid (B4a.out.trans (hb.mono B4a.out.size))
  clear hb c0 c1 c2 e0 e1 e2
  go_wp2_with fail
  refine (of_yes _ (HL.out _ B5.out).lens HV2.out).mono ?_
  rintro e x1 ⟨rfl, hb⟩
  have X1 := Lib.hid (B5.out.trans (hb.mono B5.out.size))
  have X1a := Lib.hid (X1.out.alloc X1.out.size (.cells #[.int .i64 y', .int .i64 m', .int .i64 d'] 23))
  have zx : 1 < x1.heap.size := by have := X1.out.size; omega
  clear hb
  go_wp2_with fail
  refine (day_yes _ (HL.out _ X1a.out).lens (by simp) HV2.out).mono ?_
  rintro e x2 ⟨rfl, hb⟩
  have X2 := Lib.hid (X1a.out.trans (hb.mono X1a.out.size))
  clear hb
  go_wp2_with fail
  refine (goes_any _ (HL.out _ X2.out)).mono ?_
  rintro e x3 ⟨rfl, hb⟩
  have X3 := Lib.hid (X2.out.trans (hb.mono X2.out.size))
  clear hb
  go_wp2_with fail
  go_ret
  exact ⟨rfl, X3.out⟩
set_option maxHeartbeats 2000000 in
theorem back_yo (y m d : Int) (z : Int) (hz : z < -719162 ∨ 2932896 < z) (w : World) (hw : Lw w) (h : vldB y m d = true) :
    Calls Tryd.prog 5 #[.agg #[.int .i64 y, .int .i64 m, .int .i64 d], .int .i64 z] w fun e w' => e = .returned (.bool true) ∧ Below w.heap.size w w' := by
  have HL := Lib.hid (fun W (h : Below w.heap.size w W) => hw.below h (Nat.le_refl _))
  have hs := hw.size; clear hw
  have H := Lib.hid h; clear h
  have HO := Lib.hid hz; clear hz
  have nb := num_bd H.out
  go_enter Tryd.func5, Tryd.ntmps5
  go_wp2_with fail
  have B0 := Lib.hid ((Below.refl w.heap.size w).alloc (Nat.le_refl _) (.cells #[.int .i64 y, .int .i64 m, .int .i64 d] 23))
  refine (day_yes _ (HL.out _ B0.out).lens (by simp) H.out).mono ?_
  rintro e w1 ⟨rfl, hb⟩
  have B1 := Lib.hid (B0.out.trans (hb.mono B0.out.size))
  have D1 := Lib.hid ((DAt.new w y m d).below hb)
  have z1 : w.heap.size < w1.heap.size := D1.out.lt
  clear hb
  go_wp2_with fail
  refine (of_yes _ (HL.out _ B1.out).lens H.out).mono ?_
  rintro e w2 ⟨rfl, hb⟩
  have B2 := Lib.hid (B1.out.trans (hb.mono B1.out.size))
  have D2 := Lib.hid (D1.out.below hb)
  have B2a := Lib.hid (B2.out.alloc B2.out.size (.cells #[.int .i64 y, .int .i64 m, .int .i64 d] 23))
  have D2a := Lib.hid (D2.out.alloc (.cells #[.int .i64 y, .int .i64 m, .int .i64 d] 23))
  have E2 := Lib.hid (DAt.new w2 y m d)
  clear hb
  have c0 := D2a.out.c0; have c1 := D2a.out.c1; have c2 := D2a.out.c2
  go_wp2_with fail
  refine (text_yes _ (HL.out _ B2a.out) H.out).mono ?_
  rintro e w3 ⟨rfl, hb⟩
  have B3 := Lib.hid (B2a.out.trans (hb.mono B2a.out.size))
  have D3 := Lib.hid (D2a.out.below hb)
  have E3 := Lib.hid (E2.out.below hb)
  clear hb c0 c1 c2
  go_wp2_with fail
  refine (parse_txt _ (HL.out _ B3.out) H.out).mono ?_
  rintro e w4 ⟨rfl, hb⟩
  have B4 := Lib.hid (B3.out.trans (hb.mono B3.out.size))
  have D4 := Lib.hid (D3.out.below hb)
  have E4 := Lib.hid (E3.out.below hb)
  have B4a := Lib.hid (B4.out.alloc B4.out.size (.cells #[.int .i64 y, .int .i64 m, .int .i64 d] 23))
  have D4a := Lib.hid (D4.out.alloc (.cells #[.int .i64 y, .int .i64 m, .int .i64 d] 23))
  have E4a := Lib.hid (E4.out.alloc (.cells #[.int .i64 y, .int .i64 m, .int .i64 d] 23))
  clear hb
  have c0 := D4a.out.c0; have c1 := D4a.out.c1; have c2 := D4a.out.c2
  have e0 := E4a.out.c0; have e1 := E4a.out.c1; have e2 := E4a.out.c2
  go_wp2_with fail
  refine (valid_yes _ (HL.out _ B4a.out).lens (by simp) H.out).mono ?_
  rintro e w5 ⟨rfl, hb⟩
  have B5 := Lib.hid (B4a.out.trans (hb.mono B4a.out.size))
  clear hb c0 c1 c2 e0 e1 e2
  go_wp2_with fail
  refine (of_out _ HO.out).mono ?_
  rintro e x1 ⟨rfl, hb⟩
  have X1 := Lib.hid (B5.out.trans (hb.mono B5.out.size))
  have X1a := Lib.hid (X1.out.alloc X1.out.size (.cells #[.int .i64 0, .int .i64 0, .int .i64 0] 23))
  clear hb
  go_wp2_with fail
  refine (goes_any _ (HL.out _ X1a.out)).mono ?_
  rintro e x3 ⟨rfl, hb⟩
  have X3 := Lib.hid (X1a.out.trans (hb.mono X1a.out.size))
  clear hb
  go_wp2_with fail
  go_ret
  exact ⟨rfl, X3.out⟩
set_option maxHeartbeats 2000000 in
theorem back_ni (y m d : Int) (y' m' d' : Int) (hv2 : vldB y' m' d' = true) (w : World) (hw : Lw w) (h : vldB y m d = false) :
    Calls Tryd.prog 5 #[.agg #[.int .i64 y, .int .i64 m, .int .i64 d], .int .i64 (num y' m' d')] w fun e w' => e = .returned (.bool true) ∧ Below w.heap.size w w' := by
  have HL := Lib.hid (fun W (h : Below w.heap.size w W) => hw.below h (Nat.le_refl _))
  have hs := hw.size; clear hw
  have H := Lib.hid h; clear h
  have HV2 := Lib.hid hv2; have bz := num_bd hv2; clear hv2
  go_enter Tryd.func5, Tryd.ntmps5
  go_wp2_with fail
  have B0 := Lib.hid ((Below.refl w.heap.size w).alloc (Nat.le_refl _) (.cells #[.int .i64 y, .int .i64 m, .int .i64 d] 23))
  refine (day_no _ (HL.out _ B0.out).lens (by simp) H.out).mono ?_
  rintro e w1 ⟨rfl, hb⟩
  have B1 := Lib.hid (B0.out.trans (hb.mono B0.out.size))
  have D1 := Lib.hid ((DAt.new w y m d).below hb)
  clear hb
  have c0 := D1.out.c0; have c1 := D1.out.c1; have c2 := D1.out.c2
  have z1 : 1 < w1.heap.size := by have := B1.out.size; omega
  go_wp2_with fail
  refine (valid_not _ (HL.out _ B1.out).lens (by omega) H.out).mono ?_
  rintro e w2 ⟨rfl, hb⟩
  have B2 := Lib.hid (B1.out.trans (hb.mono B1.out.size))
  have D2 := Lib.hid (D1.out.below hb)
  have z2 : 1 < w2.heap.size := by have := B2.out.size; omega
  clear hb c0 c1 c2
  have c0 := D2.out.c0; have c1 := D2.out.c1; have c2 := D2.out.c2
  go_wp2_with fail
  refine (text_no _ (HL.out _ B2.out).lens (by omega) H.out).mono ?_
  rintro e w3 ⟨rfl, hb⟩
  have B3 := Lib.hid (B2.out.trans (hb.mono B2.out.size))
  clear hb c0 c1 c2
  go_wp2_with fail
  refine (of_yes _ (HL.out _ B3.out).lens HV2.out).mono ?_
  rintro e x1 ⟨rfl, hb⟩
  have X1 := Lib.hid (B3.out.trans (hb.mono B3.out.size))
  have X1a := Lib.hid (X1.out.alloc X1.out.size (.cells #[.int .i64 y', .int .i64 m', .int .i64 d'] 23))
  have zx : 1 < x1.heap.size := by have := X1.out.size; omega
  clear hb
  go_wp2_with fail
  refine (day_yes _ (HL.out _ X1a.out).lens (by simp) HV2.out).mono ?_
  rintro e x2 ⟨rfl, hb⟩
  have X2 := Lib.hid (X1a.out.trans (hb.mono X1a.out.size))
  clear hb
  go_wp2_with fail
  refine (goes_any _ (HL.out _ X2.out)).mono ?_
  rintro e x3 ⟨rfl, hb⟩
  have X3 := Lib.hid (X2.out.trans (hb.mono X2.out.size))
  clear hb
  go_wp2_with fail
  go_ret
  exact ⟨rfl, X3.out⟩
set_option maxHeartbeats 2000000 in
theorem back_no (y m d : Int) (z : Int) (hz : z < -719162 ∨ 2932896 < z) (w : World) (hw : Lw w) (h : vldB y m d = false) :
    Calls Tryd.prog 5 #[.agg #[.int .i64 y, .int .i64 m, .int .i64 d], .int .i64 z] w fun e w' => e = .returned (.bool true) ∧ Below w.heap.size w w' := by
  have HL := Lib.hid (fun W (h : Below w.heap.size w W) => hw.below h (Nat.le_refl _))
  have hs := hw.size; clear hw
  have H := Lib.hid h; clear h
  have HO := Lib.hid hz; clear hz
  go_enter Tryd.func5, Tryd.ntmps5
  go_wp2_with fail
  have B0 := Lib.hid ((Below.refl w.heap.size w).alloc (Nat.le_refl _) (.cells #[.int .i64 y, .int .i64 m, .int .i64 d] 23))
  refine (day_no _ (HL.out _ B0.out).lens (by simp) H.out).mono ?_
  rintro e w1 ⟨rfl, hb⟩
  have B1 := Lib.hid (B0.out.trans (hb.mono B0.out.size))
  have D1 := Lib.hid ((DAt.new w y m d).below hb)
  clear hb
  have c0 := D1.out.c0; have c1 := D1.out.c1; have c2 := D1.out.c2
  have z1 : 1 < w1.heap.size := by have := B1.out.size; omega
  go_wp2_with fail
  refine (valid_not _ (HL.out _ B1.out).lens (by omega) H.out).mono ?_
  rintro e w2 ⟨rfl, hb⟩
  have B2 := Lib.hid (B1.out.trans (hb.mono B1.out.size))
  have D2 := Lib.hid (D1.out.below hb)
  have z2 : 1 < w2.heap.size := by have := B2.out.size; omega
  clear hb c0 c1 c2
  have c0 := D2.out.c0; have c1 := D2.out.c1; have c2 := D2.out.c2
  go_wp2_with fail
  refine (text_no _ (HL.out _ B2.out).lens (by omega) H.out).mono ?_
  rintro e w3 ⟨rfl, hb⟩
  have B3 := Lib.hid (B2.out.trans (hb.mono B2.out.size))
  clear hb c0 c1 c2
  go_wp2_with fail
  refine (of_out _ HO.out).mono ?_
  rintro e x1 ⟨rfl, hb⟩
  have X1 := Lib.hid (B3.out.trans (hb.mono B3.out.size))
  have X1a := Lib.hid (X1.out.alloc X1.out.size (.cells #[.int .i64 0, .int .i64 0, .int .i64 0] 23))
  clear hb
  go_wp2_with fail
  refine (goes_any _ (HL.out _ X1a.out)).mono ?_
  rintro e x3 ⟨rfl, hb⟩
  have X3 := Lib.hid (X1a.out.trans (hb.mono X1a.out.size))
  clear hb
  go_wp2_with fail
  go_ret
  exact ⟨rfl, X3.out⟩

theorem civilBack_walk (y m d z : Int) (w : World) (hw : Lw w) (_hd : (Lit.int .i64 y).wf = true ∧ (Lit.int .i64 m).wf = true ∧ (Lit.int .i64 d).wf = true) (_hq : (Lit.int .i64 z).wf = true) :
    Calls Tryd.prog 5 #[.agg #[.int .i64 y, .int .i64 m, .int .i64 d], .int .i64 z] w fun e w' => e = .returned (.bool true) ∧ Below w.heap.size w w' := by
  by_cases hz : -719162 ≤ z ∧ z ≤ 2932896
  · obtain ⟨y', m', d', hv2, rfl⟩ := num_has hz.1 hz.2
    cases h : vldB y m d with
    | true => exact back_yi y m d y' m' d' hv2 w hw h
    | false => exact back_ni y m d y' m' d' hv2 w hw h
  · have hz' : z < -719162 ∨ 2932896 < z := by omega
    cases h : vldB y m d with
    | true => exact back_yo y m d z hz' w hw h
    | false => exact back_no y m d z hz' w hw h
end Go.Proofs.YtlfkafcmdndlgaaDoor
