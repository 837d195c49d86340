import Derived.Test.YtnaoodaadeimbaaPn13
import Derived.BigQuiet
namespace Go.Proofs.Ytnaoodaadeimbaa
set_option linter.unusedVariables false
set_option linter.unusedSimpArgs false
set_option maxRecDepth 8000
open Go.RowKit Mem Mo Ti Pl
set_option maxRecDepth 100000 in
set_option maxHeartbeats 4000000 in
theorem planKnown_walk (w : World) : Calls Try.prog 8 #[] w fun e w' => e = .returned (.bool true) ∧ Below w.heap.size w w' := by
  have G := Lib.hid (fun W => goes_any W)
  have KN := Lib.hid (fun W => known_any W)
  have B0 := Lib.hid (Below.refl w.heap.size w)
  go_enter Try.func8, Try.ntmps8
  go_wp2_with fail
  refine (KN.out _).mono ?_
  rintro e w1 ⟨A1, rfl, hr1, hb⟩
  simp only [plv, P7]
  obtain ⟨W1, hW1⟩ : ∃ W1, w1.alloc (.cells #[.int .u32 7, .int .i64 10, .int .i64 100, .int .i64 5, .int .i64 20, .int .i64 1000, .slice A1 1 1] 25) = W1 := ⟨_, rfl⟩
  have V1 : VN W1 w1.heap.size [.int .u32 7, .int .i64 10, .int .i64 100, .int .i64 5, .int .i64 20, .int .i64 1000, .slice A1 1 1] := by rw [← hW1]; exact VN.new w1 #[.int .u32 7, .int .i64 10, .int .i64 100, .int .i64 5, .int .i64 20, .int .i64 1000, .slice A1 1 1] 25
  have hb1 : Below w1.heap.size w1 W1 := by rw [← hW1]; exact (Below.refl _ _).alloc (Nat.le_refl _) _
  have B1 := Lib.hid (hb.trans (hb1.mono hb.size))
  have R1 := Lib.hid ((hr1.below hb1).more hb1.size)
  have HV1 := Lib.hid V1
  have CR := Lib.hid (fun W (r : Int) (h : Below W1.heap.size W1 W) => (show Calls Try.prog 18 #[.agg #[.int .u32 7, .int .i64 10, .int .i64 100, .int .i64 5, .int .i64 20, .int .i64 1000, .slice A1 1 1], .int .i64 r] W fun e w' => e = .returned (.tuple #[.int .i64 (rom P7 r), .int .i64 (rer P7 r)]) ∧ Below W.heap.size W w' from Room_any P7 A1 1 r W W1.heap.size (R1.out.below h) h.size (by decide)))
  have CC := Lib.hid (fun W (r : Int) (h : -9223372036854775808 ≤ r ∧ r ≤ 9223372036854775807) => (show Calls Try.prog 17 #[.agg #[.int .u32 7, .int .i64 10, .int .i64 100, .int .i64 5, .int .i64 20, .int .i64 1000, .slice A1 1 1], .int .i64 r] W fun e w' => e = .returned (.int .i64 (car 100 r)) ∧ Below W.heap.size W w' from Carry_any P7 A1 1 r W (by decide) h))
  have CG := Lib.hid (fun W => (show Calls Try.prog 14 #[.slice none 0 0] W fun e w' => e = .returned (.tuple #[.agg #[.int .u32 0, .int .i64 0, .int .i64 0, .int .i64 0, .int .i64 0, .int .i64 0, .slice none 0 0], .int .i64 21]) ∧ Below W.heap.size W w' from
    (Get_any none 0 [] W (Rd.nil _ _) (by simp)).mono (fun e w' ⟨hb, hh⟩ => by
      rcases hh with ⟨hn, _⟩ | ⟨_, rfl⟩
      · have := hn.len; simp at this; omega
      · exact ⟨rfl, hb⟩)))
  have CP := Lib.hid (fun W => (show Calls Try.prog 9 #[.agg #[.int .u32 1, .int .i64 0, .int .i64 0, .int .i64 0, .int .i64 0, .int .i64 0, .slice none 0 0]] W fun e w' => e = .returned (.tuple #[.slice none 0 0, .int .i64 1]) ∧ Below W.heap.size W w' from
    Put_no (PI 1) none 0 W W.heap.size (RdT.nil _ _ _ _) (Nat.le_refl _) (by decide) (may_PI 1)))
  have d0 := V1.c 0 _ rfl; have d1 := V1.c 1 _ rfl; have d2 := V1.c 2 _ rfl; have d3 := V1.c 3 _ rfl; have d4 := V1.c 4 _ rfl; have d5 := V1.c 5 _ rfl; have d6 := V1.c 6 _ rfl
  clear hb hb1 hr1 V1
  go_wp2_with fail
  refine (CR.out _ _ (Below.refl _ _)).mono ?_
  rintro e w2 ⟨rfl, hb⟩
  rw [show rom P7 5 = 105 by decide, show rer P7 5 = 0 by decide]
  have X2 := Lib.hid hb
  have V2 := HV1.out.bel hb
  clear d0 d1 d2 d3 d4 d5 d6 hb
  have d0 := V2.c 0 _ rfl; have d1 := V2.c 1 _ rfl; have d2 := V2.c 2 _ rfl; have d3 := V2.c 3 _ rfl; have d4 := V2.c 4 _ rfl; have d5 := V2.c 5 _ rfl; have d6 := V2.c 6 _ rfl
  clear V2
  go_wp2_with fail
  refine (CR.out _ _ X2.out).mono ?_
  rintro e w3 ⟨rfl, hb⟩
  rw [show rom P7 (-1) = 0 by decide, show rer P7 (-1) = 1 by decide]
  have X3 := Lib.hid (X2.out.trans (hb.mono X2.out.size))
  clear d0 d1 d2 d3 d4 d5 d6 hb
  go_wp2_with fail
  refine (CG.out _).mono ?_
  rintro e w4 ⟨rfl, hb⟩
  have X4 := Lib.hid ((X3.out.trans (hb.mono X3.out.size)).alloc (Nat.le_trans X3.out.size hb.size) (.cells #[.int .u32 0, .int .i64 0, .int .i64 0, .int .i64 0, .int .i64 0, .int .i64 0, .slice none 0 0] 25))
  clear hb
  go_wp2_with fail
  refine (CP.out _).mono ?_
  rintro e w5 ⟨rfl, hb⟩
  have X5 := Lib.hid (X4.out.trans (hb.mono X4.out.size))
  clear hb
  go_wp2_with fail
  refine (KN.out _).mono ?_
  rintro e w6 ⟨A6, rfl, hr6, hb⟩
  simp only [plv, P7]
  have X6 := Lib.hid (X5.out.trans (hb.mono X5.out.size))
  have R6 := Lib.hid hr6
  have Y6 := Lib.hid hb
  clear hb hr6
  go_wp2_with fail
  refine (KN.out _).mono ?_
  rintro e w7 ⟨A7, rfl, hr7, hb⟩
  simp only [plv, P7]
  have X7 := Lib.hid (X6.out.trans (hb.mono X6.out.size))
  have R7 := Lib.hid hr7
  have Y7 := Lib.hid hb
  clear hb hr7
  go_wp2_with fail
  refine (KN.out _).mono ?_
  rintro e w8 ⟨A8, rfl, hr8, hb⟩
  simp only [plv, P7]
  have X8 := Lib.hid (X7.out.trans (hb.mono X7.out.size))
  have R8 := Lib.hid hr8
  have Y8 := Lib.hid hb
  clear hb hr8
  go_wp2_with fail
  refine (KN.out _).mono ?_
  rintro e w9 ⟨A9, rfl, hr9, hb⟩
  simp only [plv, P7]
  have X9 := Lib.hid (X8.out.trans (hb.mono X8.out.size))
  have R9 := Lib.hid hr9
  have Y9 := Lib.hid hb
  clear hb hr9
  go_wp2_with fail
  refine (KN.out _).mono ?_
  rintro e w10 ⟨A10, rfl, hr10, hb⟩
  simp only [plv, P7]
  have X10 := Lib.hid (X9.out.trans (hb.mono X9.out.size))
  have R10 := Lib.hid hr10
  have Y10 := Lib.hid hb
  clear hb hr10
  go_wp2_with fail
  refine (KN.out _).mono ?_
  rintro e w11 ⟨A11, rfl, hr11, hb⟩
  simp only [plv, P7]
  have X11 := Lib.hid (X10.out.trans (hb.mono X10.out.size))
  have R11 := Lib.hid hr11
  have Y11 := Lib.hid hb
  clear hb hr11
  go_wp2_with fail
  refine (KN.out _).mono ?_
  rintro e w12 ⟨A12, rfl, hr12, hb⟩
  simp only [plv, P7]
  have X12 := Lib.hid (X11.out.trans (hb.mono X11.out.size))
  have R12 := Lib.hid hr12
  have Y12 := Lib.hid hb
  clear hb hr12
  go_wp2_with fail
  have Z12 := Lib.hid (Below.refl w12.heap.size w12)
  have Z11 := Lib.hid (Y12.out.trans (Z12.out.mono Y12.out.size))
  have Z10 := Lib.hid (Y11.out.trans (Z11.out.mono Y11.out.size))
  have Z9 := Lib.hid (Y10.out.trans (Z10.out.mono Y10.out.size))
  have Z8 := Lib.hid (Y9.out.trans (Z9.out.mono Y9.out.size))
  have Z7 := Lib.hid (Y8.out.trans (Z8.out.mono Y8.out.size))
  have Z6 := Lib.hid (Y7.out.trans (Z7.out.mono Y7.out.size))
  obtain ⟨Wb, hWb⟩ : ∃ Wb, w12.alloc (.cells #[.int .u32 0, .int .i64 10, .int .i64 100, .int .i64 5, .int .i64 20, .int .i64 1000, .slice A6 1 1, .int .u32 7, .int .i64 (-1), .int .i64 100, .int .i64 5, .int .i64 20, .int .i64 1000, .slice A7 1 1, .int .u32 7, .int .i64 10, .int .i64 1099511627777, .int .i64 5, .int .i64 20, .int .i64 1000, .slice A8 1 1, .int .u32 7, .int .i64 10, .int .i64 100, .int .i64 5, .int .i64 20, .int .i64 1125899906842625, .slice A9 1 1, .int .u32 7, .int .i64 10, .int .i64 100, .int .i64 5, .int .i64 20, .int .i64 1000, .slice none 0 0, .int .u32 7, .int .i64 10, .int .i64 100, .int .i64 (-1), .int .i64 20, .int .i64 1000, .slice A11 1 1, .int .u32 7, .int .i64 10, .int .i64 100, .int .i64 5, .int .i64 (-5), .int .i64 1000, .slice A12 1 1] 25) = Wb := ⟨_, rfl⟩
  have VB : VN Wb w12.heap.size [.int .u32 0, .int .i64 10, .int .i64 100, .int .i64 5, .int .i64 20, .int .i64 1000, .slice A6 1 1, .int .u32 7, .int .i64 (-1), .int .i64 100, .int .i64 5, .int .i64 20, .int .i64 1000, .slice A7 1 1, .int .u32 7, .int .i64 10, .int .i64 1099511627777, .int .i64 5, .int .i64 20, .int .i64 1000, .slice A8 1 1, .int .u32 7, .int .i64 10, .int .i64 100, .int .i64 5, .int .i64 20, .int .i64 1125899906842625, .slice A9 1 1, .int .u32 7, .int .i64 10, .int .i64 100, .int .i64 5, .int .i64 20, .int .i64 1000, .slice none 0 0, .int .u32 7, .int .i64 10, .int .i64 100, .int .i64 (-1), .int .i64 20, .int .i64 1000, .slice A11 1 1, .int .u32 7, .int .i64 10, .int .i64 100, .int .i64 5, .int .i64 (-5), .int .i64 1000, .slice A12 1 1] := by rw [← hWb]; exact VN.new w12 #[.int .u32 0, .int .i64 10, .int .i64 100, .int .i64 5, .int .i64 20, .int .i64 1000, .slice A6 1 1, .int .u32 7, .int .i64 (-1), .int .i64 100, .int .i64 5, .int .i64 20, .int .i64 1000, .slice A7 1 1, .int .u32 7, .int .i64 10, .int .i64 1099511627777, .int .i64 5, .int .i64 20, .int .i64 1000, .slice A8 1 1, .int .u32 7, .int .i64 10, .int .i64 100, .int .i64 5, .int .i64 20, .int .i64 1125899906842625, .slice A9 1 1, .int .u32 7, .int .i64 10, .int .i64 100, .int .i64 5, .int .i64 20, .int .i64 1000, .slice none 0 0, .int .u32 7, .int .i64 10, .int .i64 100, .int .i64 (-1), .int .i64 20, .int .i64 1000, .slice A11 1 1, .int .u32 7, .int .i64 10, .int .i64 100, .int .i64 5, .int .i64 (-5), .int .i64 1000, .slice A12 1 1] 25
  have hbb : Below w12.heap.size w12 Wb := by rw [← hWb]; exact (Below.refl _ _).alloc (Nat.le_refl _) _
  have BAD : Hid (∀ k, k < 7 → ∃ (Q : Pln) (A : Option Addr), (Wb.cell? ⟨w12.heap.size, k * 7, none⟩ = some (.int .u32 Q.i) ∧ Wb.cell? ⟨w12.heap.size, k * 7 + 1, none⟩ = some (.int .i64 Q.dy) ∧ Wb.cell? ⟨w12.heap.size, k * 7 + 2, none⟩ = some (.int .i64 Q.mo) ∧ Wb.cell? ⟨w12.heap.size, k * 7 + 3, none⟩ = some (.int .i64 Q.ov) ∧ Wb.cell? ⟨w12.heap.size, k * 7 + 4, none⟩ = some (.int .i64 Q.ro) ∧ Wb.cell? ⟨w12.heap.size, k * 7 + 5, none⟩ = some (.int .i64 Q.ba) ∧ Wb.cell? ⟨w12.heap.size, k * 7 + 6, none⟩ = some (.slice A Q.n Q.n)) ∧ RdT Wb Wb.heap.size A Q.n Q.u Q.p Q.n ∧ may Q = false ∧ 0 ≤ Q.i) := by
    refine Lib.hid fun k hk => ?_
    have hk7 : k = 0 ∨ k = 1 ∨ k = 2 ∨ k = 3 ∨ k = 4 ∨ k = 5 ∨ k = 6 := by omega
    rcases hk7 with rfl | rfl | rfl | rfl | rfl | rfl | rfl
    · exact ⟨⟨0, 10, 100, 5, 20, 1000, 1, P7.u, P7.p⟩, A6, ⟨VB.c 0 _ rfl, VB.c 1 _ rfl, VB.c 2 _ rfl, VB.c 3 _ rfl, VB.c 4 _ rfl, VB.c 5 _ rfl, VB.c 6 _ rfl⟩, ((R6.out.below (Z6.out.trans (hbb.mono Z6.out.size))).more (Nat.le_trans Z6.out.size hbb.size)), by decide, by decide⟩
    · exact ⟨⟨7, (-1), 100, 5, 20, 1000, 1, P7.u, P7.p⟩, A7, ⟨VB.c 7 _ rfl, VB.c 8 _ rfl, VB.c 9 _ rfl, VB.c 10 _ rfl, VB.c 11 _ rfl, VB.c 12 _ rfl, VB.c 13 _ rfl⟩, ((R7.out.below (Z7.out.trans (hbb.mono Z7.out.size))).more (Nat.le_trans Z7.out.size hbb.size)), by decide, by decide⟩
    · exact ⟨⟨7, 10, 1099511627777, 5, 20, 1000, 1, P7.u, P7.p⟩, A8, ⟨VB.c 14 _ rfl, VB.c 15 _ rfl, VB.c 16 _ rfl, VB.c 17 _ rfl, VB.c 18 _ rfl, VB.c 19 _ rfl, VB.c 20 _ rfl⟩, ((R8.out.below (Z8.out.trans (hbb.mono Z8.out.size))).more (Nat.le_trans Z8.out.size hbb.size)), by decide, by decide⟩
    · exact ⟨⟨7, 10, 100, 5, 20, 1125899906842625, 1, P7.u, P7.p⟩, A9, ⟨VB.c 21 _ rfl, VB.c 22 _ rfl, VB.c 23 _ rfl, VB.c 24 _ rfl, VB.c 25 _ rfl, VB.c 26 _ rfl, VB.c 27 _ rfl⟩, ((R9.out.below (Z9.out.trans (hbb.mono Z9.out.size))).more (Nat.le_trans Z9.out.size hbb.size)), by decide, by decide⟩
    · exact ⟨⟨7, 10, 100, 5, 20, 1000, 0, P7.u, P7.p⟩, none, ⟨VB.c 28 _ rfl, VB.c 29 _ rfl, VB.c 30 _ rfl, VB.c 31 _ rfl, VB.c 32 _ rfl, VB.c 33 _ rfl, VB.c 34 _ rfl⟩, RdT.nil _ _ _ _, by decide, by decide⟩
    · exact ⟨⟨7, 10, 100, (-1), 20, 1000, 1, P7.u, P7.p⟩, A11, ⟨VB.c 35 _ rfl, VB.c 36 _ rfl, VB.c 37 _ rfl, VB.c 38 _ rfl, VB.c 39 _ rfl, VB.c 40 _ rfl, VB.c 41 _ rfl⟩, ((R11.out.below (Z11.out.trans (hbb.mono Z11.out.size))).more (Nat.le_trans Z11.out.size hbb.size)), by decide, by decide⟩
    · exact ⟨⟨7, 10, 100, 5, (-5), 1000, 1, P7.u, P7.p⟩, A12, ⟨VB.c 42 _ rfl, VB.c 43 _ rfl, VB.c 44 _ rfl, VB.c 45 _ rfl, VB.c 46 _ rfl, VB.c 47 _ rfl, VB.c 48 _ rfl⟩, ((R12.out.below (Z12.out.trans (hbb.mono Z12.out.size))).more (Nat.le_trans Z12.out.size hbb.size)), by decide, by decide⟩
  have hlt : w12.heap.size < Wb.heap.size := VB.lt
  have XB := Lib.hid (X12.out.trans (hbb.mono X12.out.size))
  clear VB hbb R6 R7 R8 R9 R10 R11 R12 Z6 Z7 Z8 Z9 Z10 Z11 Z12 Y6 Y7 Y8 Y9 Y10 Y11 Y12
  rw [hWb]
  clear hWb
  go_loopw [11] (fun iv wr => ∃ k : Nat, k ≤ 7 ∧ iv = .int .i64 k ∧ Hid (Below Wb.heap.size Wb wr)) (fun iv _ => 7 - (intOf iv).toNat)
  case atStart => exact ⟨0, by omega, rfl, Lib.hid (Below.refl _ _)⟩
  case round =>
    obtain ⟨k, hk, rfl, HX⟩ := hrel
    by_cases hk7 : k < 7
    · obtain ⟨Q, A, ⟨e0, e1, e2, e3, e4, e5, e6⟩, hrt, hmay, hqi⟩ := BAD.out k hk7
      have f0 := (HX.out.cell (p := ⟨w12.heap.size, k * 7, none⟩) hlt).trans e0
      have f1 := (HX.out.cell (p := ⟨w12.heap.size, k * 7 + 1, none⟩) hlt).trans e1
      have f2 := (HX.out.cell (p := ⟨w12.heap.size, k * 7 + 2, none⟩) hlt).trans e2
      have f3 := (HX.out.cell (p := ⟨w12.heap.size, k * 7 + 3, none⟩) hlt).trans e3
      have f4 := (HX.out.cell (p := ⟨w12.heap.size, k * 7 + 4, none⟩) hlt).trans e4
      have f5 := (HX.out.cell (p := ⟨w12.heap.size, k * 7 + 5, none⟩) hlt).trans e5
      have f6 := (HX.out.cell (p := ⟨w12.heap.size, k * 7 + 6, none⟩) hlt).trans e6
      have CK := Lib.hid (show Calls Try.prog 11 #[.agg #[.int .u32 Q.i, .int .i64 Q.dy, .int .i64 Q.mo, .int .i64 Q.ov, .int .i64 Q.ro, .int .i64 Q.ba, .slice A Q.n Q.n]] wr fun e w' => e = .returned (.bool false) ∧ Below wr.heap.size wr w' from by
        have := Check_any Q A Q.n wr wr.heap.size ((hrt.below HX.out).more HX.out.size) (Nat.le_refl _) hqi
        rw [hmay] at this
        exact this)
      clear e0 e1 e2 e3 e4 e5 e6 hrt hmay hqi
      go_wp2_with fail
      refine CK.out.mono ?_
      rintro e wq ⟨rfl, hb⟩
      have HX2 := Lib.hid (HX.out.trans (hb.mono HX.out.size))
      clear hb f0 f1 f2 f3 f4 f5 f6
      go_wp2_with fail
      go_roundw
      case rel => exact ⟨k + 1, by omega, by go_num, HX2⟩
      case measure => simp [intOf]; omega
    · obtain rfl : k = 7 := by omega
      have XR := Lib.hid (XB.out.trans (HX.out.mono XB.out.size))
      have V1 := HV1.out.bel XR.out
      have d0 := V1.c 0 _ rfl; have d1 := V1.c 1 _ rfl; have d2 := V1.c 2 _ rfl; have d3 := V1.c 3 _ rfl; have d4 := V1.c 4 _ rfl; have d5 := V1.c 5 _ rfl; have d6 := V1.c 6 _ rfl
      clear V1
      go_wp2_with fail
      refine (CC.out _ 130 (by decide)).mono ?_
      rintro e wq ⟨rfl, hb⟩
      rw [show car 100 130 = 0 by decide]
      have XS := Lib.hid (XR.out.trans (hb.mono XR.out.size))
      have V1 := HV1.out.bel XS.out
      clear d0 d1 d2 d3 d4 d5 d6 hb
      have d0 := V1.c 0 _ rfl; have d1 := V1.c 1 _ rfl; have d2 := V1.c 2 _ rfl; have d3 := V1.c 3 _ rfl; have d4 := V1.c 4 _ rfl; have d5 := V1.c 5 _ rfl; have d6 := V1.c 6 _ rfl
      clear V1
      go_wp2_with fail
      refine (CC.out _ (-5) (by decide)).mono ?_
      rintro e wp ⟨rfl, hb⟩
      rw [show car 100 (-5) = 100 by decide]
      have XT := Lib.hid (XS.out.trans (hb.mono XS.out.size))
      clear d0 d1 d2 d3 d4 d5 d6 hb
      go_wp2_with fail
      refine (G.out _).mono ?_
      rintro e wg ⟨rfl, hb⟩
      have XU := Lib.hid (XT.out.trans (hb.mono XT.out.size))
      clear hb
      go_wp2_with fail
      go_ret
      exact ⟨rfl, B1.out.trans (XU.out.mono B1.out.size)⟩
end Go.Proofs.Ytnaoodaadeimbaa
