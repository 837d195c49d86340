import Derived.Test.YtnaoodaadeimbaaPn13
import Derived.Test.YtnaoodaadeimbaaPn10
import Derived.BigQuiet
import Derived.Deep.RegionHeld
namespace Go.Proofs.Ytnaoodaadeimbaa
set_option linter.unusedVariables false
set_option linter.unusedSimpArgs false
set_option maxRecDepth 8000
open Go.RowKit Mem Mo Ti Pl
theorem u32_bd {x : Int} (h : (Lit.int .u32 x).wf = true) : 0 ≤ x ∧ x ≤ 4294967295 := by
  simpa [Lit.wf, IntKind.min, IntKind.max, IntKind.bits, IntKind.signed] using h
theorem rdP {w W : World} {A : Option Addr} {c n : Nat} {u p : Nat → Int} (h : RdT w w.heap.size A c u p n) (hb : Below w.heap.size w W) : RdT W w.heap.size A c u p n := h.below hb
set_option maxRecDepth 100000 in
set_option maxHeartbeats 4000000 in
theorem planPuts_walk (i x1 x2 x3 x4 x5 : Int) (A : Option Addr) (len c : Nat) (f : Nat → Nat → Value) (w : World)
    (hb : (Lit.int .u32 i).wf = true ∧ (Lit.int .i64 x1).wf = true ∧ (Lit.int .i64 x2).wf = true ∧ (Lit.int .i64 x3).wf = true ∧ (Lit.int .i64 x4).wf = true ∧ (Lit.int .i64 x5).wf = true) {fs : Array Field} (hu : Try.prog.underlying 58 = some (.struct fs)) (hf : Structs Try.prog w w.heap.size fs A len c f) :
    Calls Try.prog 3 #[.agg #[.int .u32 i, .int .i64 x1, .int .i64 x2, .int .i64 x3, .int .i64 x4, .int .i64 x5, .slice A len c]] w fun e w' => e = .returned (.bool true) ∧ Below w.heap.size w w' := by
  obtain ⟨u, p, hr, hn⟩ := tiers_of hu hf
  obtain ⟨b0, b1, b2, b3, b4, b5⟩ := hb
  have bi := u32_bd b0
  have k2 := i64_bd b2
  clear b0 b1 b2 b3 b4 b5 hu hf hn
  have G := Lib.hid (fun W => goes_any W)
  obtain ⟨W0, hW0⟩ : ∃ W0, w.alloc (.cells #[.int .u32 i, .int .i64 x1, .int .i64 x2, .int .i64 x3, .int .i64 x4, .int .i64 x5, .slice A len c] 25) = W0 := ⟨_, rfl⟩
  have V0 : VN W0 w.heap.size [.int .u32 i, .int .i64 x1, .int .i64 x2, .int .i64 x3, .int .i64 x4, .int .i64 x5, .slice A len c] := by rw [← hW0]; exact VN.new w #[.int .u32 i, .int .i64 x1, .int .i64 x2, .int .i64 x3, .int .i64 x4, .int .i64 x5, .slice A len c] 25
  have hb0 : Below w.heap.size w W0 := by rw [← hW0]; exact (Below.refl _ _).alloc (Nat.le_refl _) _
  have HV := Lib.hid V0
  have B0 := Lib.hid hb0
  have CK := Lib.hid (fun W (h : Below w.heap.size w W) => (show Calls Try.prog 11 #[.agg #[.int .u32 i, .int .i64 x1, .int .i64 x2, .int .i64 x3, .int .i64 x4, .int .i64 x5, .slice A len c]] W fun e w' => e = .returned (.bool (may (⟨i, x1, x2, x3, x4, x5, len, u, p⟩ : Pln))) ∧ Below W.heap.size W w' from Check_any (⟨i, x1, x2, x3, x4, x5, len, u, p⟩ : Pln) A c W w.heap.size (hr.below h) h.size bi.1))
  have CR := Lib.hid (fun W (h : Below w.heap.size w W) => (show Calls Try.prog 10 #[.agg #[.int .u32 i, .int .i64 x1, .int .i64 x2, .int .i64 x3, .int .i64 x4, .int .i64 x5, .slice A len c]] W fun e w' => e = .returned (.bool (may (⟨i, x1, x2, x3, x4, x5, len, u, p⟩ : Pln))) ∧ Below W.heap.size W w' from RPCheck_any (⟨i, x1, x2, x3, x4, x5, len, u, p⟩ : Pln) A c W w.heap.size (hr.below h) h.size))
  have d0 := V0.c 0 _ rfl
  have d1 := V0.c 1 _ rfl
  have d2 := V0.c 2 _ rfl
  have d3 := V0.c 3 _ rfl
  have d4 := V0.c 4 _ rfl
  have d5 := V0.c 5 _ rfl
  have d6 := V0.c 6 _ rfl
  by_cases h20 : 20 < len
  · have z1 : (20 < (len : Int)) = True := by simp; omega
    clear h20 hr CK CR V0 hb0 k2 bi
    go_enter Try.func3, Try.ntmps3
    go_wp2_with fail
    go_ret
    exact ⟨rfl, B0.out⟩
  have z1 : (20 < (len : Int)) = False := by simp; omega
  cases hmay : may (⟨i, x1, x2, x3, x4, x5, len, u, p⟩ : Pln) with
  | false =>
    rw [hmay] at CK CR
    have CP := Lib.hid (fun W (h : Below w.heap.size w W) => (show Calls Try.prog 9 #[.agg #[.int .u32 i, .int .i64 x1, .int .i64 x2, .int .i64 x3, .int .i64 x4, .int .i64 x5, .slice A len c]] W fun e w' => e = .returned (.tuple #[.slice none 0 0, .int .i64 1]) ∧ Below W.heap.size W w' from Put_no (⟨i, x1, x2, x3, x4, x5, len, u, p⟩ : Pln) A c W w.heap.size (hr.below h) h.size bi.1 hmay))
    clear hr hmay h20 V0 hb0 k2 bi
    go_enter Try.func3, Try.ntmps3
    go_wp2_with fail
    refine (CP.out _ B0.out).mono ?_
    rintro e w1 ⟨rfl, hb⟩
    have B1 := Lib.hid (B0.out.trans (hb.mono B0.out.size))
    have V1 := HV.out.bel hb
    have HV1 := Lib.hid V1
    clear d0 d1 d2 d3 d4 d5 d6 hb
    have d0 := V1.c 0 _ rfl; have d1 := V1.c 1 _ rfl; have d2 := V1.c 2 _ rfl; have d3 := V1.c 3 _ rfl; have d4 := V1.c 4 _ rfl; have d5 := V1.c 5 _ rfl; have d6 := V1.c 6 _ rfl
    clear V1
    go_wp2_with fail
    refine (CR.out _ B1.out).mono ?_
    rintro e w2 ⟨rfl, hb⟩
    have B2 := Lib.hid (B1.out.trans (hb.mono B1.out.size))
    have V2 := HV1.out.bel hb
    clear d0 d1 d2 d3 d4 d5 d6 hb
    have d0 := V2.c 0 _ rfl; have d1 := V2.c 1 _ rfl; have d2 := V2.c 2 _ rfl; have d3 := V2.c 3 _ rfl; have d4 := V2.c 4 _ rfl; have d5 := V2.c 5 _ rfl; have d6 := V2.c 6 _ rfl
    clear V2
    go_wp2_with fail
    refine (CK.out _ B2.out).mono ?_
    rintro e w3 ⟨rfl, hb⟩
    have B3 := Lib.hid (B2.out.trans (hb.mono B2.out.size)); clear hb
    go_wp2_with fail
    refine (G.out _).mono ?_
    rintro e w4 ⟨rfl, hb⟩
    have B4 := Lib.hid (B3.out.trans (hb.mono B3.out.size)); clear hb
    go_wp2_with fail
    go_ret
    exact ⟨rfl, B4.out⟩
  | true =>
    rw [hmay] at CK CR
    have CP := Lib.hid (fun W (h : Below w.heap.size w W) => (show Calls Try.prog 9 #[.agg #[.int .u32 i, .int .i64 x1, .int .i64 x2, .int .i64 x3, .int .i64 x4, .int .i64 x5, .slice A len c]] W fun e w' => ∃ A' n, e = .returned (.tuple #[.slice A' (Pl.bytes (⟨i, x1, x2, x3, x4, x5, len, u, p⟩ : Pln)).length n, .int .i64 0]) ∧ Rd w' w'.heap.size A' n (Pl.bytes (⟨i, x1, x2, x3, x4, x5, len, u, p⟩ : Pln)) ∧ Below W.heap.size W w' from Put_ok (⟨i, x1, x2, x3, x4, x5, len, u, p⟩ : Pln) A c W w.heap.size (hr.below h) h.size bi ((may_iff _).1 hmay)))
    have CQ := Lib.hid (fun W (h : Below w.heap.size w W) => (show Calls Try.prog 13 #[.agg #[.int .u32 i, .int .i64 x1, .int .i64 x2, .int .i64 x3, .int .i64 x4, .int .i64 x5, .slice A len c]] W fun e w' => ∃ v, e = .returned v ∧ Mem.Own 5 w' W.heap.size v (Pl.bytes (⟨i, x1, x2, x3, x4, x5, len, u, p⟩ : Pln)) ∧ Below W.heap.size W w' from RPut_any (⟨i, x1, x2, x3, x4, x5, len, u, p⟩ : Pln) A c W w.heap.size (hr.below h) h.size bi (by show len ≤ 1000; omega)))
    obtain ⟨L, hL⟩ : ∃ L, Pl.bytes (⟨i, x1, x2, x3, x4, x5, len, u, p⟩ : Pln) = L := ⟨_, rfl⟩
    rw [hL] at CP CQ
    have hse : (str L == str L) = true := by
      first | exact BEq.rfl | exact beq_self_eq_true _ | exact decide_eq_true rfl | (cases str L; rename_i d; show (d == d) = true; simp)
    clear hr hmay h20 V0 hb0 k2 bi hL
    go_enter Try.func3, Try.ntmps3
    go_wp2_with fail
    refine (CP.out _ B0.out).mono ?_
    rintro e w1 ⟨A1, n1, rfl, hrd, hb⟩
    have B1 := Lib.hid (B0.out.trans (hb.mono B0.out.size))
    have V1 := HV.out.bel hb
    have HV1 := Lib.hid V1
    have HRd := Lib.hid hrd
    clear d0 d1 d2 d3 d4 d5 d6 hb hrd
    have d0 := V1.c 0 _ rfl; have d1 := V1.c 1 _ rfl; have d2 := V1.c 2 _ rfl; have d3 := V1.c 3 _ rfl; have d4 := V1.c 4 _ rfl; have d5 := V1.c 5 _ rfl; have d6 := V1.c 6 _ rfl
    clear V1
    go_wp2_with fail
    refine (CR.out _ B1.out).mono ?_
    rintro e w2 ⟨rfl, hb⟩
    have B2 := Lib.hid (B1.out.trans (hb.mono B1.out.size))
    have V2 := HV1.out.bel hb
    have HV2 := Lib.hid V2
    have HR2 := Lib.hid ((HRd.out.below hb).more hb.size)
    have cv := run_str_rd w2.drew (show Rd w2.drew w2.heap.size A1 n1 L from HR2.out)
    clear d0 d1 d2 d3 d4 d5 d6 hb
    have d0 := V2.c 0 _ rfl; have d1 := V2.c 1 _ rfl; have d2 := V2.c 2 _ rfl; have d3 := V2.c 3 _ rfl; have d4 := V2.c 4 _ rfl; have d5 := V2.c 5 _ rfl; have d6 := V2.c 6 _ rfl
    clear V2
    go_wp2_with fail
    go_region_held (fun w' => w'.cell? ⟨w.heap.size, 0, none⟩ = some (.int .u32 i) ∧ w'.cell? ⟨w.heap.size, 1, none⟩ = some (.int .i64 x1) ∧ w'.cell? ⟨w.heap.size, 2, none⟩ = some (.int .i64 x2) ∧ w'.cell? ⟨w.heap.size, 3, none⟩ = some (.int .i64 x3) ∧ w'.cell? ⟨w.heap.size, 4, none⟩ = some (.int .i64 x4) ∧ w'.cell? ⟨w.heap.size, 5, none⟩ = some (.int .i64 x5) ∧ w'.cell? ⟨w.heap.size, 6, none⟩ = some (.slice A len c) ∧ (convert 26 9 (.slice A1 L.length n1)).run Try.prog w' = .ok (.string (str L)) w')
      (first | exact ⟨d0, d1, d2, d3, d4, d5, d6, cv⟩ | exact ⟨j0, j1, j2, j3, j4, j5, j6, cj⟩ | exact ⟨k0, k1, k2, k3, k4, k5, k6, ck⟩ | exact ⟨m0, m1, m2, m3, m4, m5, m6, cm⟩)
      (first
        | (go_at_call 12; refine (G.out _).mono ?_; rintro e w5 ⟨rfl, hb⟩; have B5 := Lib.hid (B4.out.trans (hb.mono B4.out.size)); have V5 := HV4.out.bel hb; have m0 := V5.c 0 _ rfl; have m1 := V5.c 1 _ rfl; have m2 := V5.c 2 _ rfl; have m3 := V5.c 3 _ rfl; have m4 := V5.c 4 _ rfl; have m5 := V5.c 5 _ rfl; have m6 := V5.c 6 _ rfl; have cm := run_str_rd w5 (HR4.out.below hb); clear hb V5)
        | (go_at_call 13; refine (CQ.out _ B3.out).mono ?_; rintro e w4 ⟨v4, rfl, hown, hb⟩; have B4 := Lib.hid (B3.out.trans (hb.mono B3.out.size)); have V4 := HV3.out.bel hb; have HV4 := Lib.hid V4; have HR4 := Lib.hid ((HR3.out.below hb).more hb.size); have k0 := V4.c 0 _ rfl; have k1 := V4.c 1 _ rfl; have k2 := V4.c 2 _ rfl; have k3 := V4.c 3 _ rfl; have k4 := V4.c 4 _ rfl; have k5 := V4.c 5 _ rfl; have k6 := V4.c 6 _ rfl; have ck := run_str_rd w4 HR4.out; have cs := run_str_own w4 hown; clear hb V4 hown)
        | (go_at_call 11; refine (CK.out w2.drew (B2.out.drew)).mono ?_; rintro e w3 ⟨rfl, hb⟩; have B3 : Hid (Below w.heap.size w w3) := Lib.hid (B2.out.drew.trans (hb.mono B2.out.size)); have V3 : VN w3 w.heap.size [.int .u32 i, .int .i64 x1, .int .i64 x2, .int .i64 x3, .int .i64 x4, .int .i64 x5, .slice A len c] := HV2.out.drew.bel hb; have HV3 := Lib.hid V3; have HR3 : Hid (Rd w3 w3.heap.size A1 n1 L) := Lib.hid ((Rd.below (w := w2.drew) HR2.out hb).more hb.size); have j0 := V3.c 0 _ rfl; have j1 := V3.c 1 _ rfl; have j2 := V3.c 2 _ rfl; have j3 := V3.c 3 _ rfl; have j4 := V3.c 4 _ rfl; have j5 := V3.c 5 _ rfl; have j6 := V3.c 6 _ rfl; have cj := run_str_rd w3 HR3.out; clear hb V3))
    all_goals
      go_wp2_with fail
      go_ret
      exact ⟨rfl, B5.out⟩
end Go.Proofs.Ytnaoodaadeimbaa
