import Derived.Test.YtnaoodaadeimbaaPn9
import Derived.Test.YtnaoodaadeimbaaPn7
import Derived.BigQuiet
import Derived.Deep.RegionHeld3
namespace Go.Proofs.Ytnaoodaadeimbaa.Pl
set_option linter.unusedVariables false
set_option linter.unusedSimpArgs false
set_option maxRecDepth 8000
open Go.RowKit Mem Ti Mo
/-- The example's tiers, and its plan. -/
def kP : List (Int × Int) := [(0, 3)]
def P7 : Pln := ⟨7, 10, 100, 5, 20, 1000, 1, uOf kP, pOf kP⟩
theorem may_P7 : may P7 = true := by decide
theorem May_P7 : May P7 := (may_iff P7).1 may_P7
/-- A plan of an Id alone. -/
def PI (i : Int) : Pln := ⟨i, 0, 0, 0, 0, 0, 0, fun _ => 0, fun _ => 0⟩
theorem may_PI (i : Int) : may (PI i) = false := by
  have h : okB (fun _ => 0) (fun _ => 0) 0 = false := by decide
  unfold may PI; simp only [h, Bool.and_false]
theorem results_known (tmps : Array Value) (w : World) (x : Nat) (v0 v1 v2 v3 v4 v5 v6 : Value) (e1 : tmps[0]? = some (.pointer (some ⟨x, 0, none⟩)))
    (c0 : w.cell? ⟨x, 0, none⟩ = some v0) (c1 : w.cell? ⟨x, 1, none⟩ = some v1) (c2 : w.cell? ⟨x, 2, none⟩ = some v2) (c3 : w.cell? ⟨x, 3, none⟩ = some v3) (c4 : w.cell? ⟨x, 4, none⟩ = some v4) (c5 : w.cell? ⟨x, 5, none⟩ = some v5) (c6 : w.cell? ⟨x, 6, none⟩ = some v6) :
    (results Try.f19 tmps).run Try.prog w = .ok (.agg #[v0, v1, v2, v3, v4, v5, v6]) w := by
  simp [results, Try.results19, go_sem, e1, c0, c1, c2, c3, c4, c5, c6, Result.andThen]
set_option maxRecDepth 100000 in
set_option maxHeartbeats 1000000 in
theorem known_any (w : World) : Calls Try.prog 19 #[] w fun e w' => ∃ A, e = .returned (plv P7 A 1) ∧ RdT w' w'.heap.size A 1 P7.u P7.p 1 ∧ Below w.heap.size w w' := by
  have V0 := VN.new w #[.int .u32 0, .int .i64 0, .int .i64 0, .int .i64 0, .int .i64 0, .int .i64 0, .slice none 0 0] 25
  have HB := Lib.hid ((Below.refl w.heap.size w).alloc (Nat.le_refl _) (.cells #[.int .u32 0, .int .i64 0, .int .i64 0, .int .i64 0, .int .i64 0, .int .i64 0, .slice none 0 0] 25))
  have V1 := V0.alloc (.cells #[.int .i64 0, .int .i64 3] 58)
  have hs : (w.alloc (.cells #[.int .u32 0, .int .i64 0, .int .i64 0, .int .i64 0, .int .i64 0, .int .i64 0, .slice none 0 0] 25)).heap.size = w.heap.size + 1 := by simp
  have hr := RdT.lit (w.alloc (.cells #[.int .u32 0, .int .i64 0, .int .i64 0, .int .i64 0, .int .i64 0, .int .i64 0, .slice none 0 0] 25)) kP (by decide) 58
  rw [hs] at hr
  have HR := Lib.hid hr
  have HV := Lib.hid V1
  have zf := V1.z
  have c0 := V1.c 0 _ rfl
  have c1 := V1.c 1 _ rfl
  have c2 := V1.c 2 _ rfl
  have c3 := V1.c 3 _ rfl
  have c4 := V1.c 4 _ rfl
  have c5 := V1.c 5 _ rfl
  have c6 := V1.c 6 _ rfl
  clear V0 V1 hr hs
  go_enter Try.func19, Try.ntmps19
  go_wp2_with fail
  have W1 := (VN.new w #[.int .u32 7, .int .i64 10, .int .i64 100, .int .i64 5, .int .i64 20, .int .i64 1000, .slice (some ⟨w.heap.size + 1, 0, none⟩) 1 1] 25).alloc (.cells #[.int .i64 0, .int .i64 3] 58)
  refine bodyPost_ret (results_known _ _ w.heap.size _ _ _ _ _ _ _ rfl (W1.c 0 _ rfl) (W1.c 1 _ rfl) (W1.c 2 _ rfl) (W1.c 3 _ rfl) (W1.c 4 _ rfl) (W1.c 5 _ rfl) (W1.c 6 _ rfl)) rfl ?_
  refine ⟨some ⟨w.heap.size + 1, 0, none⟩, rfl, ?_, ((Below.refl w.heap.size w).alloc (Nat.le_refl _) _).alloc (by simp) _⟩
  have hs : (w.alloc (.cells #[.int .u32 7, .int .i64 10, .int .i64 100, .int .i64 5, .int .i64 20, .int .i64 1000, .slice (some ⟨w.heap.size + 1, 0, none⟩) 1 1] 25)).heap.size = w.heap.size + 1 := by simp
  have hr := RdT.lit (w.alloc (.cells #[.int .u32 7, .int .i64 10, .int .i64 100, .int .i64 5, .int .i64 20, .int .i64 1000, .slice (some ⟨w.heap.size + 1, 0, none⟩) 1 1] 25)) kP (by decide) 58
  rw [hs] at hr
  exact RdT.more hr (by simp)
theorem len_P7 : (bytes P7).length = 72 := by rw [bytes_len]; rfl
theorem Put_P7 (A : Option Addr) (w : World) (hr : RdT w w.heap.size A 1 P7.u P7.p 1) :
    Calls Try.prog 9 #[.agg #[.int .u32 7, .int .i64 10, .int .i64 100, .int .i64 5, .int .i64 20, .int .i64 1000, .slice A 1 1]] w fun e w' => ∃ A' n, e = .returned (.tuple #[.slice A' 72 n, .int .i64 0]) ∧ Rd w' w'.heap.size A' n (bytes P7) ∧ Below w.heap.size w w' := by
  refine (Put_ok P7 A 1 w w.heap.size hr (Nat.le_refl _) (by decide) May_P7).mono ?_
  rintro e w' ⟨A', n, rfl, h1, h2⟩
  rw [len_P7]
  exact ⟨A', n, rfl, h1, h2⟩
theorem Get_P7 (A : Option Addr) (c : Nat) (w : World) (hr : Rd w w.heap.size A c (bytes P7)) :
    Calls Try.prog 14 #[.slice A 72 c] w fun e w' => ∃ A' c' u p, e = .returned (.tuple #[.agg #[.int .u32 7, .int .i64 10, .int .i64 100, .int .i64 5, .int .i64 20, .int .i64 1000, .slice A' 1 c'], .int .i64 0]) ∧ RdT w' w'.heap.size A' c' u p 1 ∧ Sm ⟨7, 10, 100, 5, 20, 1000, 1, u, p⟩ P7 ∧ Below w.heap.size w w' := by
  have h := Get_any A c (bytes P7) w hr (by rw [len_P7]; omega)
  rw [len_P7] at h
  refine h.mono ?_
  obtain ⟨ho, hs⟩ := okG_of May_P7 (show 0 ≤ P7.i ∧ P7.i ≤ 4294967295 by decide) (rfl : bytes P7 = bytes P7)
  rintro e w' ⟨hb, ⟨_, A', c', rfl, hr'⟩ | ⟨hn, _⟩⟩
  · refine ⟨A', c', (rd (bytes P7)).u, (rd (bytes P7)).p, ?_, ?_, ?_, hb⟩
    · unfold plv
      rw [hs.i, hs.dy, hs.mo, hs.ov, hs.ro, hs.ba, hs.n]; rfl
    · have : (rd (bytes P7)).n = 1 := hs.n
      rw [this] at hr'; exact hr'
    · exact ⟨rfl, rfl, rfl, rfl, rfl, rfl, rfl, fun k hk => hs.t k (by have : (rd (bytes P7)).n = 1 := hs.n; rw [this]; exact hk)⟩
  · exact absurd ho hn
set_option maxRecDepth 100000 in
set_option maxHeartbeats 4000000 in
theorem goes_any (w : World) : Calls Try.prog 12 #[] w fun e w' => e = .returned (.bool true) ∧ Below w.heap.size w w' := by
  go_enter Try.func12, Try.ntmps12
  go_wp2_with fail
  refine (known_any _).mono ?_
  rintro e w1 ⟨A1, rfl, hr1, hb1⟩
  have B1 := Lib.hid hb1
  have C1 := Lib.hid (Put_P7 A1 w1 hr1)
  clear hb1 hr1
  simp only [plv, P7]
  go_wp2_with fail
  refine C1.out.mono ?_
  rintro e w2 ⟨A2, n2, rfl, hr2, hb2⟩
  obtain ⟨m72, hm72⟩ : ∃ m : Nat, 72 = m := ⟨_, rfl⟩
  have z72 : ((m72 : Int) == 72) = true := by subst hm72; decide
  have HM72 := Lib.hid hm72
  rw [hm72]
  have B2 := Lib.hid (B1.out.trans (hb2.mono B1.out.size))
  have C2 := Lib.hid (Get_P7 A2 n2 w2 hr2)
  rw [hm72] at C2
  clear hb2 hr2 hm72
  go_wp2_with fail
  refine C2.out.mono ?_
  rintro e w3 ⟨A3, c3, u, p, rfl, hr3, hs3, hb3⟩
  have B3 := Lib.hid (B2.out.trans (hb3.mono B2.out.size))
  have HS := Lib.hid hs3
  obtain ⟨W3, hW3⟩ : ∃ W3, w3.alloc (.cells #[.int .u32 7, .int .i64 10, .int .i64 100, .int .i64 5, .int .i64 20, .int .i64 1000, .slice A3 1 c3] 25) = W3 := ⟨_, rfl⟩
  have V3 : VN W3 w3.heap.size [.int .u32 7, .int .i64 10, .int .i64 100, .int .i64 5, .int .i64 20, .int .i64 1000, .slice A3 1 c3] := by rw [← hW3]; exact VN.new w3 #[.int .u32 7, .int .i64 10, .int .i64 100, .int .i64 5, .int .i64 20, .int .i64 1000, .slice A3 1 c3] 25
  have hb4 : Below w3.heap.size w3 W3 := by rw [← hW3]; exact (Below.refl _ _).alloc (Nat.le_refl _) _
  have B4 := Lib.hid (B3.out.trans (hb4.mono B3.out.size))
  have R4 := Lib.hid ((hr3.below hb4).more hb4.size)
  have hmy : may ⟨7, 10, 100, 5, 20, 1000, 1, u, p⟩ = true := (may_iff _).2 (hs3.symm.may May_P7)
  have CR := Lib.hid (show Calls Try.prog 18 #[.agg #[.int .u32 7, .int .i64 10, .int .i64 100, .int .i64 5, .int .i64 20, .int .i64 1000, .slice A3 1 c3], .int .i64 30] W3 fun e w' => e = .returned (.tuple #[.int .i64 120, .int .i64 0]) ∧ Below W3.heap.size W3 w' from by
    have := Room_any ⟨7, 10, 100, 5, 20, 1000, 1, u, p⟩ A3 c3 30 W3 W3.heap.size R4.out (Nat.le_refl _) (show (0 : Int) ≤ 7 by decide)
    have hR : isR ⟨7, 10, 100, 5, 20, 1000, 1, u, p⟩ 30 = true := by unfold isR; rw [hmy]; decide
    unfold rom rer at this
    rw [hR] at this
    exact this)
  have HV3 := Lib.hid V3
  have d0 := V3.c 0 _ rfl
  have d1 := V3.c 1 _ rfl
  have d2 := V3.c 2 _ rfl
  have d3 := V3.c 3 _ rfl
  have d4 := V3.c 4 _ rfl
  have d5 := V3.c 5 _ rfl
  have d6 := V3.c 6 _ rfl
  clear hr3 hs3 hb3 hb4 hmy V3
  go_wp2_with fail
  refine CR.out.mono ?_
  rintro e w4 ⟨rfl, hb5⟩
  have B5 := Lib.hid (B4.out.trans (hb5.mono B4.out.size))
  have R5 := Lib.hid ((R4.out.below hb5).more hb5.size)
  have V5 := HV3.out.bel hb5
  have HV5 := Lib.hid V5
  clear d0 d1 d2 d3 d4 d5 d6 hb5
  have d0 := V5.c 0 _ rfl
  have d1 := V5.c 1 _ rfl
  have d2 := V5.c 2 _ rfl
  have d3 := V5.c 3 _ rfl
  have d4 := V5.c 4 _ rfl
  have d5 := V5.c 5 _ rfl
  have d6 := V5.c 6 _ rfl
  have CKn := Lib.hid (fun W => known_any W)
  have CSm := Lib.hid (fun (W : World) (A6 : Option Addr) (h5 : Below w4.heap.size w4 W) (h6 : RdT W W.heap.size A6 1 P7.u P7.p 1) => (show Calls Try.prog 16 #[.agg #[.int .u32 7, .int .i64 10, .int .i64 100, .int .i64 5, .int .i64 20, .int .i64 1000, .slice A3 1 c3], .agg #[.int .u32 7, .int .i64 10, .int .i64 100, .int .i64 5, .int .i64 20, .int .i64 1000, .slice A6 1 1]] W fun e w' => e = .returned (.bool true) ∧ Below W.heap.size W w' from
    Same_yes ⟨7, 10, 100, 5, 20, 1000, 1, u, p⟩ P7 HS.out A3 A6 c3 1 W W.heap.size ((R5.out.below h5).more h5.size) h6 (Nat.le_refl _)))
  have CCr := Lib.hid (fun (W : World) => (show Calls Try.prog 17 #[.agg #[.int .u32 7, .int .i64 10, .int .i64 100, .int .i64 5, .int .i64 20, .int .i64 1000, .slice A3 1 c3], .int .i64 70] W fun e w' => e = .returned (.int .i64 30) ∧ Below W.heap.size W w' from
    Carry_any ⟨7, 10, 100, 5, 20, 1000, 1, u, p⟩ A3 c3 70 W (by simp) (by simp)))
  have CCk := Lib.hid (fun (W : World) => (show Calls Try.prog 11 #[.agg #[.int .u32 7, .int .i64 0, .int .i64 0, .int .i64 0, .int .i64 0, .int .i64 0, .slice none 0 0]] W fun e w' => e = .returned (.bool false) ∧ Below W.heap.size W w' from by
    have := Check_any (PI 7) none 0 W W.heap.size (RdT.nil _ _ _ _) (Nat.le_refl _) (by decide)
    rw [may_PI] at this
    exact this))
  clear V5
  go_wp2_with fail
  go_region_held3 (fun w' => w'.cell? ⟨w3.heap.size, 0, none⟩ = some (.int .u32 7) ∧ w'.cell? ⟨w3.heap.size, 1, none⟩ = some (.int .i64 10) ∧ w'.cell? ⟨w3.heap.size, 2, none⟩ = some (.int .i64 100) ∧ w'.cell? ⟨w3.heap.size, 3, none⟩ = some (.int .i64 5) ∧ w'.cell? ⟨w3.heap.size, 4, none⟩ = some (.int .i64 20) ∧ w'.cell? ⟨w3.heap.size, 5, none⟩ = some (.int .i64 1000) ∧ w'.cell? ⟨w3.heap.size, 6, none⟩ = some (.slice A3 1 c3))
    (first | exact ⟨d0, d1, d2, d3, d4, d5, d6⟩ | exact ⟨j0, j1, j2, j3, j4, j5, j6⟩ | exact ⟨k0, k1, k2, k3, k4, k5, k6⟩ | exact ⟨m0, m1, m2, m3, m4, m5, m6⟩ | exact ⟨p0, p1, p2, p3, p4, p5, p6⟩)
    (first
    | (go_at_call 11; refine (CCk.out _).mono ?_; rintro e w9 ⟨rfl, hb⟩; have B9 := Lib.hid (B8.out.trans (hb.mono B8.out.size)); have V9 := HV5.out.bel B9.out; have p0 := V9.c 0 _ rfl; have p1 := V9.c 1 _ rfl; have p2 := V9.c 2 _ rfl; have p3 := V9.c 3 _ rfl; have p4 := V9.c 4 _ rfl; have p5 := V9.c 5 _ rfl; have p6 := V9.c 6 _ rfl; clear hb V9)
    | (go_at_call 17; refine (CCr.out _).mono ?_; rintro e w8 ⟨rfl, hb⟩; have B8 := Lib.hid (B7.out.trans (hb.mono B7.out.size)); have V8 := HV5.out.bel B8.out; have m0 := V8.c 0 _ rfl; have m1 := V8.c 1 _ rfl; have m2 := V8.c 2 _ rfl; have m3 := V8.c 3 _ rfl; have m4 := V8.c 4 _ rfl; have m5 := V8.c 5 _ rfl; have m6 := V8.c 6 _ rfl; clear hb V8)
    | (go_at_call 16; refine (CSm.out _ _ B6.out R6.out).mono ?_; rintro e w7 ⟨rfl, hb⟩; have B7 := Lib.hid (B6.out.trans (hb.mono B6.out.size)); have V7 := HV5.out.bel B7.out; have k0 := V7.c 0 _ rfl; have k1 := V7.c 1 _ rfl; have k2 := V7.c 2 _ rfl; have k3 := V7.c 3 _ rfl; have k4 := V7.c 4 _ rfl; have k5 := V7.c 5 _ rfl; have k6 := V7.c 6 _ rfl; clear hb V7)
    | (go_at_call 19; refine (CKn.out w4.drew).mono ?_; rintro e w6 ⟨A6, rfl, hr6, hb⟩; simp only [plv, P7]; have B6 : Hid (Below w4.heap.size w4 w6) := Lib.hid ((Below.refl w4.heap.size w4).drew.trans hb); have R6 := Lib.hid hr6; have V6 := HV5.out.bel B6.out; have j0 := V6.c 0 _ rfl; have j1 := V6.c 1 _ rfl; have j2 := V6.c 2 _ rfl; have j3 := V6.c 3 _ rfl; have j4 := V6.c 4 _ rfl; have j5 := V6.c 5 _ rfl; have j6 := V6.c 6 _ rfl; clear hb hr6 V6))
  all_goals
    go_wp2_with fail
    go_ret
    exact ⟨rfl, B5.out.trans (B9.out.mono B5.out.size)⟩
end Go.Proofs.Ytnaoodaadeimbaa.Pl
