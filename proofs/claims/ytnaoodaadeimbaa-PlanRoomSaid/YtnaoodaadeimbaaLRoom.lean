import Derived.Test.YtnaoodaadeimbaaPn13
import Derived.BigQuiet
namespace Go.Proofs.Ytnaoodaadeimbaa
set_option linter.unusedVariables false
set_option linter.unusedSimpArgs false
set_option maxRecDepth 8000
open Go.RowKit Mem Mo Ti Pl
theorem u32_bdR {x : Int} (h : (Lit.int .u32 x).wf = true) : 0 ≤ x ∧ x ≤ 4294967295 := by
  simpa [Lit.wf, IntKind.min, IntKind.max, IntKind.bits, IntKind.signed] using h
set_option maxRecDepth 100000 in
set_option maxHeartbeats 4000000 in
theorem planRoom_walk (i x1 x2 x3 x4 x5 : Int) (A : Option Addr) (len c : Nat) (f : Nat → Nat → Value) (free roll : Int) (w : World)
    (hb : (Lit.int .u32 i).wf = true ∧ (Lit.int .i64 x1).wf = true ∧ (Lit.int .i64 x2).wf = true ∧ (Lit.int .i64 x3).wf = true ∧ (Lit.int .i64 x4).wf = true ∧ (Lit.int .i64 x5).wf = true) {fs : Array Field} (hu : Try.prog.underlying 58 = some (.struct fs)) (hf : Structs Try.prog w w.heap.size fs A len c f) (hfr : (Lit.int .i64 free).wf = true) (hro : (Lit.int .i64 roll).wf = true) :
    Calls Try.prog 7 #[.agg #[.int .u32 i, .int .i64 x1, .int .i64 x2, .int .i64 x3, .int .i64 x4, .int .i64 x5, .slice A len c], .int .i64 free, .int .i64 roll] w fun e w' => e = .returned (.bool true) ∧ Below w.heap.size w w' := by
  obtain ⟨u, p, hr, hn⟩ := tiers_of hu hf
  obtain ⟨b0, b1, b2, b3, b4, b5⟩ := hb
  have bi := u32_bdR b0
  have k2 := i64_bd b2
  have kf := i64_bd hfr
  have kr := i64_bd hro
  clear b0 b1 b2 b3 b4 b5 hu hf hn
  have G := Lib.hid (fun W => goes_any W)
  obtain ⟨W0, hW0⟩ : ∃ W0, w.alloc (.cells #[.int .u32 i, .int .i64 x1, .int .i64 x2, .int .i64 x3, .int .i64 x4, .int .i64 x5, .slice A len c] 25) = W0 := ⟨_, rfl⟩
  have V0 : VN W0 w.heap.size [.int .u32 i, .int .i64 x1, .int .i64 x2, .int .i64 x3, .int .i64 x4, .int .i64 x5, .slice A len c] := by rw [← hW0]; exact VN.new w #[.int .u32 i, .int .i64 x1, .int .i64 x2, .int .i64 x3, .int .i64 x4, .int .i64 x5, .slice A len c] 25
  have hb0 : Below w.heap.size w W0 := by rw [← hW0]; exact (Below.refl _ _).alloc (Nat.le_refl _) _
  have HV := Lib.hid V0
  have B0 := Lib.hid hb0
  have CK := Lib.hid (fun W (h : Below w.heap.size w W) => (show Calls Try.prog 11 #[.agg #[.int .u32 i, .int .i64 x1, .int .i64 x2, .int .i64 x3, .int .i64 x4, .int .i64 x5, .slice A len c]] W fun e w' => e = .returned (.bool (may (⟨i, x1, x2, x3, x4, x5, len, u, p⟩ : Pln))) ∧ Below W.heap.size W w' from Check_any (⟨i, x1, x2, x3, x4, x5, len, u, p⟩ : Pln) A c W w.heap.size (hr.below h) h.size bi.1))
  have CA := Lib.hid (fun W => (show Calls Try.prog 17 #[.agg #[.int .u32 i, .int .i64 x1, .int .i64 x2, .int .i64 x3, .int .i64 x4, .int .i64 x5, .slice A len c], .int .i64 free] W fun e w' => e = .returned (.int .i64 (car x2 free)) ∧ Below W.heap.size W w' from Carry_any (⟨i, x1, x2, x3, x4, x5, len, u, p⟩ : Pln) A c free W k2 kf))
  have CR := Lib.hid (fun W r (h : Below w.heap.size w W) => (show Calls Try.prog 18 #[.agg #[.int .u32 i, .int .i64 x1, .int .i64 x2, .int .i64 x3, .int .i64 x4, .int .i64 x5, .slice A len c], .int .i64 r] W fun e w' => e = .returned (.tuple #[.int .i64 (rom (⟨i, x1, x2, x3, x4, x5, len, u, p⟩ : Pln) r), .int .i64 (rer (⟨i, x1, x2, x3, x4, x5, len, u, p⟩ : Pln) r)]) ∧ Below W.heap.size W w' from Room_any (⟨i, x1, x2, x3, x4, x5, len, u, p⟩ : Pln) A c r W w.heap.size (hr.below h) h.size bi.1))
  have d0 := V0.c 0 _ rfl
  have d1 := V0.c 1 _ rfl
  have d2 := V0.c 2 _ rfl
  have d3 := V0.c 3 _ rfl
  have d4 := V0.c 4 _ rfl
  have d5 := V0.c 5 _ rfl
  have d6 := V0.c 6 _ rfl
  have hm := may_iff (⟨i, x1, x2, x3, x4, x5, len, u, p⟩ : Pln)
  clear hr V0 hb0
  unfold rom rer isR at CR
  simp only at CR
  cases hmay : may (⟨i, x1, x2, x3, x4, x5, len, u, p⟩ : Pln) with
  | false =>
    rw [hmay] at CR CK
    simp only [Bool.false_and, Bool.false_eq_true, if_false] at CR
    obtain ⟨V, hV⟩ : ∃ V, car x2 free = V := ⟨_, rfl⟩
    rw [hV] at CA
    clear hm hmay bi k2 kf kr hV
    go_enter Try.func7, Try.ntmps7
    go_wp2_with fail
    refine (CA.out _).mono ?_
    rintro e w1 ⟨rfl, hb⟩
    have B1 := Lib.hid (B0.out.trans (hb.mono B0.out.size))
    have V1 := HV.out.bel hb
    have HV1 := Lib.hid V1
    clear d0 d1 d2 d3 d4 d5 d6 hb
    have d0 := V1.c 0 _ rfl; have d1 := V1.c 1 _ rfl; have d2 := V1.c 2 _ rfl; have d3 := V1.c 3 _ rfl; have d4 := V1.c 4 _ rfl; have d5 := V1.c 5 _ rfl; have d6 := V1.c 6 _ rfl
    clear V1
    go_wp2_with fail
    refine (CR.out _ _ B1.out).mono ?_
    rintro e w2 ⟨rfl, hb⟩
    have B2 := Lib.hid (B1.out.trans (hb.mono B1.out.size))
    have V2 := HV1.out.bel hb
    have HV2 := Lib.hid V2
    clear d0 d1 d2 d3 d4 d5 d6 hb
    have d0 := V2.c 0 _ rfl; have d1 := V2.c 1 _ rfl; have d2 := V2.c 2 _ rfl; have d3 := V2.c 3 _ rfl; have d4 := V2.c 4 _ rfl; have d5 := V2.c 5 _ rfl; have d6 := V2.c 6 _ rfl
    clear V2
    go_wp2_with fail
    refine (CK.out _ B2.out).mono ?_
    rintro e w3 ⟨rfl, hb⟩
    have B3 := Lib.hid (B2.out.trans (hb.mono B2.out.size))
    have V3 := HV2.out.bel hb
    have HV3 := Lib.hid V3
    clear d0 d1 d2 d3 d4 d5 d6 hb
    have d0 := V3.c 0 _ rfl; have d1 := V3.c 1 _ rfl; have d2 := V3.c 2 _ rfl; have d3 := V3.c 3 _ rfl; have d4 := V3.c 4 _ rfl; have d5 := V3.c 5 _ rfl; have d6 := V3.c 6 _ rfl
    clear V3
    go_wp2_with fail
    refine (G.out _).mono ?_
    rintro e w4 ⟨rfl, hb⟩
    have B4 := Lib.hid (B3.out.trans (hb.mono B3.out.size)); clear hb
    go_wp2_with fail
    go_ret
    exact ⟨rfl, B4.out⟩
  | true =>
    have M := hm.1 hmay
    have m2 := M.mo
    have m4 := M.ro
    simp only at m2 m4
    rw [hmay] at CR CK
    simp only [Bool.true_and] at CR
    clear hm hmay M
    by_cases h1 : roll < 0
    · have z1 : (roll < 0) = True := by simp [h1]
      have hd : decide (0 ≤ roll ∧ roll ≤ 1099511627776) = false := by simp; omega
      have CR := Lib.hid (fun W (h : Below w.heap.size w W) => (by have := CR.out W roll h; rw [hd] at this; exact this : Calls Try.prog 18 #[.agg #[.int .u32 i, .int .i64 x1, .int .i64 x2, .int .i64 x3, .int .i64 x4, .int .i64 x5, .slice A len c], .int .i64 roll] W fun e w' => e = .returned (.tuple #[.int .i64 0, .int .i64 1]) ∧ Below W.heap.size W w'))
      obtain ⟨V, hV⟩ : ∃ V, car x2 free = V := ⟨_, rfl⟩
      rw [hV] at CA
      clear bi k2 kf kr hV h1 m2 m4 hd
      go_enter Try.func7, Try.ntmps7
      go_wp2_with fail
      refine (CA.out _).mono ?_
      rintro e w1 ⟨rfl, hb⟩
      have B1 := Lib.hid (B0.out.trans (hb.mono B0.out.size))
      have V1 := HV.out.bel hb
      have HV1 := Lib.hid V1
      clear d0 d1 d2 d3 d4 d5 d6 hb
      have d0 := V1.c 0 _ rfl; have d1 := V1.c 1 _ rfl; have d2 := V1.c 2 _ rfl; have d3 := V1.c 3 _ rfl; have d4 := V1.c 4 _ rfl; have d5 := V1.c 5 _ rfl; have d6 := V1.c 6 _ rfl
      clear V1
      go_wp2_with fail
      refine (CR.out _ B1.out).mono ?_
      rintro e w2 ⟨rfl, hb⟩
      have B2 := Lib.hid (B1.out.trans (hb.mono B1.out.size))
      have V2 := HV1.out.bel hb
      have HV2 := Lib.hid V2
      clear d0 d1 d2 d3 d4 d5 d6 hb
      have d0 := V2.c 0 _ rfl; have d1 := V2.c 1 _ rfl; have d2 := V2.c 2 _ rfl; have d3 := V2.c 3 _ rfl; have d4 := V2.c 4 _ rfl; have d5 := V2.c 5 _ rfl; have d6 := V2.c 6 _ rfl
      clear V2
      go_wp2_with fail
      refine (CK.out _ B2.out).mono ?_
      rintro e w3 ⟨rfl, hb⟩
      have B3 := Lib.hid (B2.out.trans (hb.mono B2.out.size))
      have V3 := HV2.out.bel hb
      have HV3 := Lib.hid V3
      clear d0 d1 d2 d3 d4 d5 d6 hb
      have d0 := V3.c 0 _ rfl; have d1 := V3.c 1 _ rfl; have d2 := V3.c 2 _ rfl; have d3 := V3.c 3 _ rfl; have d4 := V3.c 4 _ rfl; have d5 := V3.c 5 _ rfl; have d6 := V3.c 6 _ rfl
      clear V3
      go_wp2_with fail
      refine (G.out _).mono ?_
      rintro e w4 ⟨rfl, hb⟩
      have B4 := Lib.hid (B3.out.trans (hb.mono B3.out.size)); clear hb
      go_wp2_with fail
      go_ret
      exact ⟨rfl, B4.out⟩
    · have z1 : (roll < 0) = False := by simp; omega
      by_cases h2 : 1099511627776 < roll
      · have z2 : (1099511627776 < roll) = True := by simp [h2]
        have hd : decide (0 ≤ roll ∧ roll ≤ 1099511627776) = false := by simp; omega
        have CR := Lib.hid (fun W (h : Below w.heap.size w W) => (by have := CR.out W roll h; rw [hd] at this; exact this : Calls Try.prog 18 #[.agg #[.int .u32 i, .int .i64 x1, .int .i64 x2, .int .i64 x3, .int .i64 x4, .int .i64 x5, .slice A len c], .int .i64 roll] W fun e w' => e = .returned (.tuple #[.int .i64 0, .int .i64 1]) ∧ Below W.heap.size W w'))
        obtain ⟨V, hV⟩ : ∃ V, car x2 free = V := ⟨_, rfl⟩
        rw [hV] at CA
        clear bi k2 kf kr hV h1 h2 m2 m4 hd
        go_enter Try.func7, Try.ntmps7
        go_wp2_with fail
        refine (CA.out _).mono ?_
        rintro e w1 ⟨rfl, hb⟩
        have B1 := Lib.hid (B0.out.trans (hb.mono B0.out.size))
        have V1 := HV.out.bel hb
        have HV1 := Lib.hid V1
        clear d0 d1 d2 d3 d4 d5 d6 hb
        have d0 := V1.c 0 _ rfl; have d1 := V1.c 1 _ rfl; have d2 := V1.c 2 _ rfl; have d3 := V1.c 3 _ rfl; have d4 := V1.c 4 _ rfl; have d5 := V1.c 5 _ rfl; have d6 := V1.c 6 _ rfl
        clear V1
        go_wp2_with fail
        refine (CR.out _ B1.out).mono ?_
        rintro e w2 ⟨rfl, hb⟩
        have B2 := Lib.hid (B1.out.trans (hb.mono B1.out.size))
        have V2 := HV1.out.bel hb
        have HV2 := Lib.hid V2
        clear d0 d1 d2 d3 d4 d5 d6 hb
        have d0 := V2.c 0 _ rfl; have d1 := V2.c 1 _ rfl; have d2 := V2.c 2 _ rfl; have d3 := V2.c 3 _ rfl; have d4 := V2.c 4 _ rfl; have d5 := V2.c 5 _ rfl; have d6 := V2.c 6 _ rfl
        clear V2
        go_wp2_with fail
        refine (CK.out _ B2.out).mono ?_
        rintro e w3 ⟨rfl, hb⟩
        have B3 := Lib.hid (B2.out.trans (hb.mono B2.out.size))
        have V3 := HV2.out.bel hb
        have HV3 := Lib.hid V3
        clear d0 d1 d2 d3 d4 d5 d6 hb
        have d0 := V3.c 0 _ rfl; have d1 := V3.c 1 _ rfl; have d2 := V3.c 2 _ rfl; have d3 := V3.c 3 _ rfl; have d4 := V3.c 4 _ rfl; have d5 := V3.c 5 _ rfl; have d6 := V3.c 6 _ rfl
        clear V3
        go_wp2_with fail
        refine (G.out _).mono ?_
        rintro e w4 ⟨rfl, hb⟩
        have B4 := Lib.hid (B3.out.trans (hb.mono B3.out.size)); clear hb
        go_wp2_with fail
        go_ret
        exact ⟨rfl, B4.out⟩
      · have z2 : (1099511627776 < roll) = False := by simp; omega
        obtain ⟨h, hh⟩ : ∃ h : Int, roll / 2 = h := ⟨_, rfl⟩
        have hh0 : 0 ≤ h ∧ h ≤ roll := by omega
        have hd : decide (0 ≤ roll ∧ roll ≤ 1099511627776) = true := by simp; omega
        have hd2 : decide (0 ≤ h ∧ h ≤ 1099511627776) = true := by simp; omega
        obtain ⟨R, hR⟩ : ∃ R, x2 + min x4 roll = R := ⟨_, rfl⟩
        obtain ⟨S, hS⟩ : ∃ S, x2 + min x4 h = S := ⟨_, rfl⟩
        have CR1 := Lib.hid (fun W (h : Below w.heap.size w W) => (by have := CR.out W roll h; rw [hd] at this; simp only [if_true, hR] at this; exact this : Calls Try.prog 18 #[.agg #[.int .u32 i, .int .i64 x1, .int .i64 x2, .int .i64 x3, .int .i64 x4, .int .i64 x5, .slice A len c], .int .i64 roll] W fun e w' => e = .returned (.tuple #[.int .i64 R, .int .i64 0]) ∧ Below W.heap.size W w'))
        have CR2 := Lib.hid (fun W (hw : Below w.heap.size w W) => (by have := CR.out W h hw; rw [hd2] at this; simp only [if_true, hS] at this; exact this : Calls Try.prog 18 #[.agg #[.int .u32 i, .int .i64 x1, .int .i64 x2, .int .i64 x3, .int .i64 x4, .int .i64 x5, .slice A len c], .int .i64 h] W fun e w' => e = .returned (.tuple #[.int .i64 S, .int .i64 0]) ∧ Below W.heap.size W w'))
        obtain ⟨V, hV⟩ : ∃ V, car x2 free = V := ⟨_, rfl⟩
        rw [hV] at CA
        have hVV : (free < 0 ∧ V = x2) ∨ (x2 < free ∧ V = 0) ∨ (0 ≤ free ∧ free ≤ x2 ∧ V = x2 - free) := by
          rw [← hV]; unfold car; split
          · exact .inl ⟨‹_›, rfl⟩
          · split
            · by_cases e : x2 = free
              · exact .inr (.inr (by omega))
              · exact .inr (.inl ⟨by omega, rfl⟩)
            · exact .inr (.inr (by omega))
        have hRR : (x4 < roll ∧ R = x2 + x4) ∨ (roll ≤ x4 ∧ R = x2 + roll) := by omega
        have hSR : S ≤ R ∧ 0 ≤ S := by omega
        clear CR hV hR hS hd hd2 bi k2 h1 h2
        have HH := Lib.hid hh
        have HR3 := Lib.hid hRR
        have HS3 := Lib.hid hSR
        have HRB := Lib.hid (show 0 ≤ roll ∧ roll ≤ 1099511627776 by simp at z1 z2; omega)
        have HM3 := Lib.hid (And.intro m2 (And.intro m4 (And.intro hh0 kr)))
        have hq : roll.tdiv 2 = h := by rw [Int.tdiv_eq_ediv_of_nonneg (by omega)]; exact hh
        rcases hVV with ⟨g1, g2⟩ | ⟨g1, g2⟩ | ⟨g1, g2, g3⟩
        · subst g2
          have y1 : (V < 0) = False := by simp; omega
          have y2 : (0 ≤ free) = False := by simp; omega
          have y3 : (V < free) = False := by simp; omega
          have y4 : (free < 0) = True := by simp [g1]
          clear kf kr g1 hh hh0 hRR hSR m2 m4 
          go_enter Try.func7, Try.ntmps7
          go_wp2_with fail
          refine (CA.out _).mono ?_
          rintro e w1 ⟨rfl, hb⟩
          have B1 := Lib.hid (B0.out.trans (hb.mono B0.out.size))
          have V1 := HV.out.bel hb
          have HV1 := Lib.hid V1
          clear d0 d1 d2 d3 d4 d5 d6 hb
          have d0 := V1.c 0 _ rfl; have d1 := V1.c 1 _ rfl; have d2 := V1.c 2 _ rfl; have d3 := V1.c 3 _ rfl; have d4 := V1.c 4 _ rfl; have d5 := V1.c 5 _ rfl; have d6 := V1.c 6 _ rfl
          clear V1
          go_wp2_with fail
          refine (CR1.out _ B1.out).mono ?_
          rintro e w2 ⟨rfl, hb⟩
          have B2 := Lib.hid (B1.out.trans (hb.mono B1.out.size))
          have V2 := HV1.out.bel hb
          have HV2 := Lib.hid V2
          clear d0 d1 d2 d3 d4 d5 d6 hb
          have d0 := V2.c 0 _ rfl; have d1 := V2.c 1 _ rfl; have d2 := V2.c 2 _ rfl; have d3 := V2.c 3 _ rfl; have d4 := V2.c 4 _ rfl; have d5 := V2.c 5 _ rfl; have d6 := V2.c 6 _ rfl
          clear V2
          go_wp2_with fail
          refine (CK.out _ B2.out).mono ?_
          rintro e w3 ⟨rfl, hb⟩
          have B3 := Lib.hid (B2.out.trans (hb.mono B2.out.size))
          have V3 := HV2.out.bel hb
          have HV3 := Lib.hid V3
          clear d0 d1 d2 d3 d4 d5 d6 hb
          have d0 := V3.c 0 _ rfl; have d1 := V3.c 1 _ rfl; have d2 := V3.c 2 _ rfl; have d3 := V3.c 3 _ rfl; have d4 := V3.c 4 _ rfl; have d5 := V3.c 5 _ rfl; have d6 := V3.c 6 _ rfl
          clear V3
          go_wp2_with fail
          have hM := HM3.out
          rw [show wrap64 h = h by unfold wrap64; omega]
          refine (CR2.out _ B3.out).mono ?_
          rintro e w4 ⟨rfl, hb⟩
          have B4 := Lib.hid (B3.out.trans (hb.mono B3.out.size))
          have V4 := HV3.out.bel hb
          clear d0 d1 d2 d3 d4 d5 d6 hb
          have d0 := V4.c 0 _ rfl; have d1 := V4.c 1 _ rfl; have d2 := V4.c 2 _ rfl; have d3 := V4.c 3 _ rfl; have d4 := V4.c 4 _ rfl; have d5 := V4.c 5 _ rfl; have d6 := V4.c 6 _ rfl
          clear V4
          obtain ⟨m2, m4, hh0, kr⟩ := hM
          have hh := HH.out
          have hr0 : 0 ≤ roll ∧ roll ≤ 1099511627776 := by have := HRB.out; omega
          have hSR := HS3.out
          have u1 : (V ≤ R) = True := by have := HR3.out; simp; omega
          have u2 : (S ≤ R) = True := by simp; omega
          rcases HR3.out with ⟨a1, a2⟩ | ⟨a1, a2⟩
          · have u3 : (R ≤ V + x4) = True := by simp; omega
            have u4 : (x4 < roll) = True := by simp [a1]
            clear hh hh0 kr a1 a2 hSR y1 y2 y3 y4
            go_wp2_with fail
            refine (G.out _).mono ?_
            rintro e w5 ⟨rfl, hb⟩
            have B5 := Lib.hid (B4.out.trans (hb.mono B4.out.size)); clear hb
            go_wp2_with fail
            go_ret
            exact ⟨rfl, B5.out⟩
          · have u3 : (R ≤ V + x4) = True := by simp; omega
            have u4 : (x4 < roll) = False := by simp; omega
            have u5 : (R == V + roll) = true := by simp; omega
            clear hh hh0 kr a1 a2 hSR y1 y2 y3 y4
            go_wp2_with fail
            refine (G.out _).mono ?_
            rintro e w5 ⟨rfl, hb⟩
            have B5 := Lib.hid (B4.out.trans (hb.mono B4.out.size)); clear hb
            go_wp2_with fail
            go_ret
            exact ⟨rfl, B5.out⟩
        · subst g2
          have y1 : (x2 < 0) = False := by simp; omega
          have y2 : (0 ≤ free) = True := by simp; omega
          have y3 : (free ≤ x2) = False := by simp; omega
          have y4 : (x2 < free) = True := by simp [g1]
          have y5 : (free < 0) = False := by simp; omega
          clear kf kr g1 hh hh0 hRR hSR m2 m4 
          go_enter Try.func7, Try.ntmps7
          go_wp2_with fail
          refine (CA.out _).mono ?_
          rintro e w1 ⟨rfl, hb⟩
          have B1 := Lib.hid (B0.out.trans (hb.mono B0.out.size))
          have V1 := HV.out.bel hb
          have HV1 := Lib.hid V1
          clear d0 d1 d2 d3 d4 d5 d6 hb
          have d0 := V1.c 0 _ rfl; have d1 := V1.c 1 _ rfl; have d2 := V1.c 2 _ rfl; have d3 := V1.c 3 _ rfl; have d4 := V1.c 4 _ rfl; have d5 := V1.c 5 _ rfl; have d6 := V1.c 6 _ rfl
          clear V1
          go_wp2_with fail
          refine (CR1.out _ B1.out).mono ?_
          rintro e w2 ⟨rfl, hb⟩
          have B2 := Lib.hid (B1.out.trans (hb.mono B1.out.size))
          have V2 := HV1.out.bel hb
          have HV2 := Lib.hid V2
          clear d0 d1 d2 d3 d4 d5 d6 hb
          have d0 := V2.c 0 _ rfl; have d1 := V2.c 1 _ rfl; have d2 := V2.c 2 _ rfl; have d3 := V2.c 3 _ rfl; have d4 := V2.c 4 _ rfl; have d5 := V2.c 5 _ rfl; have d6 := V2.c 6 _ rfl
          clear V2
          go_wp2_with fail
          refine (CK.out _ B2.out).mono ?_
          rintro e w3 ⟨rfl, hb⟩
          have B3 := Lib.hid (B2.out.trans (hb.mono B2.out.size))
          have V3 := HV2.out.bel hb
          have HV3 := Lib.hid V3
          clear d0 d1 d2 d3 d4 d5 d6 hb
          have d0 := V3.c 0 _ rfl; have d1 := V3.c 1 _ rfl; have d2 := V3.c 2 _ rfl; have d3 := V3.c 3 _ rfl; have d4 := V3.c 4 _ rfl; have d5 := V3.c 5 _ rfl; have d6 := V3.c 6 _ rfl
          clear V3
          go_wp2_with fail
          have hM := HM3.out
          rw [show wrap64 h = h by unfold wrap64; omega]
          refine (CR2.out _ B3.out).mono ?_
          rintro e w4 ⟨rfl, hb⟩
          have B4 := Lib.hid (B3.out.trans (hb.mono B3.out.size))
          have V4 := HV3.out.bel hb
          clear d0 d1 d2 d3 d4 d5 d6 hb
          have d0 := V4.c 0 _ rfl; have d1 := V4.c 1 _ rfl; have d2 := V4.c 2 _ rfl; have d3 := V4.c 3 _ rfl; have d4 := V4.c 4 _ rfl; have d5 := V4.c 5 _ rfl; have d6 := V4.c 6 _ rfl
          clear V4
          obtain ⟨m2, m4, hh0, kr⟩ := hM
          have hh := HH.out
          have hr0 : 0 ≤ roll ∧ roll ≤ 1099511627776 := by have := HRB.out; omega
          have hSR := HS3.out
          have u1 : (x2 ≤ R) = True := by have := HR3.out; simp; omega
          have u2 : (S ≤ R) = True := by simp; omega
          rcases HR3.out with ⟨a1, a2⟩ | ⟨a1, a2⟩
          · have u3 : (R ≤ x2 + x4) = True := by simp; omega
            have u4 : (x4 < roll) = True := by simp [a1]
            clear hh hh0 kr a1 a2 hSR y1 y2 y3 y4 y5
            go_wp2_with fail
            refine (G.out _).mono ?_
            rintro e w5 ⟨rfl, hb⟩
            have B5 := Lib.hid (B4.out.trans (hb.mono B4.out.size)); clear hb
            go_wp2_with fail
            go_ret
            exact ⟨rfl, B5.out⟩
          · have u3 : (R ≤ x2 + x4) = True := by simp; omega
            have u4 : (x4 < roll) = False := by simp; omega
            have u5 : (R == x2 + roll) = true := by simp; omega
            clear hh hh0 kr a1 a2 hSR y1 y2 y3 y4 y5
            go_wp2_with fail
            refine (G.out _).mono ?_
            rintro e w5 ⟨rfl, hb⟩
            have B5 := Lib.hid (B4.out.trans (hb.mono B4.out.size)); clear hb
            go_wp2_with fail
            go_ret
            exact ⟨rfl, B5.out⟩
        · have y1 : (V < 0) = False := by simp; omega
          have y2 : (0 ≤ free) = True := by simp [g1]
          have y3 : (free ≤ x2) = True := by simp [g2]
          have y4 : (x2 < free) = False := by simp; omega
          have y5 : (free < 0) = False := by simp; omega
          have y6 : (x2 < V) = False := by simp; omega
          have y7 : wrap64 (x2 - free) = V := by unfold wrap64; omega
          clear kf kr g1 hh hh0 hRR hSR m2 m4 g2 g3
          go_enter Try.func7, Try.ntmps7
          go_wp2_with fail
          refine (CA.out _).mono ?_
          rintro e w1 ⟨rfl, hb⟩
          have B1 := Lib.hid (B0.out.trans (hb.mono B0.out.size))
          have V1 := HV.out.bel hb
          have HV1 := Lib.hid V1
          clear d0 d1 d2 d3 d4 d5 d6 hb
          have d0 := V1.c 0 _ rfl; have d1 := V1.c 1 _ rfl; have d2 := V1.c 2 _ rfl; have d3 := V1.c 3 _ rfl; have d4 := V1.c 4 _ rfl; have d5 := V1.c 5 _ rfl; have d6 := V1.c 6 _ rfl
          clear V1
          go_wp2_with fail
          refine (CR1.out _ B1.out).mono ?_
          rintro e w2 ⟨rfl, hb⟩
          have B2 := Lib.hid (B1.out.trans (hb.mono B1.out.size))
          have V2 := HV1.out.bel hb
          have HV2 := Lib.hid V2
          clear d0 d1 d2 d3 d4 d5 d6 hb
          have d0 := V2.c 0 _ rfl; have d1 := V2.c 1 _ rfl; have d2 := V2.c 2 _ rfl; have d3 := V2.c 3 _ rfl; have d4 := V2.c 4 _ rfl; have d5 := V2.c 5 _ rfl; have d6 := V2.c 6 _ rfl
          clear V2
          go_wp2_with fail
          refine (CK.out _ B2.out).mono ?_
          rintro e w3 ⟨rfl, hb⟩
          have B3 := Lib.hid (B2.out.trans (hb.mono B2.out.size))
          have V3 := HV2.out.bel hb
          have HV3 := Lib.hid V3
          clear d0 d1 d2 d3 d4 d5 d6 hb
          have d0 := V3.c 0 _ rfl; have d1 := V3.c 1 _ rfl; have d2 := V3.c 2 _ rfl; have d3 := V3.c 3 _ rfl; have d4 := V3.c 4 _ rfl; have d5 := V3.c 5 _ rfl; have d6 := V3.c 6 _ rfl
          clear V3
          go_wp2_with fail
          have hM := HM3.out
          rw [show wrap64 h = h by unfold wrap64; omega]
          refine (CR2.out _ B3.out).mono ?_
          rintro e w4 ⟨rfl, hb⟩
          have B4 := Lib.hid (B3.out.trans (hb.mono B3.out.size))
          have V4 := HV3.out.bel hb
          clear d0 d1 d2 d3 d4 d5 d6 hb
          have d0 := V4.c 0 _ rfl; have d1 := V4.c 1 _ rfl; have d2 := V4.c 2 _ rfl; have d3 := V4.c 3 _ rfl; have d4 := V4.c 4 _ rfl; have d5 := V4.c 5 _ rfl; have d6 := V4.c 6 _ rfl
          clear V4
          obtain ⟨m2, m4, hh0, kr⟩ := hM
          have hh := HH.out
          have hr0 : 0 ≤ roll ∧ roll ≤ 1099511627776 := by have := HRB.out; omega
          have hSR := HS3.out
          have u1 : (x2 ≤ R) = True := by have := HR3.out; simp; omega
          have u2 : (S ≤ R) = True := by simp; omega
          rcases HR3.out with ⟨a1, a2⟩ | ⟨a1, a2⟩
          · have u3 : (R ≤ x2 + x4) = True := by simp; omega
            have u4 : (x4 < roll) = True := by simp [a1]
            clear hh hh0 kr a1 a2 hSR y1 y2 y3 y4 y5 y6 y7
            go_wp2_with fail
            refine (G.out _).mono ?_
            rintro e w5 ⟨rfl, hb⟩
            have B5 := Lib.hid (B4.out.trans (hb.mono B4.out.size)); clear hb
            go_wp2_with fail
            go_ret
            exact ⟨rfl, B5.out⟩
          · have u3 : (R ≤ x2 + x4) = True := by simp; omega
            have u4 : (x4 < roll) = False := by simp; omega
            have u5 : (R == x2 + roll) = true := by simp; omega
            clear hh hh0 kr a1 a2 hSR y1 y2 y3 y4 y5 y6 y7
            go_wp2_with fail
            refine (G.out _).mono ?_
            rintro e w5 ⟨rfl, hb⟩
            have B5 := Lib.hid (B4.out.trans (hb.mono B4.out.size)); clear hb
            go_wp2_with fail
            go_ret
            exact ⟨rfl, B5.out⟩
end Go.Proofs.Ytnaoodaadeimbaa
