import Derived.Test.YtlfkafcmdndlgaaDoorCiT
namespace Go.Proofs.YtlfkafcmdndlgaaDoor
open Go.RowKit Mem Ci
namespace Ci
/-- The next day. -/
theorem next_cases {y m d : Int} (h : vldB y m d = true) (hn : num y m d < 2932896) :
    (d < long y m ∧ vldB y m (d + 1) = true ∧ num y m (d + 1) = num y m d + 1) ∨
    (d = long y m ∧ ∃ y' m', vldB y' m' 1 = true ∧ num y' m' 1 = num y m d + 1 ∧ 12 * y' + m' - 1 = 12 * y + m - 1 + 1) := by
  obtain ⟨h1, h2, h3, h4, h5, h6⟩ := vld_of h
  rcases Int.lt_or_le d (long y m) with g | g
  · left; exact ⟨g, vld_mk ⟨h1, h2, h3, h4, by omega, by omega⟩, by unfold num; omega⟩
  · right
    have hd : d = long y m := by omega
    refine ⟨hd, ?_⟩
    by_cases hm : m = 12
    · subst hm
      have hy : y < 9999 := by
        rcases Int.lt_or_le y 9999 with k | k
        · exact k
        · obtain rfl : y = 9999 := by omega
          exfalso
          have e : long 9999 12 = 31 := by decide
          have e2 : num 9999 12 31 = 2932896 := by decide
          rw [hd, e, e2] at hn; omega
      refine ⟨y + 1, 1, num_first (by omega) (by omega) (by omega) (by omega), ?_, by omega⟩
      have a := ny_succ y; have b := cum_12 y
      have c : cum y 12 = cum y 11 + long y (11 + 1) := rfl
      unfold num
      show ny (y + 1) + cum (y + 1) 0 + 1 - 1 = ny y + cum y 11 + d - 1 + 1
      have e : cum (y + 1) 0 = 0 := rfl
      rw [show (11 : Int) + 1 = 12 by decide] at c
      omega
    · refine ⟨y, m + 1, num_first h1 h2 (by omega) (by omega), ?_, by omega⟩
      have c := cum_succ y (m - 1).toNat
      rw [show (((m - 1).toNat : Nat) : Int) + 1 = m by omega] at c
      unfold num
      rw [show (m + 1 - 1).toNat = (m - 1).toNat + 1 by omega, c]; omega
theorem last_day {y m d : Int} (h : vldB y m d = true) (hn : num y m d = 2932896) : y = 9999 ∧ m = 12 ∧ d = 31 :=
  num_inj h (y' := 9999) (m' := 12) (d' := 31) (by decide) (hn.trans (by decide))
theorem keep6 {w W w1 : World} {b c : Nat} {x y z x' y' z' : Value} (hb : Below W.heap.size W w1) (k : Below w.heap.size w W ∧ W.cell? ⟨b, 0, none⟩ = some x ∧ W.cell? ⟨b, 1, none⟩ = some y ∧ W.cell? ⟨b, 2, none⟩ = some z ∧ W.cell? ⟨c, 0, none⟩ = some x' ∧ W.cell? ⟨c, 1, none⟩ = some y' ∧ W.cell? ⟨c, 2, none⟩ = some z') :
    Below w.heap.size w w1 ∧ w1.cell? ⟨b, 0, none⟩ = some x ∧ w1.cell? ⟨b, 1, none⟩ = some y ∧ w1.cell? ⟨b, 2, none⟩ = some z ∧ w1.cell? ⟨c, 0, none⟩ = some x' ∧ w1.cell? ⟨c, 1, none⟩ = some y' ∧ w1.cell? ⟨c, 2, none⟩ = some z' := by
  obtain ⟨k0, k1, k2, k3, k4, k5, k6⟩ := k
  obtain ⟨a, b', c'⟩ := keep3 hb (World.block_lt_of_cell? _ _ k1) ⟨k1, k2, k3⟩
  obtain ⟨a2, b2, c2⟩ := keep3 hb (World.block_lt_of_cell? _ _ k4) ⟨k4, k5, k6⟩
  exact ⟨k0.trans (hb.mono k0.size), a, b', c', a2, b2, c2⟩
end Ci

set_option maxHeartbeats 2000000 in
theorem next_out (z : Int) (w : World) (hw : Lw w) (hz : z < -719162 ∨ 2932896 < z) :
    Calls Tryd.prog 6 #[.int .i64 z] w fun e w' => e = .returned (.bool true) ∧ Below w.heap.size w w' := by
  have HL := Lib.hid (fun W (h : Below w.heap.size w W) => hw.below h (Nat.le_refl _)); clear hw
  have HO := Lib.hid hz; clear hz
  go_enter Tryd.func6, Tryd.ntmps6
  go_wp2_with fail
  refine (of_out _ HO.out).mono ?_
  rintro e w1 ⟨rfl, hb⟩
  have B1 := Lib.hid (hb.alloc hb.size (.cells #[.int .i64 0, .int .i64 0, .int .i64 0] 23)); clear hb
  go_wp2_with fail
  refine (goes_any _ (HL.out _ B1.out)).mono ?_
  rintro e x3 ⟨rfl, hb⟩
  have X3 := Lib.hid (B1.out.trans (hb.mono B1.out.size))
  clear hb
  go_wp2_with fail
  go_ret
  exact ⟨rfl, X3.out⟩
set_option maxHeartbeats 2000000 in
theorem next_last (w : World) (hw : Lw w) :
    Calls Tryd.prog 6 #[.int .i64 2932896] w fun e w' => e = .returned (.bool true) ∧ Below w.heap.size w w' := by
  have HL := Lib.hid (fun W (h : Below w.heap.size w W) => hw.below h (Nat.le_refl _)); clear hw
  have c := fun W hW => of_yes (y := 9999) (m := 12) (d := 31) W hW (by decide)
  rw [show num 9999 12 31 = 2932896 by decide] at c
  have C := Lib.hid c; clear c
  go_enter Tryd.func6, Tryd.ntmps6
  go_wp2_with fail
  refine (C.out _ (HL.out _ (Below.refl _ _)).lens).mono ?_
  rintro e w1 ⟨rfl, hb⟩
  have B1 := Lib.hid (hb.alloc hb.size (.cells #[.int .i64 9999, .int .i64 12, .int .i64 31] 23)); clear hb
  go_wp2_with fail
  refine (of_out _ (by omega)).mono ?_
  rintro e w2 ⟨rfl, hb⟩
  have B2 := Lib.hid (B1.out.trans (hb.mono B1.out.size))
  have D2 := Lib.hid ((DAt.new w1 9999 12 31).below hb)
  have B2a := Lib.hid (B2.out.alloc B2.out.size (.cells #[.int .i64 0, .int .i64 0, .int .i64 0] 23))
  have D2a := Lib.hid (D2.out.alloc (.cells #[.int .i64 0, .int .i64 0, .int .i64 0] 23))
  clear hb
  have c0 := D2a.out.c0; have c1 := D2a.out.c1; have c2 := D2a.out.c2
  go_wp2_with fail
  refine (goes_any _ (HL.out _ B2a.out)).mono ?_
  rintro e x3 ⟨rfl, hb⟩
  have X3 := Lib.hid (B2a.out.trans (hb.mono B2a.out.size))
  clear hb c0 c1 c2
  go_wp2_with fail
  go_ret
  exact ⟨rfl, X3.out⟩
set_option maxHeartbeats 2000000 in
theorem next_in {y m d : Int} (w : World) (hw : Lw w) (h : vldB y m d = true) (h' : vldB y m (d + 1) = true) (hn : num y m (d + 1) = num y m d + 1) :
    Calls Tryd.prog 6 #[.int .i64 (num y m d)] w fun e w' => e = .returned (.bool true) ∧ Below w.heap.size w w' := by
  have HL := Lib.hid (fun W (h : Below w.heap.size w W) => hw.below h (Nat.le_refl _))
  have hs := hw.size; clear hw
  have nb := num_bd h
  obtain ⟨g1, g2, g3, g4, g5, g6⟩ := vld_of h
  have lb := long_bd y m
  have H := Lib.hid h; have H' := Lib.hid h'; have HN := Lib.hid hn; clear h h' hn
  go_enter Tryd.func6, Tryd.ntmps6
  go_wp2_with fail
  refine (of_yes _ (HL.out _ (Below.refl _ _)).lens H.out).mono ?_
  rintro e w1 ⟨rfl, hb⟩
  have B1 := Lib.hid (hb.alloc hb.size (.cells #[.int .i64 y, .int .i64 m, .int .i64 d] 23)); clear hb
  go_wp2_with fail
  rw [← HN.out]
  refine (of_yes _ (HL.out _ B1.out).lens H'.out).mono ?_
  rintro e w2 ⟨rfl, hb⟩
  have B2 := Lib.hid (B1.out.trans (hb.mono B1.out.size))
  have D2 := Lib.hid ((DAt.new w1 y m d).below hb)
  have B2a := Lib.hid (B2.out.alloc B2.out.size (.cells #[.int .i64 y, .int .i64 m, .int .i64 (d + 1)] 23))
  have D2a := Lib.hid (D2.out.alloc (.cells #[.int .i64 y, .int .i64 m, .int .i64 (d + 1)] 23))
  clear hb
  have c0 := D2a.out.c0; have c1 := D2a.out.c1; have c2 := D2a.out.c2
  go_wp2_with fail
  refine (goes_any _ (HL.out _ B2a.out)).mono ?_
  rintro e x3 ⟨rfl, hb⟩
  have X3 := Lib.hid (B2a.out.trans (hb.mono B2a.out.size))
  clear hb c0 c1 c2
  go_wp2_with fail
  go_ret
  exact ⟨rfl, X3.out⟩
set_option maxHeartbeats 4000000 in
theorem next_month {y m d y' m' : Int} (w : World) (hw : Lw w) (h : vldB y m d = true) (hd : d = long y m) (h' : vldB y' m' 1 = true) (hn : num y' m' 1 = num y m d + 1) (hm : 12 * y' + m' - 1 = 12 * y + m - 1 + 1) :
    Calls Tryd.prog 6 #[.int .i64 (num y m d)] w fun e w' => e = .returned (.bool true) ∧ Below w.heap.size w w' := by
  have HL := Lib.hid (fun W (h : Below w.heap.size w W) => hw.below h (Nat.le_refl _))
  have hs := hw.size; clear hw
  have nb := num_bd h
  obtain ⟨g1, g2, g3, g4, g5, g6⟩ := vld_of h
  have lb := long_bd y m
  have hd1 : ((1 : Int) == d + 1) = false := by simp; omega
  have gd : d ≤ 31 := by omega
  obtain ⟨M, hM⟩ : ∃ M, 12 * y + m - 1 = M := ⟨_, rfl⟩
  have hMb : 12 ≤ M ∧ M ≤ 119999 := by omega
  have a1 : IntKind.i64.wrap (M + 1) = M + 1 := IntWalk.i64_in _ (by omega)
  have CA := Lib.hid (fun W (hB : Below w.heap.size w W) => show Calls Tryd.prog 14 #[.agg #[.int .i64 y, .int .i64 m, .int .i64 d]] W (fun e w' => e = .returned (.int .i64 M) ∧ Below W.heap.size W w') from
    (month_any y m d W (HL.out _ hB).lens (by have := hB.size; omega)).mono fun e w' ⟨a, b⟩ => ⟨by rw [a]; unfold monB; rw [if_pos h, hM], b⟩)
  have CB := Lib.hid (fun W (hB : Below w.heap.size w W) => show Calls Tryd.prog 14 #[.agg #[.int .i64 y', .int .i64 m', .int .i64 1]] W (fun e w' => e = .returned (.int .i64 (M + 1)) ∧ Below W.heap.size W w') from
    (month_any y' m' 1 W (HL.out _ hB).lens (by have := hB.size; omega)).mono fun e w' ⟨a, b⟩ => ⟨by rw [a]; unfold monB; rw [if_pos h', hm, hM], b⟩)
  have CL := Lib.hid (fun W (hB : Below w.heap.size w W) => show Calls Tryd.prog 26 #[.int .i64 M] W (fun e w' => e = .returned (.int .i64 d) ∧ Below W.heap.size W w') from
    (length_any M W (HL.out _ hB).lens).mono fun e w' ⟨a, b⟩ => ⟨by rw [a, ← hM, lenM_ym g1 g2 g3 g4, ← hd], b ▸ Below.refl _ _⟩)
  have H := Lib.hid h; have H' := Lib.hid h'; have HN := Lib.hid hn; clear h h' hn hd hm hM g1 g2 g3 g4 g6
  go_enter Tryd.func6, Tryd.ntmps6
  go_wp2_with fail
  refine (of_yes _ (HL.out _ (Below.refl _ _)).lens H.out).mono ?_
  rintro e w1 ⟨rfl, hb⟩
  have B1 := Lib.hid (hb.alloc hb.size (.cells #[.int .i64 y, .int .i64 m, .int .i64 d] 23)); clear hb
  go_wp2_with fail
  rw [← HN.out]
  refine (of_yes _ (HL.out _ B1.out).lens H'.out).mono ?_
  rintro e w2 ⟨rfl, hb⟩
  have B2 := Lib.hid (B1.out.trans (hb.mono B1.out.size))
  have D2 := Lib.hid ((DAt.new w1 y m d).below hb)
  have B2a := Lib.hid (B2.out.alloc B2.out.size (.cells #[.int .i64 y', .int .i64 m', .int .i64 1] 23))
  have D2a := Lib.hid (D2.out.alloc (.cells #[.int .i64 y', .int .i64 m', .int .i64 1] 23))
  have E2a := Lib.hid (DAt.new w2 y' m' 1)
  clear hb
  have c0 := D2a.out.c0; have c1 := D2a.out.c1; have c2 := D2a.out.c2
  go_wp2_with fail
  go_region_held3 (fun w' => Below w.heap.size w w' ∧ w'.cell? ⟨w1.heap.size, 0, none⟩ = some (.int .i64 y) ∧ w'.cell? ⟨w1.heap.size, 1, none⟩ = some (.int .i64 m) ∧ w'.cell? ⟨w1.heap.size, 2, none⟩ = some (.int .i64 d) ∧ w'.cell? ⟨w2.heap.size, 0, none⟩ = some (.int .i64 y') ∧ w'.cell? ⟨w2.heap.size, 1, none⟩ = some (.int .i64 m') ∧ w'.cell? ⟨w2.heap.size, 2, none⟩ = some (.int .i64 1))
    (first | exact ⟨B2a.out.drew, c0, c1, c2, E2a.out.c0, E2a.out.c1, E2a.out.c2⟩ | exact keep6 hb ‹_› | go_keep)
    (first
      | (go_at_call 14; first
        | (with_reducible refine (CA.out _ (And.left ‹_›)).mono ?_; rintro e w3 ⟨rfl, hb⟩)
        | (with_reducible refine (CB.out _ (And.left ‹_›)).mono ?_; rintro e w3 ⟨rfl, hb⟩))
      | (go_at_call 26; with_reducible refine (CL.out _ (And.left ‹_›)).mono ?_; rintro e w3 ⟨rfl, hb⟩)
      | (go_at_call 19; with_reducible refine (goes_any _ (HL.out _ (And.left ‹_›))).mono ?_; rintro e w3 ⟨rfl, hb⟩))
  go_wp2
  go_ret
  exact ⟨rfl, And.left ‹Below w.heap.size w _ ∧ _›⟩
theorem civilNext_walk (z : Int) (w : World) (hw : Lw w) (_hq : (Lit.int .i64 z).wf = true) :
    Calls Tryd.prog 6 #[.int .i64 z] w fun e w' => e = .returned (.bool true) ∧ Below w.heap.size w w' := by
  by_cases hz : -719162 ≤ z ∧ z ≤ 2932896
  · obtain ⟨y, m, d, h, hn⟩ := num_has hz.1 hz.2
    by_cases hl : z = 2932896
    · subst hl; exact next_last w hw
    · rcases next_cases h (by omega) with ⟨_, h', hn'⟩ | ⟨hd, y', m', h', hn', hm⟩
      · rw [← hn]; exact next_in w hw h h' hn'
      · rw [← hn]; exact next_month w hw h hd h' hn' hm
  · exact next_out z w hw (by omega)
end Go.Proofs.YtlfkafcmdndlgaaDoor
