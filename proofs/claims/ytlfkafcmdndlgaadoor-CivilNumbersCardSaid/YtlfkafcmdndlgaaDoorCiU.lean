import Derived.Test.YtlfkafcmdndlgaaDoorCiT
import Derived.Test.YtlfkafcmdndlgaaDoorCi12
namespace Go.Proofs.YtlfkafcmdndlgaaDoor
open Go.RowKit Mem Ci
namespace Ci
/-- Both answer the same of a number. -/
theorem of_same (z : Int) : ∃ y m d e : Int, (∀ W, Lens W → Calls Tryd.prog 21 #[.int .i64 z] W fun r w' => r = .returned (.tuple #[.agg #[.int .i64 y, .int .i64 m, .int .i64 d], .int .i64 e]) ∧ Below W.heap.size W w') ∧
    (-800000 ≤ z ∧ z ≤ 3000000 → ∀ W, Calls Tryd.prog 20 #[.int .i64 z] W fun r w' => r = .returned (.tuple #[.agg #[.int .i64 y, .int .i64 m, .int .i64 d], .int .i64 e]) ∧ Below W.heap.size W w') ∧
    (¬ (-800000 ≤ z ∧ z ≤ 3000000) → y = 0 ∧ m = 0 ∧ d = 0 ∧ e = 1) := by
  by_cases hz : -719162 ≤ z ∧ z ≤ 2932896
  · obtain ⟨y, m, d, h, rfl⟩ := num_has hz.1 hz.2
    exact ⟨y, m, d, 0, fun W hW => of_yes W hW h, fun _ W => rof_yes W h, fun k => by omega⟩
  · refine ⟨0, 0, 0, 1, fun W _ => of_out W (by omega), fun k W => ?_, fun _ => ⟨rfl, rfl, rfl, rfl⟩⟩
    rcases (show z < -719162 ∨ 2932896 < z by omega) with g | g
    · exact rof_low z W k.1 g
    · exact rof_high z W g k.2
theorem first_same (q : Int) : ∃ v e : Int, (∀ W, Lens W → Calls Tryd.prog 22 #[.int .i64 q] W fun r w' => r = .returned (.tuple #[.int .i64 v, .int .i64 e]) ∧ W = w') ∧
    (∀ W, Calls Tryd.prog 23 #[.int .i64 q] W fun r w' => r = .returned (.tuple #[.int .i64 v, .int .i64 e]) ∧ Below W.heap.size W w') := by
  by_cases hq : 12 ≤ q ∧ q ≤ 119999
  · exact ⟨fst q, 0, fun W hW => first_in q W hW hq.1 hq.2, fun W => rfirst_in q W hq.1 hq.2⟩
  · exact ⟨0, 1, fun W hW => first_out W hW (by omega), fun W => (rfirst_out W (by omega)).mono fun e w' ⟨a, b⟩ => ⟨a, b ▸ Below.refl _ _⟩⟩
end Ci

set_option maxHeartbeats 4000000 in
theorem num_i_none (z q n : Int) (w : World) (hw : Lw w) (hz : -800000 ≤ z ∧ z ≤ 3000000) (hl : lenM q = 0) :
    Calls Tryd.prog 4 #[.int .i64 z, .int .i64 q, .int .i64 n] w fun e w' => e = .returned (.bool true) ∧ Below w.heap.size w w' := by
  have HL := Lib.hid (fun W (h : Below w.heap.size w W) => hw.below h (Nat.le_refl _))
  have hs := hw.size; clear hw
  obtain ⟨y, m, d, ez, o1, o2, o3⟩ := of_same z
  obtain ⟨v, eq, f1, f2⟩ := first_same q
  have O1 := Lib.hid o1; have F1 := Lib.hid f1; have F2 := Lib.hid f2
  have O2 := Lib.hid (o2 hz)
  obtain ⟨z1, z2⟩ := hz
  clear o1 o2 o3 f1 f2
  have lb := lenM_bd q
  have HC := Lib.hid (fun W (hW : Below w.heap.size w W) => clamp_out q n W (HL.out _ hW).lens (by
    rcases (show q < 12 ∨ 119999 < q ∨ (12 ≤ q ∧ q ≤ 119999) by omega) with k | k | k
    · exact .inl k
    · exact .inr (.inl k)
    · have := lenM_in k.1 k.2; have := long_bd (q / 12) (q % 12 + 1); omega))
  have hl' : (lenM q == 0) = true := by simpa using hl
  clear hl
  go_enter Tryd.func4, Tryd.ntmps4
  go_wp2_with fail
  have B0 := Lib.hid ((Below.refl w.heap.size w).alloc (Nat.le_refl _) (.cells #[.int .i64 0, .int .i64 0, .int .i64 0] 23))
  refine (O2.out _).mono ?_
  rintro e w1 ⟨rfl, hb⟩
  have B1 := Lib.hid (B0.out.trans (hb.mono B0.out.size))
  have D1 := (DAt.new w 0 0 0).below hb
  have g0 : ∀ o, w1.frozen? ⟨w.heap.size, o, none⟩ = false := fun o => by rw [(bcell hb).2 _ _ (by simp)]; simp
  have g1 := g0 0; have g2 := g0 1; have g3 := g0 2; clear g0
  have R := Lib.hid (rel3 (V := w) (a := .int .i64 y) (b := .int .i64 m) (c := .int .i64 d) B1.out (Nat.le_refl _) D1.c0 D1.c1 D1.c2)
  obtain ⟨d0, d1, d2⟩ := D1
  clear hb
  go_wp2_with fail
  generalize hV : ((w1.setCell ⟨w.heap.size, 0, none⟩ (.int .i64 y)).setCell ⟨w.heap.size, 1, none⟩ (.int .i64 m)).setCell ⟨w.heap.size, 2, none⟩ (.int .i64 d) = V
  have BV := Lib.hid (show Below w.heap.size w V from hV ▸ R.out.1)
  have DV := Lib.hid (show DAt V w.heap.size y m d from hV ▸ ⟨R.out.2.1, R.out.2.2.1, R.out.2.2.2⟩)
  clear hV R d0 d1 d2 g1 g2 g3
  refine (O1.out _ (HL.out _ BV.out).lens).mono ?_
  rintro e w2 ⟨rfl, hb⟩
  have B2 := Lib.hid (BV.out.trans (hb.mono BV.out.size))
  have D2 := Lib.hid (DV.out.below hb)
  have B2a := Lib.hid (B2.out.alloc B2.out.size (.cells #[.int .i64 y, .int .i64 m, .int .i64 d] 23))
  have D2a := Lib.hid (D2.out.alloc (.cells #[.int .i64 y, .int .i64 m, .int .i64 d] 23))
  have E2a := Lib.hid (DAt.new w2 y m d)
  clear hb
  go_wp2_with fail
  refine (F1.out _ (HL.out _ B2a.out).lens).mono ?_
  rintro e w3 ⟨rfl, rfl⟩
  go_wp2_with fail
  refine (F2.out _).mono ?_
  rintro e w3 ⟨rfl, hb⟩
  have B3 := Lib.hid (B2a.out.trans (hb.mono B2a.out.size))
  have D3 := Lib.hid (D2a.out.below hb)
  have E3 := Lib.hid (E2a.out.below hb)
  clear hb
  go_wp2_with fail
  refine (HC.out _ B3.out).mono ?_
  rintro e w4 ⟨rfl, hb⟩
  have B4 := Lib.hid (B3.out.trans (hb.mono B3.out.size))
  have D4 := Lib.hid (D3.out.below hb)
  have E4 := Lib.hid (E3.out.below hb)
  clear hb
  have B4a := Lib.hid (B4.out.alloc B4.out.size (.cells #[.int .i64 0, .int .i64 0, .int .i64 0] 23))
  have D4a := Lib.hid (D4.out.alloc (.cells #[.int .i64 0, .int .i64 0, .int .i64 0] 23))
  have E4a := Lib.hid (E4.out.alloc (.cells #[.int .i64 0, .int .i64 0, .int .i64 0] 23))
  have x0 := D4a.out.c0; have x1 := D4a.out.c1; have x2 := D4a.out.c2
  have y0 := E4a.out.c0; have y1 := E4a.out.c1; have y2 := E4a.out.c2
  go_wp2_with fail
  refine (rlength_any q _).mono ?_
  rintro e w5 ⟨rfl, rfl⟩
  go_wp2_with fail
  refine (length_any q _ (HL.out _ B4a.out).lens).mono ?_
  rintro e w5 ⟨rfl, rfl⟩
  go_wp2_with fail
  refine (goes_any _ (HL.out _ B4a.out)).mono ?_
  rintro e w6 ⟨rfl, hb⟩
  have X6 := Lib.hid (B4a.out.trans (hb.mono B4a.out.size))
  clear hb x0 x1 x2 y0 y1 y2
  go_wp2_with fail
  go_ret
  exact ⟨rfl, X6.out⟩

set_option maxHeartbeats 4000000 in
theorem num_i_low (z q n : Int) (w : World) (hw : Lw w) (hz : -800000 ≤ z ∧ z ≤ 3000000) (hl : lenM q ≠ 0) (hn : n < 1) :
    Calls Tryd.prog 4 #[.int .i64 z, .int .i64 q, .int .i64 n] w fun e w' => e = .returned (.bool true) ∧ Below w.heap.size w w' := by
  have HL := Lib.hid (fun W (h : Below w.heap.size w W) => hw.below h (Nat.le_refl _))
  have hs := hw.size; clear hw
  obtain ⟨y, m, d, ez, o1, o2, o3⟩ := of_same z
  obtain ⟨v, eq, f1, f2⟩ := first_same q
  have O1 := Lib.hid o1; have F1 := Lib.hid f1; have F2 := Lib.hid f2
  have O2 := Lib.hid (o2 hz)
  obtain ⟨z1, z2⟩ := hz
  clear o1 o2 o3 f1 f2
  have lb := lenM_bd q
  have HC := Lib.hid (fun W (hW : Below w.heap.size w W) => clamp_out q n W (HL.out _ hW).lens (.inr (.inr hn)))
  have hl' : (lenM q == 0) = false := by simpa using hl
  clear hl
  go_enter Tryd.func4, Tryd.ntmps4
  go_wp2_with fail
  have B0 := Lib.hid ((Below.refl w.heap.size w).alloc (Nat.le_refl _) (.cells #[.int .i64 0, .int .i64 0, .int .i64 0] 23))
  refine (O2.out _).mono ?_
  rintro e w1 ⟨rfl, hb⟩
  have B1 := Lib.hid (B0.out.trans (hb.mono B0.out.size))
  have D1 := (DAt.new w 0 0 0).below hb
  have g0 : ∀ o, w1.frozen? ⟨w.heap.size, o, none⟩ = false := fun o => by rw [(bcell hb).2 _ _ (by simp)]; simp
  have g1 := g0 0; have g2 := g0 1; have g3 := g0 2; clear g0
  have R := Lib.hid (rel3 (V := w) (a := .int .i64 y) (b := .int .i64 m) (c := .int .i64 d) B1.out (Nat.le_refl _) D1.c0 D1.c1 D1.c2)
  obtain ⟨d0, d1, d2⟩ := D1
  clear hb
  go_wp2_with fail
  generalize hV : ((w1.setCell ⟨w.heap.size, 0, none⟩ (.int .i64 y)).setCell ⟨w.heap.size, 1, none⟩ (.int .i64 m)).setCell ⟨w.heap.size, 2, none⟩ (.int .i64 d) = V
  have BV := Lib.hid (show Below w.heap.size w V from hV ▸ R.out.1)
  have DV := Lib.hid (show DAt V w.heap.size y m d from hV ▸ ⟨R.out.2.1, R.out.2.2.1, R.out.2.2.2⟩)
  clear hV R d0 d1 d2 g1 g2 g3
  refine (O1.out _ (HL.out _ BV.out).lens).mono ?_
  rintro e w2 ⟨rfl, hb⟩
  have B2 := Lib.hid (BV.out.trans (hb.mono BV.out.size))
  have D2 := Lib.hid (DV.out.below hb)
  have B2a := Lib.hid (B2.out.alloc B2.out.size (.cells #[.int .i64 y, .int .i64 m, .int .i64 d] 23))
  have D2a := Lib.hid (D2.out.alloc (.cells #[.int .i64 y, .int .i64 m, .int .i64 d] 23))
  have E2a := Lib.hid (DAt.new w2 y m d)
  clear hb
  go_wp2_with fail
  refine (F1.out _ (HL.out _ B2a.out).lens).mono ?_
  rintro e w3 ⟨rfl, rfl⟩
  go_wp2_with fail
  refine (F2.out _).mono ?_
  rintro e w3 ⟨rfl, hb⟩
  have B3 := Lib.hid (B2a.out.trans (hb.mono B2a.out.size))
  have D3 := Lib.hid (D2a.out.below hb)
  have E3 := Lib.hid (E2a.out.below hb)
  clear hb
  go_wp2_with fail
  refine (HC.out _ B3.out).mono ?_
  rintro e w4 ⟨rfl, hb⟩
  have B4 := Lib.hid (B3.out.trans (hb.mono B3.out.size))
  have D4 := Lib.hid (D3.out.below hb)
  have E4 := Lib.hid (E3.out.below hb)
  clear hb
  have B4a := Lib.hid (B4.out.alloc B4.out.size (.cells #[.int .i64 0, .int .i64 0, .int .i64 0] 23))
  have D4a := Lib.hid (D4.out.alloc (.cells #[.int .i64 0, .int .i64 0, .int .i64 0] 23))
  have E4a := Lib.hid (E4.out.alloc (.cells #[.int .i64 0, .int .i64 0, .int .i64 0] 23))
  have x0 := D4a.out.c0; have x1 := D4a.out.c1; have x2 := D4a.out.c2
  have y0 := E4a.out.c0; have y1 := E4a.out.c1; have y2 := E4a.out.c2
  go_wp2_with fail
  refine (rlength_any q _).mono ?_
  rintro e w5 ⟨rfl, rfl⟩
  go_wp2_with fail
  refine (length_any q _ (HL.out _ B4a.out).lens).mono ?_
  rintro e w5 ⟨rfl, rfl⟩
  go_wp2_with fail
  refine (goes_any _ (HL.out _ B4a.out)).mono ?_
  rintro e w6 ⟨rfl, hb⟩
  have X6 := Lib.hid (B4a.out.trans (hb.mono B4a.out.size))
  clear hb x0 x1 x2 y0 y1 y2
  go_wp2_with fail
  go_ret
  exact ⟨rfl, X6.out⟩

set_option maxHeartbeats 4000000 in
theorem num_i_less (z q n : Int) (w : World) (hw : Lw w) (hz : -800000 ≤ z ∧ z ≤ 3000000) (hl : lenM q ≠ 0) (hn : 1 ≤ n) (hm : n ≤ lenM q) :
    Calls Tryd.prog 4 #[.int .i64 z, .int .i64 q, .int .i64 n] w fun e w' => e = .returned (.bool true) ∧ Below w.heap.size w w' := by
  have HL := Lib.hid (fun W (h : Below w.heap.size w W) => hw.below h (Nat.le_refl _))
  have hs := hw.size; clear hw
  obtain ⟨y, m, d, ez, o1, o2, o3⟩ := of_same z
  obtain ⟨v, eq, f1, f2⟩ := first_same q
  have O1 := Lib.hid o1; have F1 := Lib.hid f1; have F2 := Lib.hid f2
  have O2 := Lib.hid (o2 hz)
  obtain ⟨z1, z2⟩ := hz
  clear o1 o2 o3 f1 f2
  have lb := lenM_bd q
  have hq : 12 ≤ q ∧ q ≤ 119999 := by
    rcases (show q < 12 ∨ 119999 < q ∨ (12 ≤ q ∧ q ≤ 119999) by omega) with k | k | k
    · exact absurd (lenM_out (.inl k)) hl
    · exact absurd (lenM_out (.inr k)) hl
    · exact k
  obtain ⟨q1, q2⟩ := hq
  have hc := fun W (hW : Below w.heap.size w W) => clamp_in q n W (HL.out _ hW).lens q1 q2 hn
  rw [show min n (lenM q) = n by omega] at hc
  have HC := Lib.hid hc; clear hc
  have hl' : (lenM q == 0) = false := by simpa using hl
  clear hl
  go_enter Tryd.func4, Tryd.ntmps4
  go_wp2_with fail
  have B0 := Lib.hid ((Below.refl w.heap.size w).alloc (Nat.le_refl _) (.cells #[.int .i64 0, .int .i64 0, .int .i64 0] 23))
  refine (O2.out _).mono ?_
  rintro e w1 ⟨rfl, hb⟩
  have B1 := Lib.hid (B0.out.trans (hb.mono B0.out.size))
  have D1 := (DAt.new w 0 0 0).below hb
  have g0 : ∀ o, w1.frozen? ⟨w.heap.size, o, none⟩ = false := fun o => by rw [(bcell hb).2 _ _ (by simp)]; simp
  have g1 := g0 0; have g2 := g0 1; have g3 := g0 2; clear g0
  have R := Lib.hid (rel3 (V := w) (a := .int .i64 y) (b := .int .i64 m) (c := .int .i64 d) B1.out (Nat.le_refl _) D1.c0 D1.c1 D1.c2)
  obtain ⟨d0, d1, d2⟩ := D1
  clear hb
  go_wp2_with fail
  generalize hV : ((w1.setCell ⟨w.heap.size, 0, none⟩ (.int .i64 y)).setCell ⟨w.heap.size, 1, none⟩ (.int .i64 m)).setCell ⟨w.heap.size, 2, none⟩ (.int .i64 d) = V
  have BV := Lib.hid (show Below w.heap.size w V from hV ▸ R.out.1)
  have DV := Lib.hid (show DAt V w.heap.size y m d from hV ▸ ⟨R.out.2.1, R.out.2.2.1, R.out.2.2.2⟩)
  clear hV R d0 d1 d2 g1 g2 g3
  refine (O1.out _ (HL.out _ BV.out).lens).mono ?_
  rintro e w2 ⟨rfl, hb⟩
  have B2 := Lib.hid (BV.out.trans (hb.mono BV.out.size))
  have D2 := Lib.hid (DV.out.below hb)
  have B2a := Lib.hid (B2.out.alloc B2.out.size (.cells #[.int .i64 y, .int .i64 m, .int .i64 d] 23))
  have D2a := Lib.hid (D2.out.alloc (.cells #[.int .i64 y, .int .i64 m, .int .i64 d] 23))
  have E2a := Lib.hid (DAt.new w2 y m d)
  clear hb
  go_wp2_with fail
  refine (F1.out _ (HL.out _ B2a.out).lens).mono ?_
  rintro e w3 ⟨rfl, rfl⟩
  go_wp2_with fail
  refine (F2.out _).mono ?_
  rintro e w3 ⟨rfl, hb⟩
  have B3 := Lib.hid (B2a.out.trans (hb.mono B2a.out.size))
  have D3 := Lib.hid (D2a.out.below hb)
  have E3 := Lib.hid (E2a.out.below hb)
  clear hb
  go_wp2_with fail
  refine (HC.out _ B3.out).mono ?_
  rintro e w4 ⟨rfl, hb⟩
  have B4 := Lib.hid (B3.out.trans (hb.mono B3.out.size))
  have D4 := Lib.hid (D3.out.below hb)
  have E4 := Lib.hid (E3.out.below hb)
  clear hb
  have B4a := Lib.hid (B4.out.alloc B4.out.size (.cells #[.int .i64 (q / 12), .int .i64 (q % 12 + 1), .int .i64 n] 23))
  have D4a := Lib.hid (D4.out.alloc (.cells #[.int .i64 (q / 12), .int .i64 (q % 12 + 1), .int .i64 n] 23))
  have E4a := Lib.hid (E4.out.alloc (.cells #[.int .i64 (q / 12), .int .i64 (q % 12 + 1), .int .i64 n] 23))
  have x0 := D4a.out.c0; have x1 := D4a.out.c1; have x2 := D4a.out.c2
  have y0 := E4a.out.c0; have y1 := E4a.out.c1; have y2 := E4a.out.c2
  go_wp2_with fail
  refine (rlength_any q _).mono ?_
  rintro e w5 ⟨rfl, rfl⟩
  go_wp2_with fail
  refine (length_any q _ (HL.out _ B4a.out).lens).mono ?_
  rintro e w5 ⟨rfl, rfl⟩
  go_wp2_with fail
  refine (goes_any _ (HL.out _ B4a.out)).mono ?_
  rintro e w6 ⟨rfl, hb⟩
  have X6 := Lib.hid (B4a.out.trans (hb.mono B4a.out.size))
  clear hb x0 x1 x2 y0 y1 y2
  go_wp2_with fail
  go_ret
  exact ⟨rfl, X6.out⟩

set_option maxHeartbeats 4000000 in
theorem num_i_more (z q n : Int) (w : World) (hw : Lw w) (hz : -800000 ≤ z ∧ z ≤ 3000000) (hl : lenM q ≠ 0) (hn : 1 ≤ n) (hm : lenM q < n) :
    Calls Tryd.prog 4 #[.int .i64 z, .int .i64 q, .int .i64 n] w fun e w' => e = .returned (.bool true) ∧ Below w.heap.size w w' := by
  have HL := Lib.hid (fun W (h : Below w.heap.size w W) => hw.below h (Nat.le_refl _))
  have hs := hw.size; clear hw
  obtain ⟨y, m, d, ez, o1, o2, o3⟩ := of_same z
  obtain ⟨v, eq, f1, f2⟩ := first_same q
  have O1 := Lib.hid o1; have F1 := Lib.hid f1; have F2 := Lib.hid f2
  have O2 := Lib.hid (o2 hz)
  obtain ⟨z1, z2⟩ := hz
  clear o1 o2 o3 f1 f2
  have lb := lenM_bd q
  have hq : 12 ≤ q ∧ q ≤ 119999 := by
    rcases (show q < 12 ∨ 119999 < q ∨ (12 ≤ q ∧ q ≤ 119999) by omega) with k | k | k
    · exact absurd (lenM_out (.inl k)) hl
    · exact absurd (lenM_out (.inr k)) hl
    · exact k
  obtain ⟨q1, q2⟩ := hq
  have hc := fun W (hW : Below w.heap.size w W) => clamp_in q n W (HL.out _ hW).lens q1 q2 hn
  rw [show min n (lenM q) = lenM q by omega] at hc
  have HC := Lib.hid hc; clear hc
  have hl' : (lenM q == 0) = false := by simpa using hl
  clear hl
  go_enter Tryd.func4, Tryd.ntmps4
  go_wp2_with fail
  have B0 := Lib.hid ((Below.refl w.heap.size w).alloc (Nat.le_refl _) (.cells #[.int .i64 0, .int .i64 0, .int .i64 0] 23))
  refine (O2.out _).mono ?_
  rintro e w1 ⟨rfl, hb⟩
  have B1 := Lib.hid (B0.out.trans (hb.mono B0.out.size))
  have D1 := (DAt.new w 0 0 0).below hb
  have g0 : ∀ o, w1.frozen? ⟨w.heap.size, o, none⟩ = false := fun o => by rw [(bcell hb).2 _ _ (by simp)]; simp
  have g1 := g0 0; have g2 := g0 1; have g3 := g0 2; clear g0
  have R := Lib.hid (rel3 (V := w) (a := .int .i64 y) (b := .int .i64 m) (c := .int .i64 d) B1.out (Nat.le_refl _) D1.c0 D1.c1 D1.c2)
  obtain ⟨d0, d1, d2⟩ := D1
  clear hb
  go_wp2_with fail
  generalize hV : ((w1.setCell ⟨w.heap.size, 0, none⟩ (.int .i64 y)).setCell ⟨w.heap.size, 1, none⟩ (.int .i64 m)).setCell ⟨w.heap.size, 2, none⟩ (.int .i64 d) = V
  have BV := Lib.hid (show Below w.heap.size w V from hV ▸ R.out.1)
  have DV := Lib.hid (show DAt V w.heap.size y m d from hV ▸ ⟨R.out.2.1, R.out.2.2.1, R.out.2.2.2⟩)
  clear hV R d0 d1 d2 g1 g2 g3
  refine (O1.out _ (HL.out _ BV.out).lens).mono ?_
  rintro e w2 ⟨rfl, hb⟩
  have B2 := Lib.hid (BV.out.trans (hb.mono BV.out.size))
  have D2 := Lib.hid (DV.out.below hb)
  have B2a := Lib.hid (B2.out.alloc B2.out.size (.cells #[.int .i64 y, .int .i64 m, .int .i64 d] 23))
  have D2a := Lib.hid (D2.out.alloc (.cells #[.int .i64 y, .int .i64 m, .int .i64 d] 23))
  have E2a := Lib.hid (DAt.new w2 y m d)
  clear hb
  go_wp2_with fail
  refine (F1.out _ (HL.out _ B2a.out).lens).mono ?_
  rintro e w3 ⟨rfl, rfl⟩
  go_wp2_with fail
  refine (F2.out _).mono ?_
  rintro e w3 ⟨rfl, hb⟩
  have B3 := Lib.hid (B2a.out.trans (hb.mono B2a.out.size))
  have D3 := Lib.hid (D2a.out.below hb)
  have E3 := Lib.hid (E2a.out.below hb)
  clear hb
  go_wp2_with fail
  refine (HC.out _ B3.out).mono ?_
  rintro e w4 ⟨rfl, hb⟩
  have B4 := Lib.hid (B3.out.trans (hb.mono B3.out.size))
  have D4 := Lib.hid (D3.out.below hb)
  have E4 := Lib.hid (E3.out.below hb)
  clear hb
  have B4a := Lib.hid (B4.out.alloc B4.out.size (.cells #[.int .i64 (q / 12), .int .i64 (q % 12 + 1), .int .i64 (lenM q)] 23))
  have D4a := Lib.hid (D4.out.alloc (.cells #[.int .i64 (q / 12), .int .i64 (q % 12 + 1), .int .i64 (lenM q)] 23))
  have E4a := Lib.hid (E4.out.alloc (.cells #[.int .i64 (q / 12), .int .i64 (q % 12 + 1), .int .i64 (lenM q)] 23))
  have x0 := D4a.out.c0; have x1 := D4a.out.c1; have x2 := D4a.out.c2
  have y0 := E4a.out.c0; have y1 := E4a.out.c1; have y2 := E4a.out.c2
  go_wp2_with fail
  refine (rlength_any q _).mono ?_
  rintro e w5 ⟨rfl, rfl⟩
  go_wp2_with fail
  refine (length_any q _ (HL.out _ B4a.out).lens).mono ?_
  rintro e w5 ⟨rfl, rfl⟩
  go_wp2_with fail
  refine (goes_any _ (HL.out _ B4a.out)).mono ?_
  rintro e w6 ⟨rfl, hb⟩
  have X6 := Lib.hid (B4a.out.trans (hb.mono B4a.out.size))
  clear hb x0 x1 x2 y0 y1 y2
  go_wp2_with fail
  go_ret
  exact ⟨rfl, X6.out⟩

set_option maxHeartbeats 4000000 in
theorem num_o_none (z q n : Int) (w : World) (hw : Lw w) (hz : ¬ (-800000 ≤ z ∧ z ≤ 3000000)) (hl : lenM q = 0) :
    Calls Tryd.prog 4 #[.int .i64 z, .int .i64 q, .int .i64 n] w fun e w' => e = .returned (.bool true) ∧ Below w.heap.size w w' := by
  have HL := Lib.hid (fun W (h : Below w.heap.size w W) => hw.below h (Nat.le_refl _))
  have hs := hw.size; clear hw
  obtain ⟨y, m, d, ez, o1, o2, o3⟩ := of_same z
  obtain ⟨v, eq, f1, f2⟩ := first_same q
  have O1 := Lib.hid o1; have F1 := Lib.hid f1; have F2 := Lib.hid f2
  obtain ⟨rfl, rfl, rfl, rfl⟩ := o3 hz
  clear o1 o2 o3 f1 f2
  have lb := lenM_bd q
  have HC := Lib.hid (fun W (hW : Below w.heap.size w W) => clamp_out q n W (HL.out _ hW).lens (by
    rcases (show q < 12 ∨ 119999 < q ∨ (12 ≤ q ∧ q ≤ 119999) by omega) with k | k | k
    · exact .inl k
    · exact .inr (.inl k)
    · have := lenM_in k.1 k.2; have := long_bd (q / 12) (q % 12 + 1); omega))
  have hl' : (lenM q == 0) = true := by simpa using hl
  clear hl
  go_enter Tryd.func4, Tryd.ntmps4
  have B0 := Lib.hid ((Below.refl w.heap.size w).alloc (Nat.le_refl _) (.cells #[.int .i64 0, .int .i64 0, .int .i64 0] 23))
  have D0 := Lib.hid (DAt.new w 0 0 0)
  have hz3 : z < -800000 ∨ (-800000 ≤ z ∧ 3000000 < z) := by omega
  clear hz
  rcases hz3 with z1 | ⟨z1, z2⟩ <;> (
    go_wp2_with fail
    refine (O1.out _ (HL.out _ B0.out).lens).mono ?_
    rintro e w2 ⟨rfl, hb⟩
    have B2 := Lib.hid (B0.out.trans (hb.mono B0.out.size))
    have D2 := Lib.hid (D0.out.below hb)
    have B2a := Lib.hid (B2.out.alloc B2.out.size (.cells #[.int .i64 0, .int .i64 0, .int .i64 0] 23))
    have D2a := Lib.hid (D2.out.alloc (.cells #[.int .i64 0, .int .i64 0, .int .i64 0] 23))
    have E2a := Lib.hid (DAt.new w2 0 0 0)
    clear hb
    go_wp2_with fail
    refine (F1.out _ (HL.out _ B2a.out).lens).mono ?_
    rintro e w3 ⟨rfl, rfl⟩
    go_wp2_with fail
    refine (F2.out _).mono ?_
    rintro e w3 ⟨rfl, hb⟩
    have B3 := Lib.hid (B2a.out.trans (hb.mono B2a.out.size))
    have D3 := Lib.hid (D2a.out.below hb)
    have E3 := Lib.hid (E2a.out.below hb)
    clear hb
    go_wp2_with fail
    refine (HC.out _ B3.out).mono ?_
    rintro e w4 ⟨rfl, hb⟩
    have B4 := Lib.hid (B3.out.trans (hb.mono B3.out.size))
    have D4 := Lib.hid (D3.out.below hb)
    have E4 := Lib.hid (E3.out.below hb)
    clear hb
    have B4a := Lib.hid (B4.out.alloc B4.out.size (.cells #[.int .i64 0, .int .i64 0, .int .i64 0] 23))
    have D4a := Lib.hid (D4.out.alloc (.cells #[.int .i64 0, .int .i64 0, .int .i64 0] 23))
    have E4a := Lib.hid (E4.out.alloc (.cells #[.int .i64 0, .int .i64 0, .int .i64 0] 23))
    have x0 := D4a.out.c0; have x1 := D4a.out.c1; have x2 := D4a.out.c2
    have y0 := E4a.out.c0; have y1 := E4a.out.c1; have y2 := E4a.out.c2
    go_wp2_with fail
    refine (rlength_any q _).mono ?_
    rintro e w5 ⟨rfl, rfl⟩
    go_wp2_with fail
    refine (length_any q _ (HL.out _ B4a.out).lens).mono ?_
    rintro e w5 ⟨rfl, rfl⟩
    go_wp2_with fail
    refine (goes_any _ (HL.out _ B4a.out)).mono ?_
    rintro e w6 ⟨rfl, hb⟩
    have X6 := Lib.hid (B4a.out.trans (hb.mono B4a.out.size))
    clear hb x0 x1 x2 y0 y1 y2
    go_wp2_with fail
    go_ret
    exact ⟨rfl, X6.out⟩)

set_option maxHeartbeats 4000000 in
theorem num_o_low (z q n : Int) (w : World) (hw : Lw w) (hz : ¬ (-800000 ≤ z ∧ z ≤ 3000000)) (hl : lenM q ≠ 0) (hn : n < 1) :
    Calls Tryd.prog 4 #[.int .i64 z, .int .i64 q, .int .i64 n] w fun e w' => e = .returned (.bool true) ∧ Below w.heap.size w w' := by
  have HL := Lib.hid (fun W (h : Below w.heap.size w W) => hw.below h (Nat.le_refl _))
  have hs := hw.size; clear hw
  obtain ⟨y, m, d, ez, o1, o2, o3⟩ := of_same z
  obtain ⟨v, eq, f1, f2⟩ := first_same q
  have O1 := Lib.hid o1; have F1 := Lib.hid f1; have F2 := Lib.hid f2
  obtain ⟨rfl, rfl, rfl, rfl⟩ := o3 hz
  clear o1 o2 o3 f1 f2
  have lb := lenM_bd q
  have HC := Lib.hid (fun W (hW : Below w.heap.size w W) => clamp_out q n W (HL.out _ hW).lens (.inr (.inr hn)))
  have hl' : (lenM q == 0) = false := by simpa using hl
  clear hl
  go_enter Tryd.func4, Tryd.ntmps4
  have B0 := Lib.hid ((Below.refl w.heap.size w).alloc (Nat.le_refl _) (.cells #[.int .i64 0, .int .i64 0, .int .i64 0] 23))
  have D0 := Lib.hid (DAt.new w 0 0 0)
  have hz3 : z < -800000 ∨ (-800000 ≤ z ∧ 3000000 < z) := by omega
  clear hz
  rcases hz3 with z1 | ⟨z1, z2⟩ <;> (
    go_wp2_with fail
    refine (O1.out _ (HL.out _ B0.out).lens).mono ?_
    rintro e w2 ⟨rfl, hb⟩
    have B2 := Lib.hid (B0.out.trans (hb.mono B0.out.size))
    have D2 := Lib.hid (D0.out.below hb)
    have B2a := Lib.hid (B2.out.alloc B2.out.size (.cells #[.int .i64 0, .int .i64 0, .int .i64 0] 23))
    have D2a := Lib.hid (D2.out.alloc (.cells #[.int .i64 0, .int .i64 0, .int .i64 0] 23))
    have E2a := Lib.hid (DAt.new w2 0 0 0)
    clear hb
    go_wp2_with fail
    refine (F1.out _ (HL.out _ B2a.out).lens).mono ?_
    rintro e w3 ⟨rfl, rfl⟩
    go_wp2_with fail
    refine (F2.out _).mono ?_
    rintro e w3 ⟨rfl, hb⟩
    have B3 := Lib.hid (B2a.out.trans (hb.mono B2a.out.size))
    have D3 := Lib.hid (D2a.out.below hb)
    have E3 := Lib.hid (E2a.out.below hb)
    clear hb
    go_wp2_with fail
    refine (HC.out _ B3.out).mono ?_
    rintro e w4 ⟨rfl, hb⟩
    have B4 := Lib.hid (B3.out.trans (hb.mono B3.out.size))
    have D4 := Lib.hid (D3.out.below hb)
    have E4 := Lib.hid (E3.out.below hb)
    clear hb
    have B4a := Lib.hid (B4.out.alloc B4.out.size (.cells #[.int .i64 0, .int .i64 0, .int .i64 0] 23))
    have D4a := Lib.hid (D4.out.alloc (.cells #[.int .i64 0, .int .i64 0, .int .i64 0] 23))
    have E4a := Lib.hid (E4.out.alloc (.cells #[.int .i64 0, .int .i64 0, .int .i64 0] 23))
    have x0 := D4a.out.c0; have x1 := D4a.out.c1; have x2 := D4a.out.c2
    have y0 := E4a.out.c0; have y1 := E4a.out.c1; have y2 := E4a.out.c2
    go_wp2_with fail
    refine (rlength_any q _).mono ?_
    rintro e w5 ⟨rfl, rfl⟩
    go_wp2_with fail
    refine (length_any q _ (HL.out _ B4a.out).lens).mono ?_
    rintro e w5 ⟨rfl, rfl⟩
    go_wp2_with fail
    refine (goes_any _ (HL.out _ B4a.out)).mono ?_
    rintro e w6 ⟨rfl, hb⟩
    have X6 := Lib.hid (B4a.out.trans (hb.mono B4a.out.size))
    clear hb x0 x1 x2 y0 y1 y2
    go_wp2_with fail
    go_ret
    exact ⟨rfl, X6.out⟩)

set_option maxHeartbeats 4000000 in
theorem num_o_less (z q n : Int) (w : World) (hw : Lw w) (hz : ¬ (-800000 ≤ z ∧ z ≤ 3000000)) (hl : lenM q ≠ 0) (hn : 1 ≤ n) (hm : n ≤ lenM q) :
    Calls Tryd.prog 4 #[.int .i64 z, .int .i64 q, .int .i64 n] w fun e w' => e = .returned (.bool true) ∧ Below w.heap.size w w' := by
  have HL := Lib.hid (fun W (h : Below w.heap.size w W) => hw.below h (Nat.le_refl _))
  have hs := hw.size; clear hw
  obtain ⟨y, m, d, ez, o1, o2, o3⟩ := of_same z
  obtain ⟨v, eq, f1, f2⟩ := first_same q
  have O1 := Lib.hid o1; have F1 := Lib.hid f1; have F2 := Lib.hid f2
  obtain ⟨rfl, rfl, rfl, rfl⟩ := o3 hz
  clear o1 o2 o3 f1 f2
  have lb := lenM_bd q
  have hq : 12 ≤ q ∧ q ≤ 119999 := by
    rcases (show q < 12 ∨ 119999 < q ∨ (12 ≤ q ∧ q ≤ 119999) by omega) with k | k | k
    · exact absurd (lenM_out (.inl k)) hl
    · exact absurd (lenM_out (.inr k)) hl
    · exact k
  obtain ⟨q1, q2⟩ := hq
  have hc := fun W (hW : Below w.heap.size w W) => clamp_in q n W (HL.out _ hW).lens q1 q2 hn
  rw [show min n (lenM q) = n by omega] at hc
  have HC := Lib.hid hc; clear hc
  have hl' : (lenM q == 0) = false := by simpa using hl
  clear hl
  go_enter Tryd.func4, Tryd.ntmps4
  have B0 := Lib.hid ((Below.refl w.heap.size w).alloc (Nat.le_refl _) (.cells #[.int .i64 0, .int .i64 0, .int .i64 0] 23))
  have D0 := Lib.hid (DAt.new w 0 0 0)
  have hz3 : z < -800000 ∨ (-800000 ≤ z ∧ 3000000 < z) := by omega
  clear hz
  rcases hz3 with z1 | ⟨z1, z2⟩ <;> (
    go_wp2_with fail
    refine (O1.out _ (HL.out _ B0.out).lens).mono ?_
    rintro e w2 ⟨rfl, hb⟩
    have B2 := Lib.hid (B0.out.trans (hb.mono B0.out.size))
    have D2 := Lib.hid (D0.out.below hb)
    have B2a := Lib.hid (B2.out.alloc B2.out.size (.cells #[.int .i64 0, .int .i64 0, .int .i64 0] 23))
    have D2a := Lib.hid (D2.out.alloc (.cells #[.int .i64 0, .int .i64 0, .int .i64 0] 23))
    have E2a := Lib.hid (DAt.new w2 0 0 0)
    clear hb
    go_wp2_with fail
    refine (F1.out _ (HL.out _ B2a.out).lens).mono ?_
    rintro e w3 ⟨rfl, rfl⟩
    go_wp2_with fail
    refine (F2.out _).mono ?_
    rintro e w3 ⟨rfl, hb⟩
    have B3 := Lib.hid (B2a.out.trans (hb.mono B2a.out.size))
    have D3 := Lib.hid (D2a.out.below hb)
    have E3 := Lib.hid (E2a.out.below hb)
    clear hb
    go_wp2_with fail
    refine (HC.out _ B3.out).mono ?_
    rintro e w4 ⟨rfl, hb⟩
    have B4 := Lib.hid (B3.out.trans (hb.mono B3.out.size))
    have D4 := Lib.hid (D3.out.below hb)
    have E4 := Lib.hid (E3.out.below hb)
    clear hb
    have B4a := Lib.hid (B4.out.alloc B4.out.size (.cells #[.int .i64 (q / 12), .int .i64 (q % 12 + 1), .int .i64 n] 23))
    have D4a := Lib.hid (D4.out.alloc (.cells #[.int .i64 (q / 12), .int .i64 (q % 12 + 1), .int .i64 n] 23))
    have E4a := Lib.hid (E4.out.alloc (.cells #[.int .i64 (q / 12), .int .i64 (q % 12 + 1), .int .i64 n] 23))
    have x0 := D4a.out.c0; have x1 := D4a.out.c1; have x2 := D4a.out.c2
    have y0 := E4a.out.c0; have y1 := E4a.out.c1; have y2 := E4a.out.c2
    go_wp2_with fail
    refine (rlength_any q _).mono ?_
    rintro e w5 ⟨rfl, rfl⟩
    go_wp2_with fail
    refine (length_any q _ (HL.out _ B4a.out).lens).mono ?_
    rintro e w5 ⟨rfl, rfl⟩
    go_wp2_with fail
    refine (goes_any _ (HL.out _ B4a.out)).mono ?_
    rintro e w6 ⟨rfl, hb⟩
    have X6 := Lib.hid (B4a.out.trans (hb.mono B4a.out.size))
    clear hb x0 x1 x2 y0 y1 y2
    go_wp2_with fail
    go_ret
    exact ⟨rfl, X6.out⟩)

set_option maxHeartbeats 4000000 in
theorem num_o_more (z q n : Int) (w : World) (hw : Lw w) (hz : ¬ (-800000 ≤ z ∧ z ≤ 3000000)) (hl : lenM q ≠ 0) (hn : 1 ≤ n) (hm : lenM q < n) :
    Calls Tryd.prog 4 #[.int .i64 z, .int .i64 q, .int .i64 n] w fun e w' => e = .returned (.bool true) ∧ Below w.heap.size w w' := by
  have HL := Lib.hid (fun W (h : Below w.heap.size w W) => hw.below h (Nat.le_refl _))
  have hs := hw.size; clear hw
  obtain ⟨y, m, d, ez, o1, o2, o3⟩ := of_same z
  obtain ⟨v, eq, f1, f2⟩ := first_same q
  have O1 := Lib.hid o1; have F1 := Lib.hid f1; have F2 := Lib.hid f2
  obtain ⟨rfl, rfl, rfl, rfl⟩ := o3 hz
  clear o1 o2 o3 f1 f2
  have lb := lenM_bd q
  have hq : 12 ≤ q ∧ q ≤ 119999 := by
    rcases (show q < 12 ∨ 119999 < q ∨ (12 ≤ q ∧ q ≤ 119999) by omega) with k | k | k
    · exact absurd (lenM_out (.inl k)) hl
    · exact absurd (lenM_out (.inr k)) hl
    · exact k
  obtain ⟨q1, q2⟩ := hq
  have hc := fun W (hW : Below w.heap.size w W) => clamp_in q n W (HL.out _ hW).lens q1 q2 hn
  rw [show min n (lenM q) = lenM q by omega] at hc
  have HC := Lib.hid hc; clear hc
  have hl' : (lenM q == 0) = false := by simpa using hl
  clear hl
  go_enter Tryd.func4, Tryd.ntmps4
  have B0 := Lib.hid ((Below.refl w.heap.size w).alloc (Nat.le_refl _) (.cells #[.int .i64 0, .int .i64 0, .int .i64 0] 23))
  have D0 := Lib.hid (DAt.new w 0 0 0)
  have hz3 : z < -800000 ∨ (-800000 ≤ z ∧ 3000000 < z) := by omega
  clear hz
  rcases hz3 with z1 | ⟨z1, z2⟩ <;> (
    go_wp2_with fail
    refine (O1.out _ (HL.out _ B0.out).lens).mono ?_
    rintro e w2 ⟨rfl, hb⟩
    have B2 := Lib.hid (B0.out.trans (hb.mono B0.out.size))
    have D2 := Lib.hid (D0.out.below hb)
    have B2a := Lib.hid (B2.out.alloc B2.out.size (.cells #[.int .i64 0, .int .i64 0, .int .i64 0] 23))
    have D2a := Lib.hid (D2.out.alloc (.cells #[.int .i64 0, .int .i64 0, .int .i64 0] 23))
    have E2a := Lib.hid (DAt.new w2 0 0 0)
    clear hb
    go_wp2_with fail
    refine (F1.out _ (HL.out _ B2a.out).lens).mono ?_
    rintro e w3 ⟨rfl, rfl⟩
    go_wp2_with fail
    refine (F2.out _).mono ?_
    rintro e w3 ⟨rfl, hb⟩
    have B3 := Lib.hid (B2a.out.trans (hb.mono B2a.out.size))
    have D3 := Lib.hid (D2a.out.below hb)
    have E3 := Lib.hid (E2a.out.below hb)
    clear hb
    go_wp2_with fail
    refine (HC.out _ B3.out).mono ?_
    rintro e w4 ⟨rfl, hb⟩
    have B4 := Lib.hid (B3.out.trans (hb.mono B3.out.size))
    have D4 := Lib.hid (D3.out.below hb)
    have E4 := Lib.hid (E3.out.below hb)
    clear hb
    have B4a := Lib.hid (B4.out.alloc B4.out.size (.cells #[.int .i64 (q / 12), .int .i64 (q % 12 + 1), .int .i64 (lenM q)] 23))
    have D4a := Lib.hid (D4.out.alloc (.cells #[.int .i64 (q / 12), .int .i64 (q % 12 + 1), .int .i64 (lenM q)] 23))
    have E4a := Lib.hid (E4.out.alloc (.cells #[.int .i64 (q / 12), .int .i64 (q % 12 + 1), .int .i64 (lenM q)] 23))
    have x0 := D4a.out.c0; have x1 := D4a.out.c1; have x2 := D4a.out.c2
    have y0 := E4a.out.c0; have y1 := E4a.out.c1; have y2 := E4a.out.c2
    go_wp2_with fail
    refine (rlength_any q _).mono ?_
    rintro e w5 ⟨rfl, rfl⟩
    go_wp2_with fail
    refine (length_any q _ (HL.out _ B4a.out).lens).mono ?_
    rintro e w5 ⟨rfl, rfl⟩
    go_wp2_with fail
    refine (goes_any _ (HL.out _ B4a.out)).mono ?_
    rintro e w6 ⟨rfl, hb⟩
    have X6 := Lib.hid (B4a.out.trans (hb.mono B4a.out.size))
    clear hb x0 x1 x2 y0 y1 y2
    go_wp2_with fail
    go_ret
    exact ⟨rfl, X6.out⟩)

theorem civilNumbers_walk (z q n : Int) (w : World) (hw : Lw w) (_h1 : (Lit.int .i64 z).wf = true) (_h2 : (Lit.int .i64 q).wf = true) (_h3 : (Lit.int .i64 n).wf = true) :
    Calls Tryd.prog 4 #[.int .i64 z, .int .i64 q, .int .i64 n] w fun e w' => e = .returned (.bool true) ∧ Below w.heap.size w w' := by
  by_cases hz : -800000 ≤ z ∧ z ≤ 3000000 <;> by_cases hl : lenM q = 0
  · exact num_i_none z q n w hw hz hl
  · rcases Int.lt_or_le n 1 with hn | hn
    · exact num_i_low z q n w hw hz hl hn
    · rcases Int.lt_or_le (lenM q) n with hm | hm
      · exact num_i_more z q n w hw hz hl hn hm
      · exact num_i_less z q n w hw hz hl hn hm
  · exact num_o_none z q n w hw hz hl
  · rcases Int.lt_or_le n 1 with hn | hn
    · exact num_o_low z q n w hw hz hl hn
    · rcases Int.lt_or_le (lenM q) n with hm | hm
      · exact num_o_more z q n w hw hz hl hn hm
      · exact num_o_less z q n w hw hz hl hn hm
end Go.Proofs.YtlfkafcmdndlgaaDoor
