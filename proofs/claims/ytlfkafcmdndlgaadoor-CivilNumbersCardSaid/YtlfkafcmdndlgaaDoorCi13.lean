import Derived.Test.YtlfkafcmdndlgaaDoorCi8
namespace Go.Proofs.YtlfkafcmdndlgaaDoor.Ci
open Go.RowKit Mem

theorem rdV_txt {y m d : Int} (h : vldB y m d = true) : rdV (txt y m d) = .tuple #[.agg #[.int .i64 y, .int .i64 m, .int .i64 d], .int .i64 0] := by
  obtain ⟨a, b, c⟩ := txt_parts h
  unfold rdV; rw [if_pos (read_txt h), a, b, c]
theorem parse_txt {y m d : Int} (w : World) (hw : Lw w) (h : vldB y m d = true) :
    Calls Tryd.prog 27 #[.string (st (txt y m d))] w fun e w' => e = .returned (.tuple #[.agg #[.int .i64 y, .int .i64 m, .int .i64 d], .int .i64 0]) ∧ Below w.heap.size w w' := by
  have := parse_any (txt y m d) w hw (by rw [txt_length]; omega)
  rw [rdV_txt h] at this; exact this

theorem old_cell {W : World} {o : Obj} {b i : Nat} {v : Value} (h : b < W.heap.size) (c : W.cell? ⟨b, i, none⟩ = some v) : (W.alloc o).cell? ⟨b, i, none⟩ = some v :=
  (((Below.refl W.heap.size W).alloc (Nat.le_refl _) o).cell (p := ⟨b, i, none⟩) h).trans c
theorem old2 {W w1 : World} {o : Obj} {b i : Nat} {v : Value} (hb : Below (W.alloc o).heap.size (W.alloc o) w1) (h : b < W.heap.size) (c : W.cell? ⟨b, i, none⟩ = some v) : w1.cell? ⟨b, i, none⟩ = some v :=
  ((bcell hb).1 _ _ (by simp; omega)).trans (old_cell h c)
theorem new2 {W w1 : World} {cs : Array Value} {t : TypeId} {i : Nat} {v : Value} (hb : Below (W.alloc (.cells cs t)).heap.size (W.alloc (.cells cs t)) w1) (c : cs[i]? = some v) : w1.cell? ⟨W.heap.size, i, none⟩ = some v :=
  ((bcell hb).1 _ _ (by simp)).trans (by simp [c])
theorem less2 {W w1 : World} {o : Obj} (hb : Below (W.alloc o).heap.size (W.alloc o) w1) : W.heap.size < w1.heap.size := by have := hb.size; simp at this; omega
set_option maxHeartbeats 1000000 in
theorem goes_any (w : World) (hw : Lw w) : Calls Tryd.prog 19 #[] w fun e w' => e = .returned (.bool true) ∧ Below w.heap.size w w' := by
  have hs := hw.size
  have HL := Lib.hid (fun W (h : Below w.heap.size w W) => hw.below h (Nat.le_refl _)); clear hw
  have c1 := fun W hW hs => day_yes (y := 2000) (m := 3) (d := 1) W hW hs (by decide)
  rw [show num 2000 3 1 = 11017 by decide] at c1
  have c2 := fun W hW => of_yes (y := 1969) (m := 12) (d := 31) W hW (by decide)
  rw [show num 1969 12 31 = -1 by decide] at c2
  have c3 := fun W hW => clamp_in 24277 31 W hW (by decide) (by decide) (by decide)
  rw [show (24277 : Int) / 12 = 2023 by decide, show (24277 : Int) % 12 + 1 = 2 by decide, show min 31 (lenM 24277) = 28 by decide] at c3
  have c4 := fun W hW => parse_txt (y := 2024) (m := 2) (d := 29) W hW (by decide)
  rw [show st (txt 2024 2 29) = ⟨#[50, 48, 50, 52, 45, 48, 50, 45, 50, 57]⟩ by decide +kernel] at c4
  have c5 := leap_any 1900
  rw [show leapB 1900 = false by decide] at c5
  have c6 := leap_any 2000
  rw [show leapB 2000 = true by decide] at c6
  have C1 := Lib.hid c1; have C2 := Lib.hid c2; have C3 := Lib.hid c3; have C4 := Lib.hid c4; have C5 := Lib.hid c5; have C6 := Lib.hid c6
  clear c1 c2 c3 c4 c5 c6
  go_enter Tryd.func19, Tryd.ntmps19
  go_wp2_with fail
  refine (C1.out _ (HL.out _ (Below.refl _ _)).lens (by omega)).mono ?_
  rintro e w1 ⟨rfl, hb1⟩
  have B1 := Lib.hid hb1
  have z1 : 1 < w1.heap.size := by have := hb1.size; omega
  clear hb1
  go_wp2_with fail
  refine (C2.out _ (HL.out _ B1.out).lens).mono ?_
  rintro e w2 ⟨rfl, hb2⟩
  have B2 := Lib.hid (B1.out.trans (hb2.mono B1.out.size))
  clear hb2
  go_wp2_with fail
  refine (C3.out _ (HL.out _ (B2.out.alloc B2.out.size _)).lens).mono ?_
  rintro e w3 ⟨rfl, hb3⟩
  have B3 := Lib.hid ((B2.out.alloc B2.out.size _).trans (hb3.mono (Nat.le_trans B2.out.size (by simp))))
  have x0 : w3.cell? ⟨w2.heap.size, 0, none⟩ = some (.int .i64 1969) := by rw [(bcell hb3).1 _ _ (by simp)]; simp
  have x1 : w3.cell? ⟨w2.heap.size, 1, none⟩ = some (.int .i64 12) := by rw [(bcell hb3).1 _ _ (by simp)]; simp
  have x2 : w3.cell? ⟨w2.heap.size, 2, none⟩ = some (.int .i64 31) := by rw [(bcell hb3).1 _ _ (by simp)]; simp
  have x3 : w2.heap.size < w3.heap.size := by have := hb3.size; simp at this; omega
  clear hb3
  go_wp2_with fail
  refine (C4.out _ (HL.out _ (B3.out.alloc B3.out.size _))).mono ?_
  rintro e w4 ⟨rfl, hb4⟩
  have B4 := Lib.hid ((B3.out.alloc B3.out.size _).trans (hb4.mono (Nat.le_trans B3.out.size (by simp))))
  have y0 : w4.cell? ⟨w2.heap.size, 0, none⟩ = some (.int .i64 1969) := old2 hb4 x3 x0
  have y1 : w4.cell? ⟨w2.heap.size, 1, none⟩ = some (.int .i64 12) := old2 hb4 x3 x1
  have y2 : w4.cell? ⟨w2.heap.size, 2, none⟩ = some (.int .i64 31) := old2 hb4 x3 x2
  have y3 : w4.cell? ⟨w3.heap.size, 2, none⟩ = some (.int .i64 28) := new2 hb4 rfl
  have y4 : w3.heap.size < w4.heap.size := less2 hb4
  have y5 : w2.heap.size < w4.heap.size := by omega
  clear hb4 x0 x1 x2
  go_wp2_with fail
  refine (C5.out _).mono ?_
  rintro e w5 ⟨rfl, rfl⟩
  go_wp2_with fail
  refine (C6.out _).mono ?_
  rintro e w5 ⟨rfl, rfl⟩
  go_wp2_with fail
  go_ret
  exact ⟨rfl, B4.out.alloc B4.out.size _⟩
end Go.Proofs.YtlfkafcmdndlgaaDoor.Ci
