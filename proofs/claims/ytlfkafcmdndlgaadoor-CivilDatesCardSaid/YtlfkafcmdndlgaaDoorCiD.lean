import Derived.Test.YtlfkafcmdndlgaaDoorCiT
import Derived.Test.YtlfkafcmdndlgaaDoorCi10
import Derived.Test.YtlfkafcmdndlgaaDoorCi11
namespace Go.Proofs.YtlfkafcmdndlgaaDoor
open Go.RowKit Mem Ci

set_option maxHeartbeats 4000000 in
theorem dates_yes (y m d : Int) (w : World) (hw : Lw w) (h : vldB y m d = true) (hy : -9223372036854775808 ≤ y ∧ y ≤ 9223372036854775807) :
    Calls Tryd.prog 3 #[.agg #[.int .i64 y, .int .i64 m, .int .i64 d]] w fun e w' => e = .returned (.bool true) ∧ Below w.heap.size w w' := by
  have HL := Lib.hid (fun W (h : Below w.heap.size w W) => hw.below h (Nat.le_refl _))
  have hs := hw.size; clear hw
  obtain ⟨g1, g2, g3, g4, g5, g6⟩ := vld_of h
  have nb := num_bd h
  have e1 := fun W (hB : Below w.heap.size w W) => (valid_yes W (HL.out _ hB).lens (by have := hB.size; omega) h)
  have e2 := fun W (_ : Below w.heap.size w W) => ((rvalid_any y m d W).mono fun e w' ⟨a, b⟩ => ⟨by rw [a, h], b⟩ : Calls Tryd.prog 12 #[.agg #[.int .i64 y, .int .i64 m, .int .i64 d]] W fun e w' => e = .returned (.bool true) ∧ Below W.heap.size W w')
  have e3 := fun W (hB : Below w.heap.size w W) => ((month_any y m d W (HL.out _ hB).lens (by have := hB.size; omega)).mono fun e w' ⟨a, b⟩ => ⟨by rw [a]; unfold monB; rw [if_pos h], b⟩ : Calls Tryd.prog 14 #[.agg #[.int .i64 y, .int .i64 m, .int .i64 d]] W fun e w' => e = .returned (.int .i64 (12 * y + m - 1)) ∧ Below W.heap.size W w')
  have e4 := fun W (hB : Below w.heap.size w W) => (text_yes W (HL.out _ hB) h)
  have e5 := fun W (_ : Below w.heap.size w W) => (rtext_yes W h)
  have e6 := fun W (_ : Below w.heap.size w W) => ((leap_any y W).mono fun e w' ⟨a, b⟩ => ⟨a, b ▸ Below.refl _ _⟩ : Calls Tryd.prog 17 #[.int .i64 y] W fun e w' => e = .returned (.bool (leapB y)) ∧ Below W.heap.size W w')
  have e7 := fun W (_ : Below w.heap.size w W) => ((rleap_any y W).mono fun e w' ⟨a, b⟩ => ⟨a, b ▸ Below.refl _ _⟩ : Calls Tryd.prog 18 #[.int .i64 y] W fun e w' => e = .returned (.bool (leapB y)) ∧ Below W.heap.size W w')
  have e8 := fun W (hB : Below w.heap.size w W) => goes_any W (HL.out _ hB)
  have E1 := Lib.hid e1; have E2 := Lib.hid e2; have E3 := Lib.hid e3; have E4 := Lib.hid e4; have E5 := Lib.hid e5; have E6 := Lib.hid e6; have E7 := Lib.hid e7; have E8 := Lib.hid e8
  clear e1 e2 e3 e4 e5 e6 e7 e8
  have H := Lib.hid h; clear h g5 g6
  go_enter Tryd.func3, Tryd.ntmps3
  go_wp2_with fail
  have B0 := Lib.hid ((Below.refl w.heap.size w).alloc (Nat.le_refl _) (.cells #[.int .i64 y, .int .i64 m, .int .i64 d] 23))
  refine (day_yes _ (HL.out _ B0.out).lens (by simp) H.out).mono ?_
  rintro e w1 ⟨rfl, hb⟩
  have B1 := Lib.hid (B0.out.trans (hb.mono B0.out.size))
  have D1 := Lib.hid ((DAt.new w y m d).below hb)
  clear hb
  have c0 := D1.out.c0; have c1 := D1.out.c1; have c2 := D1.out.c2
  go_wp2_with fail
  refine (rday_yes _ H.out).mono ?_
  rintro e w2 ⟨rfl, hb⟩
  have B2 := Lib.hid (B1.out.trans (hb.mono B1.out.size))
  have D2 := Lib.hid (D1.out.below hb)
  clear hb c0 c1 c2
  have c0 := D2.out.c0; have c1 := D2.out.c1; have c2 := D2.out.c2
  go_wp2_with fail
  refine (E2.out _ B2.out).mono ?_
  rintro e w3 ⟨rfl, hb⟩
  have B3 := Lib.hid (B2.out.trans (hb.mono B2.out.size))
  have D3 := Lib.hid (D2.out.below hb)
  clear hb c0 c1 c2
  have c0 := D3.out.c0; have c1 := D3.out.c1; have c2 := D3.out.c2
  go_wp2_with fail
  go_region_held3 (fun w' => Below w.heap.size w w' ∧ w'.cell? ⟨w.heap.size, 0, none⟩ = some (.int .i64 y) ∧ w'.cell? ⟨w.heap.size, 1, none⟩ = some (.int .i64 m) ∧ w'.cell? ⟨w.heap.size, 2, none⟩ = some (.int .i64 d))
    (first | exact ⟨B3.out.drew, c0, c1, c2⟩ | exact keepT hb ‹_› | go_keep)
    (first
      | (go_at_call 13; with_reducible refine (E1.out _ (And.left ‹_›)).mono ?_; rintro e w4 ⟨rfl, hb⟩)
      | (go_at_call 12; with_reducible refine (E2.out _ (And.left ‹_›)).mono ?_; rintro e w4 ⟨rfl, hb⟩)
      | (go_at_call 14; with_reducible refine (E3.out _ (And.left ‹_›)).mono ?_; rintro e w4 ⟨rfl, hb⟩)
      | (go_at_call 15; with_reducible refine (E4.out _ (And.left ‹_›)).mono ?_; rintro e w4 ⟨rfl, hb⟩)
      | (go_at_call 16; with_reducible refine (E5.out _ (And.left ‹_›)).mono ?_; rintro e w4 ⟨rfl, hb⟩)
      | (go_at_call 17; with_reducible refine (E6.out _ (And.left ‹_›)).mono ?_; rintro e w4 ⟨rfl, hb⟩)
      | (go_at_call 18; with_reducible refine (E7.out _ (And.left ‹_›)).mono ?_; rintro e w4 ⟨rfl, hb⟩)
      | (go_at_call 19; with_reducible refine (E8.out _ (And.left ‹_›)).mono ?_; rintro e w4 ⟨rfl, hb⟩))
  go_wp2
  go_ret
  exact ⟨rfl, And.left ‹Below w.heap.size w _ ∧ _›⟩
set_option maxHeartbeats 4000000 in
theorem dates_no (y m d : Int) (w : World) (hw : Lw w) (h : vldB y m d = false) (_hy : -9223372036854775808 ≤ y ∧ y ≤ 9223372036854775807) :
    Calls Tryd.prog 3 #[.agg #[.int .i64 y, .int .i64 m, .int .i64 d]] w fun e w' => e = .returned (.bool true) ∧ Below w.heap.size w w' := by
  have HL := Lib.hid (fun W (h : Below w.heap.size w W) => hw.below h (Nat.le_refl _))
  have hs := hw.size; clear hw
  have e1 := fun W (hB : Below w.heap.size w W) => (valid_not W (HL.out _ hB).lens (by have := hB.size; omega) h)
  have e2 := fun W (_ : Below w.heap.size w W) => ((rvalid_any y m d W).mono fun e w' ⟨a, b⟩ => ⟨by rw [a, h], b⟩ : Calls Tryd.prog 12 #[.agg #[.int .i64 y, .int .i64 m, .int .i64 d]] W fun e w' => e = .returned (.bool false) ∧ Below W.heap.size W w')
  have e3 := fun W (hB : Below w.heap.size w W) => ((month_any y m d W (HL.out _ hB).lens (by have := hB.size; omega)).mono fun e w' ⟨a, b⟩ => ⟨by rw [a]; unfold monB; rw [h]; rfl, b⟩ : Calls Tryd.prog 14 #[.agg #[.int .i64 y, .int .i64 m, .int .i64 d]] W fun e w' => e = .returned (.int .i64 0) ∧ Below W.heap.size W w')
  have e4 := fun W (hB : Below w.heap.size w W) => (text_no W (HL.out _ hB).lens (by have := hB.size; omega) h)
  have e5 := fun W (_ : Below w.heap.size w W) => (rtext_no W h)
  have e6 := fun W (_ : Below w.heap.size w W) => ((leap_any y W).mono fun e w' ⟨a, b⟩ => ⟨a, b ▸ Below.refl _ _⟩ : Calls Tryd.prog 17 #[.int .i64 y] W fun e w' => e = .returned (.bool (leapB y)) ∧ Below W.heap.size W w')
  have e7 := fun W (_ : Below w.heap.size w W) => ((rleap_any y W).mono fun e w' ⟨a, b⟩ => ⟨a, b ▸ Below.refl _ _⟩ : Calls Tryd.prog 18 #[.int .i64 y] W fun e w' => e = .returned (.bool (leapB y)) ∧ Below W.heap.size W w')
  have e8 := fun W (hB : Below w.heap.size w W) => goes_any W (HL.out _ hB)
  have E1 := Lib.hid e1; have E2 := Lib.hid e2; have E3 := Lib.hid e3; have E4 := Lib.hid e4; have E5 := Lib.hid e5; have E6 := Lib.hid e6; have E7 := Lib.hid e7; have E8 := Lib.hid e8
  clear e1 e2 e3 e4 e5 e6 e7 e8
  have H := Lib.hid h; clear h
  go_enter Tryd.func3, Tryd.ntmps3
  go_wp2_with fail
  have B0 := Lib.hid ((Below.refl w.heap.size w).alloc (Nat.le_refl _) (.cells #[.int .i64 y, .int .i64 m, .int .i64 d] 23))
  refine (day_no _ (HL.out _ B0.out).lens (by simp) H.out).mono ?_
  rintro e w1 ⟨rfl, hb⟩
  have B1 := Lib.hid (B0.out.trans (hb.mono B0.out.size))
  have D1 := Lib.hid ((DAt.new w y m d).below hb)
  clear hb
  have c0 := D1.out.c0; have c1 := D1.out.c1; have c2 := D1.out.c2
  go_wp2_with fail
  refine (rday_no _ H.out).mono ?_
  rintro e w2 ⟨rfl, hb⟩
  have B2 := Lib.hid (B1.out.trans (hb.mono B1.out.size))
  have D2 := Lib.hid (D1.out.below hb)
  clear hb c0 c1 c2
  have c0 := D2.out.c0; have c1 := D2.out.c1; have c2 := D2.out.c2
  go_wp2_with fail
  refine (E2.out _ B2.out).mono ?_
  rintro e w3 ⟨rfl, hb⟩
  have B3 := Lib.hid (B2.out.trans (hb.mono B2.out.size))
  have D3 := Lib.hid (D2.out.below hb)
  clear hb c0 c1 c2
  have c0 := D3.out.c0; have c1 := D3.out.c1; have c2 := D3.out.c2
  go_wp2_with fail
  go_region_held3 (fun w' => Below w.heap.size w w' ∧ w'.cell? ⟨w.heap.size, 0, none⟩ = some (.int .i64 y) ∧ w'.cell? ⟨w.heap.size, 1, none⟩ = some (.int .i64 m) ∧ w'.cell? ⟨w.heap.size, 2, none⟩ = some (.int .i64 d))
    (first | exact ⟨B3.out.drew, c0, c1, c2⟩ | exact keepT hb ‹_› | go_keep)
    (first
      | (go_at_call 13; with_reducible refine (E1.out _ (And.left ‹_›)).mono ?_; rintro e w4 ⟨rfl, hb⟩)
      | (go_at_call 12; with_reducible refine (E2.out _ (And.left ‹_›)).mono ?_; rintro e w4 ⟨rfl, hb⟩)
      | (go_at_call 14; with_reducible refine (E3.out _ (And.left ‹_›)).mono ?_; rintro e w4 ⟨rfl, hb⟩)
      | (go_at_call 15; with_reducible refine (E4.out _ (And.left ‹_›)).mono ?_; rintro e w4 ⟨rfl, hb⟩)
      | (go_at_call 16; with_reducible refine (E5.out _ (And.left ‹_›)).mono ?_; rintro e w4 ⟨rfl, hb⟩)
      | (go_at_call 17; with_reducible refine (E6.out _ (And.left ‹_›)).mono ?_; rintro e w4 ⟨rfl, hb⟩)
      | (go_at_call 18; with_reducible refine (E7.out _ (And.left ‹_›)).mono ?_; rintro e w4 ⟨rfl, hb⟩)
      | (go_at_call 19; with_reducible refine (E8.out _ (And.left ‹_›)).mono ?_; rintro e w4 ⟨rfl, hb⟩))
  go_wp2
  go_ret
  exact ⟨rfl, And.left ‹Below w.heap.size w _ ∧ _›⟩
theorem civilDates_walk (y m d : Int) (w : World) (hw : Lw w) (hf : (Lit.int .i64 y).wf = true ∧ (Lit.int .i64 m).wf = true ∧ (Lit.int .i64 d).wf = true) :
    Calls Tryd.prog 3 #[.agg #[.int .i64 y, .int .i64 m, .int .i64 d]] w fun e w' => e = .returned (.bool true) ∧ Below w.heap.size w w' := by
  cases h : vldB y m d with
  | true => exact dates_yes y m d w hw h (i64_bd hf.1)
  | false => exact dates_no y m d w hw h (i64_bd hf.1)
end Go.Proofs.YtlfkafcmdndlgaaDoor
