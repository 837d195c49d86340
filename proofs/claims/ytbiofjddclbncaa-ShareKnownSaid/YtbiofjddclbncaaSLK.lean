import Derived.Test.YtbiofjddclbncaaSs9
namespace Go.Proofs.Ytbiofjddclbncaa
set_option linter.unusedVariables false
set_option linter.unusedSimpArgs false
set_option maxRecDepth 8000
open Go.RowKit Mem Mo Sr
theorem split_nil (T : Int) (w : World) (h : spE T [] = 1 ∧ shl T [] = []) (hT : -9223372036854775808 ≤ T ∧ T ≤ 9223372036854775807) : Calls Try.prog 8 #[.int .i64 T, .slice none 0 0] w fun e w' => ∃ A c, e = .returned (.tuple #[.slice A ([] : List Int).length c, .int .i64 1]) ∧ RdI w' w'.heap.size A c [] ∧ Below w.heap.size w w' := by
  have C := Split_any T none 0 [] w w.heap.size (RdI.nil _ _) (Nat.le_refl _) (fun x hx => by simp at hx) hT
  refine C.mono fun e w' ⟨A, c, a, b, d⟩ => ⟨A, c, ?_, ?_, d⟩
  · rw [a, h.1, h.2]
  · rw [← h.2]; exact b
theorem split_101 (w : World) : Calls Try.prog 8 #[.int .i64 1, .slice (some ⟨w.heap.size, 0, none⟩) 101 101] (w.alloc (.cells (Array.replicate 101 (.int .i64 0)) 2)) fun e w' => ∃ A c, e = .returned (.tuple #[.slice A ([] : List Int).length c, .int .i64 1]) ∧ RdI w' w'.heap.size A c [] ∧ Below w.heap.size w w' := by
  have hz := (RowZ.new w 101 2).rd (Nat.le_refl _) (by unfold maxLen; omega)
  have hl := tl_len 101 (fun _ => (0 : Int))
  have C := Split_any 1 (some ⟨w.heap.size, 0, none⟩) 101 _ (w.alloc (.cells (Array.replicate 101 (.int .i64 0)) 2)) _ hz (Nat.le_refl _) (fun x hx => by obtain ⟨k, _, rfl⟩ := tl_mem hx; omega) (by omega)
  have h := spE_a (T := 1) (l := tl 101 (fun _ => (0 : Int))) (.inl (by rw [hl]; omega))
  rw [hl] at C
  refine C.mono fun e w' ⟨A, c, a, b, d⟩ => ⟨A, c, ?_, ?_, Bt (Ba w _) d⟩
  · rw [a, h.1, h.2]
  · rw [← h.2]; exact b
theorem pror_nil (w : World) (h : prE [] [] 3 = 1 ∧ prl [] [] 3 = []) : Calls Try.prog 12 #[.slice none 0 0, .slice none 0 0, .int .i64 3] w fun e w' => ∃ A c, e = .returned (.tuple #[.slice A ([] : List Int).length c, .int .i64 1]) ∧ RdI w' w'.heap.size A c [] ∧ Below w.heap.size w w' := by
  have C := Prorate_any 3 none 0 [] none 0 [] w (RdI.nil _ _) (RdI.nil _ _)
  refine C.mono fun e w' ⟨A, c, a, b, d⟩ => ⟨A, c, ?_, ?_, d⟩
  · rw [a, h.1, h.2]
  · rw [← h.2]; exact b
set_option maxRecDepth 100000 in
set_option maxHeartbeats 4000000 in
theorem shareKnown_walk (w : World) : Calls Try.prog 7 #[] w fun e w' => e = .returned (.bool true) ∧ Below w.heap.size w w' := by
  have G := Lib.hid (fun W => goes_any W)
  have B0 := Lib.hid (Below.refl w.heap.size w)
  have hmk : ∀ W, (Instr.makeSlice 22 (.int .i64 101) (.int .i64 101)).run Try.prog W = .ok (.slice (some ⟨W.heap.size, 0, none⟩) 101 101) (W.alloc (.cells (Array.replicate 101 (.int .i64 0)) 2)) := make_any ityL 101 (by omega)
  have C0 := Lib.hid (fun W => split_lit (5) [0, 3, 1] [0, 4, 1] 0 (by decide +kernel) (by decide +kernel) (by intro x hx; simp at hx; omega) (by simp) (by omega) W)
  have C1 := Lib.hid (fun W => split_lit (1) [0, 0] ([] : List Int) 1 (by decide +kernel) (by decide +kernel) (by intro x hx; simp at hx; omega) (by simp) (by omega) W)
  have C2 := Lib.hid (fun W => split_lit (-1) [1] ([] : List Int) 1 (by decide +kernel) (by decide +kernel) (by intro x hx; simp at hx; omega) (by simp) (by omega) W)
  have C3 := Lib.hid (fun W => split_nil 1 W (by decide +kernel) (by omega))
  have C4 := Lib.hid (fun W => split_101 W)
  have C5 := Lib.hid (fun W => split_lit (1) [9223372036854775807, 1] ([] : List Int) 30 (by decide +kernel) (by decide +kernel) (by intro x hx; simp at hx; omega) (by simp) (by omega) W)
  have C6 := Lib.hid (fun W => split_lit (9223372036854775807) [4611686018427387904, 4611686018427387903] [4611686018427387904, 4611686018427387903] 0 (by decide +kernel) (by decide +kernel) (by intro x hx; simp at hx; omega) (by simp) (by omega) W)
  have C7 := Lib.hid (fun W => pror_lit 31 [100, 100] [10, 21] [32, 68] 0 (by decide +kernel) (by decide +kernel) (by simp) (by simp) W)
  have C8 := Lib.hid (fun W => pror_lit 3 [1] [1, 2] ([] : List Int) 1 (by decide +kernel) (by decide +kernel) (by simp) (by simp) W)
  have C9 := Lib.hid (fun W => pror_nil W (by decide +kernel))
  have C10 := Lib.hid (fun W => pror_lit 0 [1] [1] ([] : List Int) 1 (by decide +kernel) (by decide +kernel) (by simp) (by simp) W)
  have C11 := Lib.hid (fun W => pror_lit 1 [1125899906842625] [1] ([] : List Int) 1 (by decide +kernel) (by decide +kernel) (by simp) (by simp) W)
  have C12 := Lib.hid (fun W => pror_lit 1 [1125899906842624] [2] ([] : List Int) 1 (by decide +kernel) (by decide +kernel) (by simp) (by simp) W)
  have S0 := Lib.hid (fun A c W h => same_lit A c [0, 4, 1] W h (by simp))
  have S6 := Lib.hid (fun A c W h => same_lit A c [4611686018427387904, 4611686018427387903] W h (by simp))
  have S7 := Lib.hid (fun A c W h => same_lit A c [32, 68] W h (by simp))
  go_enter Try.func7, Try.ntmps7
  go_wp2_with fail
  refine (C0.out _).mono ?_
  rintro e w1 ⟨A0, c0, rfl, hr, hb⟩
  have R0 := Lib.hid hr
  have B1 := Lib.hid (Bt B0.out hb)
  clear hr hb C0 B0
  go_wp2_with fail
  refine (C1.out _).mono ?_
  rintro e w2 ⟨A1, c1, rfl, hr, hb⟩
  have R0 := Lib.hid (Rb R0.out hb)
  have B2 := Lib.hid (Bt B1.out hb)
  clear hr hb C1 B1
  go_wp2_with fail
  refine (C2.out _).mono ?_
  rintro e w3 ⟨A2, c2, rfl, hr, hb⟩
  have R0 := Lib.hid (Rb R0.out hb)
  have B3 := Lib.hid (Bt B2.out hb)
  clear hr hb C2 B2
  go_wp2_with fail
  refine (C3.out _).mono ?_
  rintro e w4 ⟨A3, c3, rfl, hr, hb⟩
  have R0 := Lib.hid (Rb R0.out hb)
  have B4 := Lib.hid (Bt B3.out hb)
  clear hr hb C3 B3
  go_wp2_with fail
  refine (C4.out _).mono ?_
  rintro e w5 ⟨A4, c4, rfl, hr, hb⟩
  have R0 := Lib.hid (Rb R0.out hb)
  have B5 := Lib.hid (Bt B4.out hb)
  clear hr hb C4 B4
  go_wp2_with fail
  refine (C5.out _).mono ?_
  rintro e w6 ⟨A5, c5, rfl, hr, hb⟩
  have R0 := Lib.hid (Rb R0.out hb)
  have B6 := Lib.hid (Bt B5.out hb)
  clear hr hb C5 B5
  go_wp2_with fail
  refine (C6.out _).mono ?_
  rintro e w7 ⟨A6, c6, rfl, hr, hb⟩
  have R0 := Lib.hid (Rb R0.out hb)
  have R6 := Lib.hid hr
  have B7 := Lib.hid (Bt B6.out hb)
  clear hr hb C6 B6
  go_wp2_with fail
  refine (C7.out _).mono ?_
  rintro e w8 ⟨A7, c7, rfl, hr, hb⟩
  have R0 := Lib.hid (Rb R0.out hb)
  have R6 := Lib.hid (Rb R6.out hb)
  have R7 := Lib.hid hr
  have B8 := Lib.hid (Bt B7.out hb)
  clear hr hb C7 B7
  go_wp2_with fail
  refine (C8.out _).mono ?_
  rintro e w9 ⟨A8, c8, rfl, hr, hb⟩
  have R0 := Lib.hid (Rb R0.out hb)
  have R6 := Lib.hid (Rb R6.out hb)
  have R7 := Lib.hid (Rb R7.out hb)
  have B9 := Lib.hid (Bt B8.out hb)
  clear hr hb C8 B8
  go_wp2_with fail
  refine (C9.out _).mono ?_
  rintro e w10 ⟨A9, c9, rfl, hr, hb⟩
  have R0 := Lib.hid (Rb R0.out hb)
  have R6 := Lib.hid (Rb R6.out hb)
  have R7 := Lib.hid (Rb R7.out hb)
  have B10 := Lib.hid (Bt B9.out hb)
  clear hr hb C9 B9
  go_wp2_with fail
  refine (C10.out _).mono ?_
  rintro e w11 ⟨A10, c10, rfl, hr, hb⟩
  have R0 := Lib.hid (Rb R0.out hb)
  have R6 := Lib.hid (Rb R6.out hb)
  have R7 := Lib.hid (Rb R7.out hb)
  have B11 := Lib.hid (Bt B10.out hb)
  clear hr hb C10 B10
  go_wp2_with fail
  refine (C11.out _).mono ?_
  rintro e w12 ⟨A11, c11, rfl, hr, hb⟩
  have R0 := Lib.hid (Rb R0.out hb)
  have R6 := Lib.hid (Rb R6.out hb)
  have R7 := Lib.hid (Rb R7.out hb)
  have B12 := Lib.hid (Bt B11.out hb)
  clear hr hb C11 B11
  go_wp2_with fail
  refine (C12.out _).mono ?_
  rintro e w13 ⟨A12, c12, rfl, hr, hb⟩
  have R0 := Lib.hid (Rb R0.out hb)
  have R6 := Lib.hid (Rb R6.out hb)
  have R7 := Lib.hid (Rb R7.out hb)
  have B13 := Lib.hid (Bt B12.out hb)
  clear hr hb C12 B12
  go_wp2_with fail
  refine (S0.out A0 c0 _ R0.out).mono ?_
  rintro e v0 ⟨rfl, hb⟩
  have R6 := Lib.hid (Rb R6.out hb)
  have R7 := Lib.hid (Rb R7.out hb)
  have B14 := Lib.hid (Bt B13.out hb)
  clear hb B13 R0 S0
  go_wp2_with fail
  refine (S6.out A6 c6 _ R6.out).mono ?_
  rintro e v6 ⟨rfl, hb⟩
  have R7 := Lib.hid (Rb R7.out hb)
  have B15 := Lib.hid (Bt B14.out hb)
  clear hb B14 R6 S6
  go_wp2_with fail
  refine (S7.out A7 c7 _ R7.out).mono ?_
  rintro e v7 ⟨rfl, hb⟩
  have B16 := Lib.hid (Bt B15.out hb)
  clear hb B15 R7 S7
  go_wp2_with fail
  refine (G.out _).mono ?_
  rintro e wz ⟨rfl, hb⟩
  have BZ := Lib.hid (Bt B16.out hb)
  clear hb
  go_wp2_with fail
  go_ret
  exact ⟨rfl, BZ.out⟩
end Go.Proofs.Ytbiofjddclbncaa
