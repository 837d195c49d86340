import Derived.Test.YtakjgimnmobngaaDoorPe1
namespace Go.Proofs.YtakjgimnmobngaaDoor.Ci
open Go.RowKit Mem Go.Sort

/-! The beginnings of months and days. -/
set_option maxHeartbeats 1000000 in
theorem dawnOf_yes {s z : Int} (F : Nat) (c : Value) (w : World) (h : shB s = true) (hz : -719162 ≤ z ∧ z ≤ 2932896) (Q : World → Prop)
    (hcf : ∀ X, (callFunc F #[c]).run Tryd.prog X = .ok (.enter F #[c]) X)
    (hr : Calls Tryd.prog F #[c] w fun e w' => e = .returned (.tuple #[.int .i64 z, .int .i64 0]) ∧ Q w') :
    Calls Tryd.prog 25 #[.int .i64 s, .func (.func F) #[] #[c]] w fun e w' => e = .returned (.tuple #[.int .i64 (86400 * z - s), .int .i64 0]) ∧ Q w' := by
  have C := Lib.hid (fun W => check_yes W h)
  have R := Lib.hid hr; clear hr
  obtain ⟨g1, g2, _⟩ := sh_of h
  obtain ⟨z1, z2⟩ := hz
  clear h
  go_enter Tryd.func25, Tryd.ntmps25
  go_wp2_with fail
  refine R.out.mono ?_
  rintro e w1 ⟨rfl, hq⟩
  go_wp2_with fail
  refine (C.out _).mono ?_
  rintro e w1 ⟨rfl, rfl⟩
  go_wp2_with fail
  go_ret2
  exact ⟨by rw [Int.mul_comm 86400 z]; rfl, hq⟩
theorem dawnOf_bad {s z : Int} (F : Nat) (c : Value) (w : World) (h : shB s = false) (Q : World → Prop)
    (hcf : ∀ X, (callFunc F #[c]).run Tryd.prog X = .ok (.enter F #[c]) X)
    (hr : Calls Tryd.prog F #[c] w fun e w' => e = .returned (.tuple #[.int .i64 z, .int .i64 0]) ∧ Q w') :
    Calls Tryd.prog 25 #[.int .i64 s, .func (.func F) #[] #[c]] w fun e w' => e = .returned (.tuple #[.int .i64 0, .int .i64 1]) ∧ Q w' := by
  have C := Lib.hid (fun W => check_not W h)
  have R := Lib.hid hr; clear hr
  clear h
  go_enter Tryd.func25, Tryd.ntmps25
  go_wp2_with fail
  refine R.out.mono ?_
  rintro e w1 ⟨rfl, hq⟩
  go_wp2_with fail
  refine (C.out _).mono ?_
  rintro e w1 ⟨rfl, rfl⟩
  go_wp2_with fail
  go_ret2
  exact ⟨rfl, hq⟩
theorem dawnOf_no {s z : Int} (F : Nat) (c : Value) (w : World) (Q : World → Prop)
    (hcf : ∀ X, (callFunc F #[c]).run Tryd.prog X = .ok (.enter F #[c]) X)
    (hr : Calls Tryd.prog F #[c] w fun e w' => e = .returned (.tuple #[.int .i64 z, .int .i64 1]) ∧ Q w') :
    Calls Tryd.prog 25 #[.int .i64 s, .func (.func F) #[] #[c]] w fun e w' => e = .returned (.tuple #[.int .i64 0, .int .i64 1]) ∧ Q w' := by
  have R := Lib.hid hr; clear hr
  go_enter Tryd.func25, Tryd.ntmps25
  go_wp2_with fail
  refine R.out.mono ?_
  rintro e w1 ⟨rfl, hq⟩
  go_wp2_with fail
  go_ret2
  exact ⟨rfl, hq⟩

set_option maxHeartbeats 400000 in
theorem start1_in {b : Nat} {q : Int} (w : World) (hw : Lens w) (hc : w.cell? ⟨b, 0, none⟩ = some (.int .i64 q)) (h1 : 12 ≤ q) (h2 : q ≤ 119999) :
    Calls Tryd.prog 26 #[.pointer (some ⟨b, 0, none⟩)] w fun e w' => e = .returned (.tuple #[.int .i64 (fst q), .int .i64 0]) ∧ w = w' := by
  have C := Lib.hid (fun W (hw : Lens W) => first_in q W hw h1 h2)
  have HW := Lib.hid hw; clear hw h1 h2
  go_enter Tryd.func26, Tryd.ntmps26
  go_wp2_with fail
  refine (C.out _ HW.out).mono ?_
  rintro e w1 ⟨rfl, rfl⟩
  go_wp2_with fail
  go_ret2
  exact ⟨rfl, rfl⟩
set_option maxHeartbeats 400000 in
theorem start1_out {b : Nat} {q : Int} (w : World) (hw : Lens w) (hc : w.cell? ⟨b, 0, none⟩ = some (.int .i64 q)) (h : q < 12 ∨ 119999 < q) :
    Calls Tryd.prog 26 #[.pointer (some ⟨b, 0, none⟩)] w fun e w' => e = .returned (.tuple #[.int .i64 0, .int .i64 1]) ∧ w = w' := by
  have C := Lib.hid (fun W (hw : Lens W) => first_out (q := q) W hw h)
  have HW := Lib.hid hw; clear hw h
  go_enter Tryd.func26, Tryd.ntmps26
  go_wp2_with fail
  refine (C.out _ HW.out).mono ?_
  rintro e w1 ⟨rfl, rfl⟩
  go_wp2_with fail
  go_ret2
  exact ⟨rfl, rfl⟩
set_option maxHeartbeats 1000000 in
theorem dawn1_in {b : Nat} {z : Int} (w : World) (hw : Lens w) (hc : w.cell? ⟨b, 0, none⟩ = some (.int .i64 z)) (h1 : -719162 ≤ z) (h2 : z ≤ 2932896) :
    Calls Tryd.prog 29 #[.pointer (some ⟨b, 0, none⟩)] w fun e w' => e = .returned (.tuple #[.int .i64 z, .int .i64 0]) ∧ Below w.heap.size w w' := by
  have hb0 := World.block_lt_of_cell? w _ hc
  have C := Lib.hid (of_in z w hw h1 h2)
  clear hw h1 h2
  go_enter Tryd.func29, Tryd.ntmps29
  go_wp2_with fail
  refine C.out.mono ?_
  rintro e w1 ⟨y, m, d, rfl, _, hb⟩
  have B := Lib.hid (hb.alloc hb.size (.cells #[.int .i64 y, .int .i64 m, .int .i64 d] 30))
  have c1 : (w1.alloc (.cells #[.int .i64 y, .int .i64 m, .int .i64 d] 30)).cell? ⟨b, 0, none⟩ = some (.int .i64 z) := ((bcell B.out).1 _ _ hb0).trans hc
  clear hb hc
  go_wp2_with fail
  go_ret2
  exact ⟨rfl, B.out⟩
set_option maxHeartbeats 1000000 in
theorem dawn1_out {b : Nat} {z : Int} (w : World) (hc : w.cell? ⟨b, 0, none⟩ = some (.int .i64 z)) (h : z < -719162 ∨ 2932896 < z) :
    Calls Tryd.prog 29 #[.pointer (some ⟨b, 0, none⟩)] w fun e w' => e = .returned (.tuple #[.int .i64 z, .int .i64 1]) ∧ Below w.heap.size w w' := by
  have hb0 := World.block_lt_of_cell? w _ hc
  have C := Lib.hid (of_out (z := z) w h)
  clear h
  go_enter Tryd.func29, Tryd.ntmps29
  go_wp2_with fail
  refine C.out.mono ?_
  rintro e w1 ⟨rfl, hb⟩
  have B := Lib.hid (hb.alloc hb.size (.cells #[.int .i64 0, .int .i64 0, .int .i64 0] 30))
  have c1 : (w1.alloc (.cells #[.int .i64 0, .int .i64 0, .int .i64 0] 30)).cell? ⟨b, 0, none⟩ = some (.int .i64 z) := ((bcell B.out).1 _ _ hb0).trans hc
  clear hb hc
  go_wp2_with fail
  go_ret2
  exact ⟨rfl, B.out⟩

theorem lens_size {w : World} (hw : Lens w) : 0 < w.heap.size := World.block_lt_of_cell? w _ (hw 0 (by omega))
theorem lens_alloc {w : World} (hw : Lens w) (o : Obj) : Lens (w.alloc o) := hw.below ((Below.refl w.heap.size w).alloc (Nat.le_refl _) o) (lens_size hw)
theorem new_cell (w : World) (v : Value) (t : TypeId) : (w.alloc (.cells #[v] t)).cell? ⟨w.heap.size, 0, none⟩ = some v := by simp
set_option maxHeartbeats 1000000 in
theorem start_yes {q s : Int} (w : World) (hw : Lens w) (h1 : 12 ≤ q) (h2 : q ≤ 119999) (h : shB s = true) :
    Calls Tryd.prog 16 #[.int .i64 q, .int .i64 s] w fun e w' => e = .returned (.tuple #[.int .i64 (86400 * fst q - s), .int .i64 0]) ∧ Below w.heap.size w w' := by
  have fb : -719162 ≤ fst q ∧ fst q ≤ 2932896 := by
    have a := num_bd (num_first (y := q / 12) (m := q % 12 + 1) (by omega) (by omega) (by omega) (by omega))
    rw [← fst_ym (by omega) (by omega), show 12 * (q / 12) + (q % 12 + 1) - 1 = q by omega] at a; exact a
  have B := Lib.hid ((Below.refl w.heap.size w).alloc (Nat.le_refl _) (.cells #[.int .i64 q] 2))
  have C := Lib.hid (dawnOf_yes (s := s) 26 (.pointer (some ⟨w.heap.size, 0, none⟩)) (w.alloc (.cells #[.int .i64 q] 2)) h fb (fun w' => w.alloc (.cells #[.int .i64 q] 2) = w') (fun X => by go_simp) (start1_in _ (lens_alloc hw _) (new_cell _ _ _) h1 h2))
  clear hw h1 h2 h fb
  go_enter Tryd.func16, Tryd.ntmps16
  go_wp2_with fail
  refine C.out.mono ?_
  rintro e w1 ⟨rfl, rfl⟩
  go_wp2_with fail
  go_ret2
  exact ⟨rfl, B.out⟩
set_option maxHeartbeats 1000000 in
theorem start_no {q s : Int} (w : World) (hw : Lens w) (h : ¬ (12 ≤ q ∧ q ≤ 119999 ∧ shB s = true)) :
    Calls Tryd.prog 16 #[.int .i64 q, .int .i64 s] w fun e w' => e = .returned (.tuple #[.int .i64 0, .int .i64 1]) ∧ Below w.heap.size w w' := by
  have B := Lib.hid ((Below.refl w.heap.size w).alloc (Nat.le_refl _) (.cells #[.int .i64 q] 2))
  have c : Calls Tryd.prog 25 #[.int .i64 s, .func (.func 26) #[] #[.pointer (some ⟨w.heap.size, 0, none⟩)]] (w.alloc (.cells #[.int .i64 q] 2)) fun e w' => e = .returned (.tuple #[.int .i64 0, .int .i64 1]) ∧ w.alloc (.cells #[.int .i64 q] 2) = w' := by
    by_cases hq : 12 ≤ q ∧ q ≤ 119999
    · have hs : shB s = false := by
        cases e : shB s with
        | true => exact absurd ⟨hq.1, hq.2, e⟩ h
        | false => rfl
      exact dawnOf_bad (z := fst q) 26 _ _ hs (fun w' => w.alloc (.cells #[.int .i64 q] 2) = w') (fun X => by go_simp) (start1_in _ (lens_alloc hw _) (new_cell _ _ _) hq.1 hq.2)
    · exact dawnOf_no (z := 0) 26 _ _ (fun w' => w.alloc (.cells #[.int .i64 q] 2) = w') (fun X => by go_simp) (start1_out _ (lens_alloc hw _) (new_cell _ _ _) (by omega))
  have C := Lib.hid c
  clear c hw h
  go_enter Tryd.func16, Tryd.ntmps16
  go_wp2_with fail
  refine C.out.mono ?_
  rintro e w1 ⟨rfl, rfl⟩
  go_wp2_with fail
  go_ret2
  exact ⟨rfl, B.out⟩
set_option maxHeartbeats 1000000 in
theorem dawn_yes {z s : Int} (w : World) (hw : Lens w) (h1 : -719162 ≤ z) (h2 : z ≤ 2932896) (h : shB s = true) :
    Calls Tryd.prog 18 #[.int .i64 z, .int .i64 s] w fun e w' => e = .returned (.tuple #[.int .i64 (86400 * z - s), .int .i64 0]) ∧ Below w.heap.size w w' := by
  have B := Lib.hid ((Below.refl w.heap.size w).alloc (Nat.le_refl _) (.cells #[.int .i64 z] 2))
  have C := Lib.hid (dawnOf_yes (s := s) 29 (.pointer (some ⟨w.heap.size, 0, none⟩)) (w.alloc (.cells #[.int .i64 z] 2)) h ⟨h1, h2⟩ (fun w' => Below (w.alloc (.cells #[.int .i64 z] 2)).heap.size (w.alloc (.cells #[.int .i64 z] 2)) w') (fun X => by go_simp) (dawn1_in _ (lens_alloc hw _) (new_cell _ _ _) h1 h2))
  clear hw h1 h2 h
  go_enter Tryd.func18, Tryd.ntmps18
  go_wp2_with fail
  refine C.out.mono ?_
  rintro e w1 ⟨rfl, hb⟩
  have B2 := Lib.hid (B.out.trans (hb.mono (by simp))); clear hb
  go_wp2_with fail
  go_ret2
  exact ⟨rfl, B2.out⟩
set_option maxHeartbeats 1000000 in
theorem dawn_no {z s : Int} (w : World) (hw : Lens w) (h : ¬ (-719162 ≤ z ∧ z ≤ 2932896 ∧ shB s = true)) :
    Calls Tryd.prog 18 #[.int .i64 z, .int .i64 s] w fun e w' => e = .returned (.tuple #[.int .i64 0, .int .i64 1]) ∧ Below w.heap.size w w' := by
  have B := Lib.hid ((Below.refl w.heap.size w).alloc (Nat.le_refl _) (.cells #[.int .i64 z] 2))
  have c : Calls Tryd.prog 25 #[.int .i64 s, .func (.func 29) #[] #[.pointer (some ⟨w.heap.size, 0, none⟩)]] (w.alloc (.cells #[.int .i64 z] 2)) fun e w' => e = .returned (.tuple #[.int .i64 0, .int .i64 1]) ∧ Below (w.alloc (.cells #[.int .i64 z] 2)).heap.size (w.alloc (.cells #[.int .i64 z] 2)) w' := by
    by_cases hq : -719162 ≤ z ∧ z ≤ 2932896
    · have hs : shB s = false := by
        cases e : shB s with
        | true => exact absurd ⟨hq.1, hq.2, e⟩ h
        | false => rfl
      exact dawnOf_bad (z := z) 29 _ _ hs (fun w' => Below (w.alloc (.cells #[.int .i64 z] 2)).heap.size (w.alloc (.cells #[.int .i64 z] 2)) w') (fun X => by go_simp) (dawn1_in _ (lens_alloc hw _) (new_cell _ _ _) hq.1 hq.2)
    · exact dawnOf_no (z := z) 29 _ _ (fun w' => Below (w.alloc (.cells #[.int .i64 z] 2)).heap.size (w.alloc (.cells #[.int .i64 z] 2)) w') (fun X => by go_simp) (dawn1_out _ (new_cell _ _ _) (by omega))
  have C := Lib.hid c
  clear c hw h
  go_enter Tryd.func18, Tryd.ntmps18
  go_wp2_with fail
  refine C.out.mono ?_
  rintro e w1 ⟨rfl, hb⟩
  have B2 := Lib.hid (B.out.trans (hb.mono (by simp))); clear hb
  go_wp2_with fail
  go_ret2
  exact ⟨rfl, B2.out⟩
end Go.Proofs.YtakjgimnmobngaaDoor.Ci
