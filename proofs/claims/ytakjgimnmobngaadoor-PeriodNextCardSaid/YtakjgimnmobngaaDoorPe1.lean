import Derived.Test.YtakjgimnmobngaaDoorCi7
import Derived.Test.YtakjgimnmobngaaDoorPe0
namespace Go.Proofs.YtakjgimnmobngaaDoor.Ci
open Go.RowKit Mem Go.Sort

theorem sh_t (s : Int) : shB s = (decide (-50400 ≤ s) && decide (s ≤ 50400) && (s.tmod 900 == 0)) := by
  have c := tmod_zero s 900
  simp only [Int.cast_ofNat_Int] at c
  rw [Bool.eq_iff_iff]; simp [shB, c, and_assoc]
set_option maxHeartbeats 400000 in
theorem check_any (s : Int) (w : World) : Calls Tryd.prog 13 #[.int .i64 s] w fun e w' => e = .returned (.bool (shB s)) ∧ w = w' := by
  have L := Lib.hid (sh_t s)
  go_enter Tryd.func13, Tryd.ntmps13
  go_wp2
  all_goals
    go_ret
    refine ⟨ret_bool ?_, rfl⟩
    rw [L.out]; simp_all <;> omega
theorem check_yes {s : Int} (w : World) (h : shB s = true) : Calls Tryd.prog 13 #[.int .i64 s] w fun e w' => e = .returned (.bool true) ∧ w = w' :=
  (check_any s w).mono fun _ _ ⟨a, b⟩ => ⟨by rw [a, h], b⟩
theorem check_not {s : Int} (w : World) (h : shB s = false) : Calls Tryd.prog 13 #[.int .i64 s] w fun e w' => e = .returned (.bool false) ∧ w = w' :=
  (check_any s w).mono fun _ _ ⟨a, b⟩ => ⟨by rw [a, h], b⟩

/-- What is a time, on a clock. -/
structure TimeOk (t s : Int) : Prop where
  lo : 0 ≤ t
  hi : t ≤ 137438953472
  sh : shB s = true
theorem time_no {t s : Int} (h : ¬ TimeOk t s) : t < 0 ∨ (0 ≤ t ∧ 137438953472 < t) ∨ (0 ≤ t ∧ t ≤ 137438953472 ∧ shB s = false) := by
  rcases Int.lt_or_le t 0 with a | a
  · exact .inl a
  rcases Int.lt_or_le 137438953472 t with b | b
  · exact .inr (.inl ⟨a, b⟩)
  cases c : shB s with
  | true => exact absurd ⟨a, b, c⟩ h
  | false => exact .inr (.inr ⟨a, b, rfl⟩)

theorem dayOf_no {t s : Int} (F : Nat) (w : World) (h : ¬ TimeOk t s) :
    Calls Tryd.prog 21 #[.int .i64 t, .int .i64 s, .func (.func F) #[] #[]] w fun e w' => e = .returned (.tuple #[.int .i64 0, .int .i64 1]) ∧ w = w' := by
  have hn := time_no h; clear h
  rcases hn with h | ⟨h1, h⟩ | ⟨h1, h2, h⟩
  · go_enter Tryd.func21, Tryd.ntmps21
    go_wp2_with fail
    go_ret2
    exact ⟨rfl, rfl⟩
  · go_enter Tryd.func21, Tryd.ntmps21
    go_wp2_with fail
    go_ret2
    exact ⟨rfl, rfl⟩
  · have C := Lib.hid (check_not w h); clear h
    go_enter Tryd.func21, Tryd.ntmps21
    go_wp2_with fail
    refine C.out.mono ?_
    rintro e w1 ⟨rfl, rfl⟩
    go_wp2_with fail
    go_ret2
    exact ⟨rfl, rfl⟩

/-- The two cases of a time's day. -/
theorem day_cases {t s : Int} (h : TimeOk t s) : (0 ≤ t + s ∧ t + s ≤ 137439003872 ∧ dayN t s = (t + s) / 86400) ∨ (t + s < 0 ∧ -50400 ≤ t + s ∧ dayN t s = -1) := by
  obtain ⟨a, b, _⟩ := sh_of h.sh
  have := h.lo; have := h.hi
  unfold dayN
  omega
set_option maxHeartbeats 1000000 in
theorem dayOf_yes {t s : Int} (F : Nat) (w : World) (h : TimeOk t s) (r : Int) (Q : World → Prop)
    (hcf : ∀ X, (callFunc F #[.int .i64 (dayN t s)]).run Tryd.prog X = .ok (.enter F #[.int .i64 (dayN t s)]) X)
    (hr : Calls Tryd.prog F #[.int .i64 (dayN t s)] w fun e w' => e = .returned (.tuple #[.int .i64 r, .int .i64 0]) ∧ Q w') :
    Calls Tryd.prog 21 #[.int .i64 t, .int .i64 s, .func (.func F) #[] #[]] w fun e w' => e = .returned (.tuple #[.int .i64 r, .int .i64 0]) ∧ Q w' := by
  have h1 := h.lo; have h2 := h.hi
  have C := Lib.hid (check_yes w h.sh)
  have R := Lib.hid hr; clear hr
  obtain ⟨g1, g2, _⟩ := sh_of h.sh
  rcases day_cases h with ⟨a, b, e⟩ | ⟨a, b, e⟩
  · rw [e] at R hcf
    have m0 : 0 ≤ (t + s) % 86400 := by omega
    have d1 : (t + s).tdiv 86400 = (t + s) / 86400 := Int.tdiv_eq_ediv_of_nonneg a
    have d2 : (t + s).tmod 86400 = (t + s) % 86400 := Int.tmod_eq_emod_of_nonneg a
    clear e h g1 g2
    go_enter Tryd.func21, Tryd.ntmps21
    go_wp2_with fail
    refine C.out.mono ?_
    rintro e w1 ⟨rfl, rfl⟩
    go_wp2_with fail
    refine R.out.mono ?_
    rintro e w1 ⟨rfl, hq⟩
    go_wp2_with fail
    go_ret2
    exact ⟨rfl, hq⟩
  · rw [e] at R hcf
    have d1 : (t + s).tdiv 86400 = 0 := by rw [show t + s = -(-(t + s)) by omega, Int.neg_tdiv, Int.tdiv_eq_zero_of_lt (by omega) (by omega)]; rfl
    have d2 : (t + s).tmod 86400 = t + s := by rw [show t + s = -(-(t + s)) by omega, Int.neg_tmod, Int.tmod_eq_of_lt (by omega) (by omega)]
    clear e h g1 g2
    go_enter Tryd.func21, Tryd.ntmps21
    go_wp2_with fail
    refine C.out.mono ?_
    rintro e w1 ⟨rfl, rfl⟩
    go_wp2_with fail
    refine R.out.mono ?_
    rintro e w1 ⟨rfl, hq⟩
    go_wp2_with fail
    go_ret2
    exact ⟨rfl, hq⟩

theorem day1_any (z : Int) (w : World) : Calls Tryd.prog 22 #[.int .i64 z] w fun e w' => e = .returned (.tuple #[.int .i64 z, .int .i64 0]) ∧ w = w' := by
  go_enter Tryd.func22, Tryd.ntmps22
  go_wp2_with fail
  go_ret2
  exact ⟨rfl, rfl⟩
theorem isM_of' {q y m d z : Int} (hq : IsM q z) (h : vldB y m d = true) (hn : num y m d = z) : 12 * y + m - 1 = q := (isM_of h hn).uniq hq
theorem monB_of {q y m d z : Int} (hq : IsM q z) (h : vldB y m d = true) (hn : num y m d = z) : monB y m d = q := by
  unfold monB; rw [if_pos h]; exact isM_of' hq h hn
set_option maxHeartbeats 1000000 in
theorem month1_any {q z : Int} (w : World) (hw : Lens w) (hq : IsM q z) (h1 : -719162 ≤ z) (h2 : z ≤ 2932896) :
    Calls Tryd.prog 23 #[.int .i64 z] w fun e w' => e = .returned (.tuple #[.int .i64 q, .int .i64 0]) ∧ Below w.heap.size w w' := by
  have hs : 0 < w.heap.size := World.block_lt_of_cell? w _ (hw 0 (by omega))
  have HL := Lib.hid (fun W (h : Below (w.heap.size) w W) => hw.below h hs)
  have C := Lib.hid (of_in z w hw h1 h2)
  clear hw h1 h2
  go_enter Tryd.func23, Tryd.ntmps23
  go_wp2_with fail
  refine C.out.mono ?_
  rintro e w1 ⟨y, m, d, rfl, ⟨hv, hn⟩, hb⟩
  have B := Lib.hid (hb.alloc hb.size (.cells #[.int .i64 y, .int .i64 m, .int .i64 d] 30))
  have hs1 := hb.size
  clear hb
  have E := Lib.hid (monB_of hq hv hn)
  clear hv hn hq
  go_wp2_with fail
  refine (month_any y m d _ (HL.out _ B.out) (by simp)).mono ?_
  rintro e w2 ⟨rfl, hb⟩
  have B2 := Lib.hid (B.out.trans (hb.mono B.out.size)); clear hb
  rw [E.out]
  go_wp2_with fail
  go_ret2
  exact ⟨rfl, B2.out⟩

theorem pday_yes {t s : Int} (w : World) (h : TimeOk t s) :
    Calls Tryd.prog 9 #[.int .i64 t, .int .i64 s] w fun e w' => e = .returned (.tuple #[.int .i64 (dayN t s), .int .i64 0]) ∧ w = w' := by
  have C := Lib.hid (dayOf_yes 22 w h (dayN t s) (fun w' => w = w') (fun X => by go_simp) (day1_any _ w))
  clear h
  go_enter Tryd.func9, Tryd.ntmps9
  go_wp2_with fail
  refine C.out.mono ?_
  rintro e w1 ⟨rfl, rfl⟩
  go_wp2_with fail
  go_ret2
  exact ⟨rfl, rfl⟩
theorem pday_no {t s : Int} (w : World) (h : ¬ TimeOk t s) :
    Calls Tryd.prog 9 #[.int .i64 t, .int .i64 s] w fun e w' => e = .returned (.tuple #[.int .i64 0, .int .i64 1]) ∧ w = w' := by
  have C := Lib.hid (dayOf_no 22 w h)
  clear h
  go_enter Tryd.func9, Tryd.ntmps9
  go_wp2_with fail
  refine C.out.mono ?_
  rintro e w1 ⟨rfl, rfl⟩
  go_wp2_with fail
  go_ret2
  exact ⟨rfl, rfl⟩
theorem dayN_in {t s : Int} (h : TimeOk t s) : -719162 ≤ dayN t s ∧ dayN t s ≤ 2932896 := by
  have := dayN_bd h.lo h.hi h.sh; omega
theorem pmonth_yes {t s q : Int} (w : World) (hw : Lens w) (h : TimeOk t s) (hq : IsM q (dayN t s)) :
    Calls Tryd.prog 11 #[.int .i64 t, .int .i64 s] w fun e w' => e = .returned (.tuple #[.int .i64 q, .int .i64 0]) ∧ Below w.heap.size w w' := by
  have C := Lib.hid (dayOf_yes 23 w h q (fun w' => Below w.heap.size w w') (fun X => by go_simp) (month1_any w hw hq (dayN_in h).1 (dayN_in h).2))
  clear h hq hw
  go_enter Tryd.func11, Tryd.ntmps11
  go_wp2_with fail
  refine C.out.mono ?_
  rintro e w1 ⟨rfl, hb⟩
  have B := Lib.hid hb; clear hb
  go_wp2_with fail
  go_ret2
  exact ⟨rfl, B.out⟩
theorem pmonth_no {t s : Int} (w : World) (h : ¬ TimeOk t s) :
    Calls Tryd.prog 11 #[.int .i64 t, .int .i64 s] w fun e w' => e = .returned (.tuple #[.int .i64 0, .int .i64 1]) ∧ w = w' := by
  have C := Lib.hid (dayOf_no 23 w h)
  clear h
  go_enter Tryd.func11, Tryd.ntmps11
  go_wp2_with fail
  refine C.out.mono ?_
  rintro e w1 ⟨rfl, rfl⟩
  go_wp2_with fail
  go_ret2
  exact ⟨rfl, rfl⟩
end Go.Proofs.YtakjgimnmobngaaDoor.Ci
