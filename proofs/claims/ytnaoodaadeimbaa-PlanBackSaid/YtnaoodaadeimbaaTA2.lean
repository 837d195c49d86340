import Derived.Test.YtnaoodaadeimbaaInts
import Derived.Test.YtnaoodaadeimbaaTi7
import Derived.BigQuiet
namespace Go.Proofs.Ytnaoodaadeimbaa.Ti
set_option linter.unusedVariables false
set_option linter.unusedSimpArgs false
set_option maxRecDepth 8000
open Go.RowKit Mem Mo
/-- What the document's Check asks of tier i. -/
structure Good (u p : Nat → Int) (m i : Nat) : Prop where
  p0 : 0 ≤ p i ∧ p i ≤ 1125899906842624
  z : i + 1 = m ↔ u i = 0
  u0 : 0 ≤ u i ∧ u i ≤ 1099511627776
  r : 0 < i → i + 1 ≠ m → u (i - 1) < u i
theorem Ok.good {u p : Nat → Int} {m : Nat} (h : Ok u p m) {i : Nat} (hi : i < m) : Good u p m i := by
  refine ⟨h.prc i hi, ⟨fun e => ?_, fun e => ?_⟩, h.bd hi, fun h0 h1 => ?_⟩
  · rw [show i = m - 1 by omega, h.last]
  · have := h.zero hi e; omega
  · have := (h.rise i (by omega)).1
    unfold prv at this; rwa [if_neg (by omega)] at this
theorem ok_of_good {u p : Nat → Int} {m : Nat} (h1 : 1 ≤ m) (h4 : m ≤ 4) (h : ∀ i, i < m → Good u p m i) : Ok u p m := by
  refine ⟨h1, h4, fun k hk => ⟨?_, (h k (by omega)).u0.2⟩, (h (m - 1) (by omega)).z.1 (by omega), fun k hk => (h k hk).p0⟩
  have g := h k (by omega)
  have z : ¬ u k = 0 := fun e => by have := g.z.2 e; omega
  unfold prv
  split
  · have := g.u0; omega
  · exact g.r (by omega) (by omega)
theorem bad_of {u p : Nat → Int} {m i : Nat} (hi : i < m) (h : ¬ Good u p m i) : okB u p m = false := by
  cases ho : okB u p m with
  | false => rfl
  | true => exact absurd ((okB_iff.1 ho).good hi) h
set_option maxHeartbeats 2000000 in
theorem RCheck_any (A : Option Addr) (c m : Nat) (u p : Nat → Int) (w : World) (B : Nat) (hr : RdT w B A c u p m) (hB : B ≤ w.heap.size) :
    Calls Try.prog 24 #[.slice A m c] w fun e w' => e = .returned (.bool (okB u p m)) ∧ Below w.heap.size w w' := by
  have HR := Lib.hid hr
  have hm : m ≤ maxLen := by have := hr.1; have := hr.2.1; omega
  have hmc : m ≤ c := hr.1
  unfold maxLen at hm
  clear hr hB
  go_enter Try.func24, Try.ntmps24
  go_wp2_with fail
  go_loopw [3] (fun v wr => ∃ k : Nat, k ≤ m ∧ v = .int .i64 k ∧ Hid (∀ i, i < k → Good u p m i) ∧ Hid (Below w.heap.size w wr) ∧ Hid (∀ q : Addr, wr.cell? q = w.cell? q)) (fun v _ => m - (intOf v).toNat)
  · exact ⟨0, by omega, rfl, Lib.hid (fun i hi => by omega), Lib.hid (Below.refl _ _), Lib.hid (fun _ => rfl)⟩
  · obtain ⟨k, hk, rfl, HJ, HX, HW⟩ := hrel
    by_cases hkn : k < m
    · obtain ⟨b, o, rfl, _, hc⟩ := HR.out.2.2 (by omega)
      obtain ⟨j, rfl⟩ : ∃ j, m = j + 1 := ⟨m - 1, by omega⟩
      have e1 := (HW.out ⟨b, o + k * 2, none⟩).trans (hc k hkn).1
      have e2 := (HW.out ⟨b, o + k * 2 + 1, none⟩).trans (hc k hkn).2
      have e3 : 0 < k → wr.cell? ⟨b, o + (k - 1) * 2, none⟩ = some (.int .i64 (u (k - 1))) := fun h => (HW.out ⟨b, o + (k - 1) * 2, none⟩).trans (hc (k - 1) (by omega)).1
      obtain ⟨x, hx⟩ := named (u k)
      obtain ⟨q, hq⟩ := named (p k)
      obtain ⟨y, hy⟩ := named (u (k - 1))
      rw [hx] at e1
      rw [hq] at e2
      rw [hy] at e3
      have E3 := Lib.hid e3
      have HN := Lib.hid (And.intro hx (And.intro hq hy))
      have i0 : IntKind.i64.wrap ((j : Int) + 1 - 1) = j := by rw [IntKind.wrap_i64]; omega
      have HK := Lib.hid hkn
      clear hc hx hq hy e3 HR
      by_cases h1 : q < 0
      · have z1 : (q < 0) = True := by simp [h1]
        have HH := Lib.hid h1
        clear h1
        go_wp2_with fail
        go_ret
        exact ⟨by rw [bad_of HK.out (by intro g; have := g.p0; rw [HN.out.2.1] at this; have := HH.out; omega)]; rfl, HX.out⟩
      have z1 : (q < 0) = False := by simp; omega
      by_cases h2 : 1125899906842624 < q
      · have z2 : (1125899906842624 < q) = True := by simp [h2]
        have HH := Lib.hid h2
        clear h1 h2
        go_wp2_with fail
        go_ret
        exact ⟨by rw [bad_of HK.out (by intro g; have := g.p0; rw [HN.out.2.1] at this; have := HH.out; omega)]; rfl, HX.out⟩
      have z2 : (1125899906842624 < q) = False := by simp; omega
      have HP := Lib.hid (And.intro h1 h2)
      clear h1 h2
      by_cases hl : k = j
      · subst hl
        by_cases h3 : x = 0
        · subst h3
          have good : Hid (Good u p (k + 1) k) := Lib.hid ⟨by rw [HN.out.2.1]; have := HP.out; omega, by simp [HN.out.1], by rw [HN.out.1]; omega, fun _ h => absurd rfl h⟩
          by_cases h5 : 0 < k
          · have d1 : decide ((0 : Int) < (k : Int)) = true := by simp; omega
            go_wp2_with fail
            go_quiet (fail)
            rename_i nq
            go_wp2_with fail
            go_roundw
            case rel =>
              refine ⟨k + 1, by omega, by go_num, Lib.hid (fun i hi => ?_), Lib.hid (below_drewN HX.out nq), Lib.hid (fun q => HW.out q)⟩
              rcases Nat.lt_or_eq_of_le (Nat.le_of_lt_succ hi) with h | rfl
              · exact HJ.out i h
              · exact good.out
            case measure => first | (simp [intOf]; done) | (simp [intOf]; omega)
          · have d1 : decide ((0 : Int) < (k : Int)) = false := by simp; omega
            go_wp2_with fail
            go_quiet (fail)
            rename_i nq
            go_wp2_with fail
            go_roundw
            case rel =>
              refine ⟨k + 1, by omega, by go_num, Lib.hid (fun i hi => ?_), Lib.hid (below_drewN HX.out nq), Lib.hid (fun q => HW.out q)⟩
              rcases Nat.lt_or_eq_of_le (Nat.le_of_lt_succ hi) with h | rfl
              · exact HJ.out i h
              · exact good.out
            case measure => first | (simp [intOf]; done) | (simp [intOf]; omega)
        · have x0 : (x == 0) = false := by simp [h3]
          have HH := Lib.hid h3
          clear h3
          go_wp2_with fail
          go_ret
          exact ⟨by rw [bad_of HK.out (by intro g; have := g.z.1 rfl; rw [HN.out.1] at this; exact HH.out this)]; rfl, HX.out⟩
      have l1 : ((k : Int) == (j : Int)) = false := by simp; omega
      have HL := Lib.hid hl
      clear hl
      by_cases h3 : x = 0
      · subst h3
        go_wp2_with fail
        go_ret
        exact ⟨by rw [bad_of HK.out (by intro g; have := g.z.2 HN.out.1; have := HL.out; omega)]; rfl, HX.out⟩
      have x0 : (x == 0) = false := by simp [h3]
      have H3 := Lib.hid h3
      clear h3
      by_cases h4 : x < 0
      · have z4 : (x < 0) = True := by simp [h4]
        have HH := Lib.hid h4
        clear h4
        go_wp2_with fail
        go_ret
        exact ⟨by rw [bad_of HK.out (by intro g; have := g.u0; rw [HN.out.1] at this; have := HH.out; omega)]; rfl, HX.out⟩
      have z4 : (x < 0) = False := by simp; omega
      by_cases h5 : 1099511627776 < x
      · have z5 : (1099511627776 < x) = True := by simp [h5]
        have HH := Lib.hid h5
        clear h4 h5
        go_wp2_with fail
        go_ret
        exact ⟨by rw [bad_of HK.out (by intro g; have := g.u0; rw [HN.out.1] at this; have := HH.out; omega)]; rfl, HX.out⟩
      have z5 : (1099511627776 < x) = False := by simp; omega
      have H5 := Lib.hid (And.intro h4 h5)
      clear h4 h5
      by_cases h6 : 0 < k
      · have d1 : decide ((0 : Int) < (k : Int)) = true := by simp; omega
        have e3 := E3.out h6
        obtain ⟨k1, rfl⟩ : ∃ k1, k = k1 + 1 := ⟨k - 1, by omega⟩
        rw [Nat.add_sub_cancel] at e3
        have i1 : IntKind.i64.wrap ((k1 : Int) + 1 - 1) = k1 := by rw [IntKind.wrap_i64]; omega
        have l2 : ((k1 : Int) + 1 == (j : Int)) = false := by have := HL.out; simp; omega
        clear l1
        by_cases h7 : x ≤ y
        · have d2 : decide (x ≤ y) = true := by simp [h7]
          have HH := Lib.hid h7
          clear h7
          go_wp2_with fail
          go_quiet (fail)
          rename_i nq
          go_wp2_with fail
          go_ret
          exact ⟨by rw [bad_of HK.out (by intro g; have := g.r (by omega) (by have := HL.out; omega); rw [HN.out.1, HN.out.2.2] at this; have := HH.out; omega)]; rfl, below_drewN HX.out nq⟩
        · have d2 : decide (x ≤ y) = false := by simp; omega
          have good : Hid (Good u p (j + 1) (k1 + 1)) := Lib.hid ⟨by rw [HN.out.2.1]; have := HP.out; omega, ⟨fun e => by have := HL.out; omega, fun e => absurd (HN.out.1.symm.trans e) H3.out⟩, by rw [HN.out.1]; have := H5.out; omega, fun _ _ => by rw [HN.out.1, HN.out.2.2]; omega⟩
          clear h7
          go_wp2_with fail
          go_quiet (fail)
          rename_i nq
          go_wp2_with fail
          go_roundw
          case rel =>
            refine ⟨k1 + 1 + 1, by omega, by go_num, Lib.hid (fun i hi => ?_), Lib.hid (below_drewN HX.out nq), Lib.hid (fun q => HW.out q)⟩
            rcases Nat.lt_or_eq_of_le (Nat.le_of_lt_succ hi) with h | rfl
            · exact HJ.out i h
            · exact good.out
          case measure => first | (simp [intOf]; done) | (simp [intOf]; omega)
      · have d1 : decide ((0 : Int) < (k : Int)) = false := by simp; omega
        have good : Hid (Good u p (j + 1) k) := Lib.hid ⟨by rw [HN.out.2.1]; have := HP.out; omega, ⟨fun e => by have := HL.out; omega, fun e => absurd (HN.out.1.symm.trans e) H3.out⟩, by rw [HN.out.1]; have := H5.out; omega, fun h _ => absurd h h6⟩
        go_wp2_with fail
        go_quiet (fail)
        rename_i nq
        go_wp2_with fail
        go_roundw
        case rel =>
          refine ⟨k + 1, by omega, by go_num, Lib.hid (fun i hi => ?_), Lib.hid (below_drewN HX.out nq), Lib.hid (fun q => HW.out q)⟩
          rcases Nat.lt_or_eq_of_le (Nat.le_of_lt_succ hi) with h | rfl
          · exact HJ.out i h
          · exact good.out
        case measure => first | (simp [intOf]; done) | (simp [intOf]; omega)
    · obtain rfl : k = m := by omega
      have e : okB u p k = decide (1 ≤ k ∧ k ≤ 4) := by
        cases ho : okB u p k with
        | true => have := okB_iff.1 ho; have a := this.m1; have b := this.m4; simp; omega
        | false =>
          by_cases h : 1 ≤ k ∧ k ≤ 4
          · exact absurd (ok_of_good h.1 h.2 HJ.out) (okB_not ho)
          · simp; omega
      have hd : decide (1 ≤ k ∧ k ≤ 4) = (decide ((1 : Int) ≤ (k : Int)) && decide ((k : Int) ≤ 4)) := by
        rw [Bool.eq_iff_iff]; simp; omega
      have HD := Lib.hid (e.trans hd)
      clear e hd
      by_cases h1 : 1 ≤ k
      · have d1 : ((1 : Int) ≤ (k : Int)) = True := by simp; omega
        go_wp2_with fail
        go_ret
        exact ⟨by rw [HD.out]; simp [d1], HX.out⟩
      · have d1 : ((1 : Int) ≤ (k : Int)) = False := by simp; omega
        go_wp2_with fail
        go_ret
        exact ⟨by rw [HD.out]; simp [d1], HX.out⟩
end Go.Proofs.Ytnaoodaadeimbaa.Ti
