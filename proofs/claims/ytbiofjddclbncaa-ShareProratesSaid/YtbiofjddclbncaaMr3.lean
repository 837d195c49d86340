import Derived.Test.YtbiofjddclbncaaMr2
namespace Go.Proofs.Ytbiofjddclbncaa.Mo
set_option linter.unusedVariables false
set_option linter.unusedSimpArgs false
open Go.RowKit Mem
set_option maxRecDepth 8000

theorem less_digits {U V : Int} (hU : 0 ≤ U ∧ U < 340282366920938463463374607431768211456) (hV : 0 ≤ V ∧ V < 340282366920938463463374607431768211456) :
    (dg3 U ≠ dg3 V → decide (U < V) = decide (dg3 U < dg3 V)) ∧ (dg3 U = dg3 V → dg2 U ≠ dg2 V → decide (U < V) = decide (dg2 U < dg2 V)) ∧
    (dg3 U = dg3 V → dg2 U = dg2 V → dg1 U ≠ dg1 V → decide (U < V) = decide (dg1 U < dg1 V)) ∧ (dg3 U = dg3 V → dg2 U = dg2 V → dg1 U = dg1 V → decide (U < V) = decide (dg0 U < dg0 V)) := by
  have a := dg_bd U
  have b := dg_bd V
  have c := dg_sum U
  have d := dg_sum V
  generalize dg0 U = a0 at *
  generalize dg1 U = a1 at *
  generalize dg2 U = a2 at *
  generalize dg3 U = a3 at *
  generalize dg0 V = b0 at *
  generalize dg1 V = b1 at *
  generalize dg2 V = b2 at *
  generalize dg3 V = b3 at *
  refine ⟨fun h => ?_, fun h1 h => ?_, fun h1 h2 h => ?_, fun h1 h2 h3 => ?_⟩ <;> (rw [Bool.eq_iff_iff]; simp only [decide_eq_true_eq]; omega)

set_option maxHeartbeats 4000000 in
theorem Less_any (U V : Int) (w : World) (hU : 0 ≤ U ∧ U < 340282366920938463463374607431768211456) (hV : 0 ≤ V ∧ V < 340282366920938463463374607431768211456) :
    Calls Try.prog 35 #[bg U, bg V] w fun e w' => e = .returned (.bool (decide (U < V))) ∧ Below w.heap.size w w' := by
  have HL := Lib.hid (less_digits hU hV)
  clear hU hV
  unfold bg
  generalize decide (U < V) = r at *
  generalize dg0 U = a0 at *
  generalize dg1 U = a1 at *
  generalize dg2 U = a2 at *
  generalize dg3 U = a3 at *
  generalize dg0 V = b0 at *
  generalize dg1 V = b1 at *
  generalize dg2 V = b2 at *
  generalize dg3 V = b3 at *
  have VA := Lib.hid ((VN.new w #[.int .u64 a0, .int .u64 a1, .int .u64 a2, .int .u64 a3] 46).alloc (.cells #[.int .u64 b0, .int .u64 b1, .int .u64 b2, .int .u64 b3] 46))
  have vb := VN.new (w.alloc (.cells #[.int .u64 a0, .int .u64 a1, .int .u64 a2, .int .u64 a3] 46)) #[.int .u64 b0, .int .u64 b1, .int .u64 b2, .int .u64 b3] 46
  rw [size_alloc'] at vb
  have VB := Lib.hid vb
  clear vb
  go_enter Try.func35, Try.ntmps35
  go_wp2_with fail
  go_loopw [5] (fun v wr => ∃ k : Nat, k ≤ 4 ∧ v = .int .i64 ((3 : Int) - (k : Int)) ∧ Hid (VN wr w.heap.size [.int .u64 a0, .int .u64 a1, .int .u64 a2, .int .u64 a3] ∧ VN wr (w.heap.size + 1) [.int .u64 b0, .int .u64 b1, .int .u64 b2, .int .u64 b3] ∧ Below w.heap.size w wr) ∧ Hid ((1 ≤ k → a3 = b3) ∧ (2 ≤ k → a2 = b2) ∧ (3 ≤ k → a1 = b1) ∧ (4 ≤ k → a0 = b0))) (fun v _ => (intOf v + 1).toNat)
  · exact ⟨0, by omega, rfl, Lib.hid ⟨VA.out, VB.out, ((Below.refl _ _).alloc (Nat.le_refl _) _).alloc (by simp) _⟩, Lib.hid ⟨fun h => by omega, fun h => by omega, fun h => by omega, fun h => by omega⟩⟩
  · obtain ⟨k, hk, rfl, hX, hE⟩ := hrel
    have cases : k = 0 ∨ k = 1 ∨ k = 2 ∨ k = 3 ∨ k = 4 := by omega
    clear hk VA VB
    have HA := Lib.hid hX.out.1
    have HB := Lib.hid hX.out.2.1
    have HD := Lib.hid hX.out.2.2
    clear hX
    rcases cases with rfl | rfl | rfl | rfl | rfl
    · have f1 := HA.out.c 3 _ rfl
      have f2 := HB.out.c 3 _ rfl
      by_cases hq : a3 = b3
      · have t1 : (a3 != b3) = false := by simp [hq]
        have t2 : (a3 == b3) = true := by simp [hq]
        have HQ := Lib.hid hq
        clear hq
        go_wp2_with fail
        go_quiet (fail)
        rename_i nq
        go_wp2_with fail
        go_roundw
        case rel =>
          have hq := HQ.out
          exact ⟨1, by omega, by simp, Lib.hid ⟨HA.out.drewN nq, HB.out.drewN nq, below_drewN HD.out nq⟩, Lib.hid ⟨fun _ => hq, fun h => by omega, fun h => by omega, fun h => by omega⟩⟩
        case measure => simp [intOf]
      · have t1 : (a3 != b3) = true := by simpa using hq
        have t2 : (a3 == b3) = false := by simpa using hq
        have HR := Lib.hid (show r = decide (a3 < b3) from by have hn := hq; exact HL.out.1 hn)
        clear hq
        go_wp2_with fail
        go_quiet (fail)
        rename_i nq
        go_wp2_with fail
        go_quiet (fail)
        go_wp2_with fail
        go_ret
        exact ⟨by rw [HR.out]; rfl, by first | exact below_drewN (below_drewN HD.out _) _ | exact below_drewN HD.out _⟩
    · have f1 := HA.out.c 2 _ rfl
      have f2 := HB.out.c 2 _ rfl
      by_cases hq : a2 = b2
      · have t1 : (a2 != b2) = false := by simp [hq]
        have t2 : (a2 == b2) = true := by simp [hq]
        have HQ := Lib.hid hq
        clear hq
        go_wp2_with fail
        go_quiet (fail)
        rename_i nq
        go_wp2_with fail
        go_roundw
        case rel =>
          have hq := HQ.out
          exact ⟨2, by omega, by simp, Lib.hid ⟨HA.out.drewN nq, HB.out.drewN nq, below_drewN HD.out nq⟩, Lib.hid ⟨fun _ => hE.out.1 (by omega), fun _ => hq, fun h => by omega, fun h => by omega⟩⟩
        case measure => simp [intOf]
      · have t1 : (a2 != b2) = true := by simpa using hq
        have t2 : (a2 == b2) = false := by simpa using hq
        have HR := Lib.hid (show r = decide (a2 < b2) from by have hn := hq; exact HL.out.2.1 (hE.out.1 (by omega)) hn)
        clear hq
        go_wp2_with fail
        go_quiet (fail)
        rename_i nq
        go_wp2_with fail
        go_quiet (fail)
        go_wp2_with fail
        go_ret
        exact ⟨by rw [HR.out]; rfl, by first | exact below_drewN (below_drewN HD.out _) _ | exact below_drewN HD.out _⟩
    · have f1 := HA.out.c 1 _ rfl
      have f2 := HB.out.c 1 _ rfl
      by_cases hq : a1 = b1
      · have t1 : (a1 != b1) = false := by simp [hq]
        have t2 : (a1 == b1) = true := by simp [hq]
        have HQ := Lib.hid hq
        clear hq
        go_wp2_with fail
        go_quiet (fail)
        rename_i nq
        go_wp2_with fail
        go_roundw
        case rel =>
          have hq := HQ.out
          exact ⟨3, by omega, by simp, Lib.hid ⟨HA.out.drewN nq, HB.out.drewN nq, below_drewN HD.out nq⟩, Lib.hid ⟨fun _ => hE.out.1 (by omega), fun _ => hE.out.2.1 (by omega), fun _ => hq, fun h => by omega⟩⟩
        case measure => simp [intOf]
      · have t1 : (a1 != b1) = true := by simpa using hq
        have t2 : (a1 == b1) = false := by simpa using hq
        have HR := Lib.hid (show r = decide (a1 < b1) from by have hn := hq; exact HL.out.2.2.1 (hE.out.1 (by omega)) (hE.out.2.1 (by omega)) hn)
        clear hq
        go_wp2_with fail
        go_quiet (fail)
        rename_i nq
        go_wp2_with fail
        go_quiet (fail)
        go_wp2_with fail
        go_ret
        exact ⟨by rw [HR.out]; rfl, by first | exact below_drewN (below_drewN HD.out _) _ | exact below_drewN HD.out _⟩
    · have f1 := HA.out.c 0 _ rfl
      have f2 := HB.out.c 0 _ rfl
      by_cases hq : a0 = b0
      · have t1 : (a0 != b0) = false := by simp [hq]
        have t2 : (a0 == b0) = true := by simp [hq]
        have HQ := Lib.hid hq
        clear hq
        go_wp2_with fail
        go_quiet (fail)
        rename_i nq
        go_wp2_with fail
        go_roundw
        case rel =>
          have hq := HQ.out
          exact ⟨4, by omega, by simp, Lib.hid ⟨HA.out.drewN nq, HB.out.drewN nq, below_drewN HD.out nq⟩, Lib.hid ⟨fun _ => hE.out.1 (by omega), fun _ => hE.out.2.1 (by omega), fun _ => hE.out.2.2.1 (by omega), fun _ => hq⟩⟩
        case measure => simp [intOf]
      · have t1 : (a0 != b0) = true := by simpa using hq
        have t2 : (a0 == b0) = false := by simpa using hq
        have HR := Lib.hid (show r = decide (a0 < b0) from by have hn := hq; exact HL.out.2.2.2 (hE.out.1 (by omega)) (hE.out.2.1 (by omega)) (hE.out.2.2.1 (by omega)) )
        clear hq
        go_wp2_with fail
        go_quiet (fail)
        rename_i nq
        go_wp2_with fail
        go_quiet (fail)
        go_wp2_with fail
        go_ret
        exact ⟨by rw [HR.out]; rfl, by first | exact below_drewN (below_drewN HD.out _) _ | exact below_drewN HD.out _⟩
    · have HR := Lib.hid (show r = false from by
        have h := HL.out.2.2.2 (hE.out.1 (by omega)) (hE.out.2.1 (by omega)) (hE.out.2.2.1 (by omega))
        rw [h, hE.out.2.2.2 (by omega)]; simp)
      go_wp2_with fail
      go_ret
      exact ⟨by rw [HR.out]; rfl, HD.out⟩
end Go.Proofs.Ytbiofjddclbncaa.Mo
