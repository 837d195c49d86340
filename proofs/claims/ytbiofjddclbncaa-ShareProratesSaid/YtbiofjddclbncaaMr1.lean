import Derived.Test.YtbiofjddclbncaaMr0
namespace Go.Proofs.Ytbiofjddclbncaa.Mo
set_option linter.unusedVariables false
set_option linter.unusedSimpArgs false
open Go.RowKit Mem
set_option maxRecDepth 8000

/-- What Add does, digit by digit. -/
theorem add_digits (a0 a1 a2 a3 b0 b1 b2 b3 : Int) (x0 x1 x2 x3 c1 c2 c3 c4 : Int)
    (e0 : a0 + b0 = x0 + 4294967296 * c1) (e1 : a1 + b1 + c1 = x1 + 4294967296 * c2) (e2 : a2 + b2 + c2 = x2 + 4294967296 * c3) (e3 : a3 + b3 + c3 = x3 + 4294967296 * c4) :
    a0 + a1 * 4294967296 + a2 * 18446744073709551616 + a3 * 79228162514264337593543950336 + (b0 + b1 * 4294967296 + b2 * 18446744073709551616 + b3 * 79228162514264337593543950336) = x0 + x1 * 4294967296 + x2 * 18446744073709551616 + x3 * 79228162514264337593543950336 + 340282366920938463463374607431768211456 * c4 := by omega

/-- What out holds ahead of round k. -/
def ol (x0 x1 x2 x3 : Int) : Nat → List Value
  | 0 => [.int .u64 0, .int .u64 0, .int .u64 0, .int .u64 0]
  | 1 => [.int .u64 x0, .int .u64 0, .int .u64 0, .int .u64 0]
  | 2 => [.int .u64 x0, .int .u64 x1, .int .u64 0, .int .u64 0]
  | 3 => [.int .u64 x0, .int .u64 x1, .int .u64 x2, .int .u64 0]
  | _ => [.int .u64 x0, .int .u64 x1, .int .u64 x2, .int .u64 x3]
def cl (c1 c2 c3 c4 : Int) : Nat → Int
  | 0 => 0
  | 1 => c1
  | 2 => c2
  | 3 => c3
  | _ => c4

set_option maxHeartbeats 4000000 in
theorem RAdd_any (U V : Int) (w : World) : Calls Try.prog 23 #[bg U, bg V] w fun e w' => e = .returned (bg (U + V)) ∧ Below w.heap.size w w' := by
  obtain ⟨⟨u0, u0'⟩, ⟨u1, u1'⟩, ⟨u2, u2'⟩, u3, u3'⟩ := dg_bd U
  obtain ⟨⟨v0, v0'⟩, ⟨v1, v1'⟩, ⟨v2, v2'⟩, v3, v3'⟩ := dg_bd V
  have hU := dg_sum U
  have hV := dg_sum V
  have key : ∃ x0 x1 x2 x3 c1 c2 c3 c4 : Int, (x0 = dg0 (U + V) ∧ x1 = dg1 (U + V) ∧ x2 = dg2 (U + V) ∧ x3 = dg3 (U + V)) ∧
      ((IntKind.u64.wrap (IntKind.u64.wrap (dg0 U + dg0 V))).tmod 4294967296 = x0 ∧ IntKind.u64.wrap (IntKind.u64.wrap (dg0 U + dg0 V)) / 4294967296 = c1) ∧
      ((IntKind.u64.wrap (IntKind.u64.wrap (dg1 U + dg1 V) + c1)).tmod 4294967296 = x1 ∧ IntKind.u64.wrap (IntKind.u64.wrap (dg1 U + dg1 V) + c1) / 4294967296 = c2) ∧
      ((IntKind.u64.wrap (IntKind.u64.wrap (dg2 U + dg2 V) + c2)).tmod 4294967296 = x2 ∧ IntKind.u64.wrap (IntKind.u64.wrap (dg2 U + dg2 V) + c2) / 4294967296 = c3) ∧
      ((IntKind.u64.wrap (IntKind.u64.wrap (dg3 U + dg3 V) + c3)).tmod 4294967296 = x3 ∧ IntKind.u64.wrap (IntKind.u64.wrap (dg3 U + dg3 V) + c3) / 4294967296 = c4) := by
    generalize dg0 U = a0 at *
    generalize dg1 U = a1 at *
    generalize dg2 U = a2 at *
    generalize dg3 U = a3 at *
    generalize dg0 V = b0 at *
    generalize dg1 V = b1 at *
    generalize dg2 V = b2 at *
    generalize dg3 V = b3 at *
    obtain ⟨c1, hc1⟩ := named ((a0 + b0) / 4294967296)
    obtain ⟨c2, hc2⟩ := named ((a1 + b1 + c1) / 4294967296)
    obtain ⟨c3, hc3⟩ := named ((a2 + b2 + c2) / 4294967296)
    obtain ⟨c4, hc4⟩ := named ((a3 + b3 + c3) / 4294967296)
    refine ⟨(a0 + b0) % 4294967296, (a1 + b1 + c1) % 4294967296, (a2 + b2 + c2) % 4294967296, (a3 + b3 + c3) % 4294967296, c1, c2, c3, c4, ?_, ?_, ?_, ?_, ?_⟩
    · refine dg_of (by omega) (by omega) (by omega) (by omega) ?_
      have := add_digits a0 a1 a2 a3 b0 b1 b2 b3 _ _ _ _ c1 c2 c3 c4 (show a0 + b0 = (a0 + b0) % 4294967296 + 4294967296 * c1 by omega) (show a1 + b1 + c1 = (a1 + b1 + c1) % 4294967296 + 4294967296 * c2 by omega) (show a2 + b2 + c2 = (a2 + b2 + c2) % 4294967296 + 4294967296 * c3 by omega) (show a3 + b3 + c3 = (a3 + b3 + c3) % 4294967296 + 4294967296 * c4 by omega)
      omega
    all_goals
      refine ⟨?_, ?_⟩
      · rw [Int.tmod_eq_emod_of_nonneg (by simp only [IntKind.wrap_u64]; omega)]; simp only [IntKind.wrap_u64]; omega
      · simp only [IntKind.wrap_u64]; omega
  obtain ⟨x0, x1, x2, x3, c1, c2, c3, c4, ⟨k0, k1, k2, k3⟩, ⟨m0, n0⟩, ⟨m1, n1⟩, ⟨m2, n2⟩, m3, n3⟩ := key
  clear hU hV u0 u0' u1 u1' u2 u2' u3 u3' v0 v0' v1 v1' v2 v2' v3 v3'
  unfold bg
  rw [← k0, ← k1, ← k2, ← k3]
  clear k0 k1 k2 k3
  generalize dg0 U = a0 at *
  generalize dg1 U = a1 at *
  generalize dg2 U = a2 at *
  generalize dg3 U = a3 at *
  generalize dg0 V = b0 at *
  generalize dg1 V = b1 at *
  generalize dg2 V = b2 at *
  generalize dg3 V = b3 at *
  go_enter Try.func23, Try.ntmps23
  have HQ := Lib.hid (And.intro (And.intro m0 n0) (And.intro (And.intro m1 n1) (And.intro (And.intro m2 n2) (And.intro m3 n3))))
  clear m0 n0 m1 n1 m2 n2 m3 n3
  go_wp2_with fail
  go_loopw [6, 7] (fun c v wr => ∃ k : Nat, k ≤ 4 ∧ c = .int .u64 (cl c1 c2 c3 c4 k) ∧ v = .int .i64 k ∧ Hid (VN wr (w.heap.size + 1 + 1 + 1) (ol x0 x1 x2 x3 k) ∧ VN wr w.heap.size [.int .u64 a0, .int .u64 a1, .int .u64 a2, .int .u64 a3] ∧ VN wr (w.heap.size + 1) [.int .u64 b0, .int .u64 b1, .int .u64 b2, .int .u64 b3] ∧ VN wr (w.heap.size + 1 + 1) [.int .u64 0, .int .u64 0, .int .u64 0, .int .u64 0] ∧ Below w.heap.size w wr)) (fun _ v _ => 4 - (intOf v).toNat)
  · refine ⟨0, by omega, rfl, rfl, Lib.hid ⟨?_, ?_, ?_, ?_, ?_⟩⟩
    · have h := VN.new (((w.alloc (.cells #[.int .u64 a0, .int .u64 a1, .int .u64 a2, .int .u64 a3] 46)).alloc (.cells #[.int .u64 b0, .int .u64 b1, .int .u64 b2, .int .u64 b3] 46)).alloc (.cells #[.int .u64 0, .int .u64 0, .int .u64 0, .int .u64 0] 46)) #[.int .u64 0, .int .u64 0, .int .u64 0, .int .u64 0] 46
      rw [size_alloc', size_alloc', size_alloc'] at h; exact h
    · exact (((VN.new w #[.int .u64 a0, .int .u64 a1, .int .u64 a2, .int .u64 a3] 46).alloc _).alloc _).alloc _
    · have h := (((VN.new (w.alloc (.cells #[.int .u64 a0, .int .u64 a1, .int .u64 a2, .int .u64 a3] 46)) #[.int .u64 b0, .int .u64 b1, .int .u64 b2, .int .u64 b3] 46).alloc (.cells #[.int .u64 0, .int .u64 0, .int .u64 0, .int .u64 0] 46)).alloc (.cells #[.int .u64 0, .int .u64 0, .int .u64 0, .int .u64 0] 46))
      rw [size_alloc'] at h; exact h
    · have h := ((VN.new ((w.alloc (.cells #[.int .u64 a0, .int .u64 a1, .int .u64 a2, .int .u64 a3] 46)).alloc (.cells #[.int .u64 b0, .int .u64 b1, .int .u64 b2, .int .u64 b3] 46)) #[.int .u64 0, .int .u64 0, .int .u64 0, .int .u64 0] 46).alloc (.cells #[.int .u64 0, .int .u64 0, .int .u64 0, .int .u64 0] 46))
      rw [size_alloc', size_alloc'] at h; exact h
    · exact ((((Below.refl _ _).alloc (Nat.le_refl _) _).alloc (by simp) _).alloc (by simp; omega) _).alloc (by simp; omega) _
  · obtain ⟨k, hk, rfl, rfl, hX⟩ := hrel
    have cases : k = 0 ∨ k = 1 ∨ k = 2 ∨ k = 3 ∨ k = 4 := by omega
    clear hk
    have HA := Lib.hid hX.out.2.1
    have HB := Lib.hid hX.out.2.2.1
    have HC := Lib.hid hX.out.2.2.2.1
    have HD := Lib.hid hX.out.2.2.2.2
    rcases cases with rfl | rfl | rfl | rfl | rfl
    · have m := HQ.out.1.1
      have n := HQ.out.1.2
      have f1 := HA.out.c 0 _ rfl
      have f2 := HB.out.c 0 _ rfl
      have g1 := hX.out.1.c 0 _ rfl
      have z1 := hX.out.1.z 0
      have HO := Lib.hid hX.out.1
      clear hX
      unfold cl
      go_wp2_with fail
      go_quiet (fail)
      rename_i nq
      go_wp2_with fail
      go_roundw
      case rel => exact ⟨1, by omega, rfl, rfl, Lib.hid ⟨((HO.out.drewN nq).set 0 (by simp [ol]) _), (HA.out.drewN nq).other (p := ⟨w.heap.size + 1 + 1 + 1, 0, none⟩) (by simp; try omega) _, (HB.out.drewN nq).other (p := ⟨w.heap.size + 1 + 1 + 1, 0, none⟩) (by simp; try omega) _, (HC.out.drewN nq).other (p := ⟨w.heap.size + 1 + 1 + 1, 0, none⟩) (by simp; try omega) _, bel_set (below_drewN HD.out nq) (by omega) _⟩⟩
      case measure => simp [intOf]
    · have m := HQ.out.2.1.1
      have n := HQ.out.2.1.2
      have f1 := HA.out.c 1 _ rfl
      have f2 := HB.out.c 1 _ rfl
      have g1 := hX.out.1.c 1 _ rfl
      have z1 := hX.out.1.z 1
      have HO := Lib.hid hX.out.1
      clear hX
      unfold cl
      go_wp2_with fail
      go_quiet (fail)
      rename_i nq
      go_wp2_with fail
      go_roundw
      case rel => exact ⟨2, by omega, rfl, rfl, Lib.hid ⟨((HO.out.drewN nq).set 1 (by simp [ol]) _), (HA.out.drewN nq).other (p := ⟨w.heap.size + 1 + 1 + 1, 1, none⟩) (by simp; try omega) _, (HB.out.drewN nq).other (p := ⟨w.heap.size + 1 + 1 + 1, 1, none⟩) (by simp; try omega) _, (HC.out.drewN nq).other (p := ⟨w.heap.size + 1 + 1 + 1, 1, none⟩) (by simp; try omega) _, bel_set (below_drewN HD.out nq) (by omega) _⟩⟩
      case measure => simp [intOf]
    · have m := HQ.out.2.2.1.1
      have n := HQ.out.2.2.1.2
      have f1 := HA.out.c 2 _ rfl
      have f2 := HB.out.c 2 _ rfl
      have g1 := hX.out.1.c 2 _ rfl
      have z1 := hX.out.1.z 2
      have HO := Lib.hid hX.out.1
      clear hX
      unfold cl
      go_wp2_with fail
      go_quiet (fail)
      rename_i nq
      go_wp2_with fail
      go_roundw
      case rel => exact ⟨3, by omega, rfl, rfl, Lib.hid ⟨((HO.out.drewN nq).set 2 (by simp [ol]) _), (HA.out.drewN nq).other (p := ⟨w.heap.size + 1 + 1 + 1, 2, none⟩) (by simp; try omega) _, (HB.out.drewN nq).other (p := ⟨w.heap.size + 1 + 1 + 1, 2, none⟩) (by simp; try omega) _, (HC.out.drewN nq).other (p := ⟨w.heap.size + 1 + 1 + 1, 2, none⟩) (by simp; try omega) _, bel_set (below_drewN HD.out nq) (by omega) _⟩⟩
      case measure => simp [intOf]
    · have m := HQ.out.2.2.2.1
      have n := HQ.out.2.2.2.2
      have f1 := HA.out.c 3 _ rfl
      have f2 := HB.out.c 3 _ rfl
      have g1 := hX.out.1.c 3 _ rfl
      have z1 := hX.out.1.z 3
      have HO := Lib.hid hX.out.1
      clear hX
      unfold cl
      go_wp2_with fail
      go_quiet (fail)
      rename_i nq
      go_wp2_with fail
      go_roundw
      case rel => exact ⟨4, by omega, rfl, rfl, Lib.hid ⟨((HO.out.drewN nq).set 3 (by simp [ol]) _), (HA.out.drewN nq).other (p := ⟨w.heap.size + 1 + 1 + 1, 3, none⟩) (by simp; try omega) _, (HB.out.drewN nq).other (p := ⟨w.heap.size + 1 + 1 + 1, 3, none⟩) (by simp; try omega) _, (HC.out.drewN nq).other (p := ⟨w.heap.size + 1 + 1 + 1, 3, none⟩) (by simp; try omega) _, bel_set (below_drewN HD.out nq) (by omega) _⟩⟩
      case measure => simp [intOf]
    · have g0 := hX.out.1.c 0 _ rfl
      have g1 := hX.out.1.c 1 _ rfl
      have g2 := hX.out.1.c 2 _ rfl
      have g3 := hX.out.1.c 3 _ rfl
      have z0 := HC.out.z 0
      have z1 := HC.out.z 1
      have z2 := HC.out.z 2
      have z3 := HC.out.z 3
      have y0 := HC.out.c 0 _ rfl
      have y1 := HC.out.c 1 _ rfl
      have y2 := HC.out.c 2 _ rfl
      have y3 := HC.out.c 3 _ rfl
      clear hX HA HB
      go_wp2_with fail
      exact bodyPost_ret (v := .agg #[.int .u64 x0, .int .u64 x1, .int .u64 x2, .int .u64 x3]) (by simp [results, Try.results23, go_sem, y0, y1, y2, y3]) rfl ⟨rfl, bel_set (bel_set (bel_set (bel_set HD.out (by omega) _) (by omega) _) (by omega) _) (by omega) _⟩
end Go.Proofs.Ytbiofjddclbncaa.Mo
