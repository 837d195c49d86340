import Derived.Test.YtbiofjddclbncaaMr1
import Derived.Deep.RegionHeld3
import Derived.Deep.RegionWith
import Derived.Deep.CutRange
import Derived.BigQuiet
import Derived.ChangeKeysEq
namespace Go.Proofs.Ytbiofjddclbncaa.Mo
set_option linter.unusedVariables false
set_option linter.unusedSimpArgs false
open Go.RowKit Mem
set_option maxRecDepth 8000

theorem bg_one : bg 1 = .agg #[.int .u64 1, .int .u64 0, .int .u64 0, .int .u64 0] := rfl
theorem bg_zero : bg 0 = .agg #[.int .u64 0, .int .u64 0, .int .u64 0, .int .u64 0] := rfl

set_option maxHeartbeats 4000000 in
theorem RNeg_any (V : Int) (w : World) : Calls Try.prog 36 #[bg V] w fun e w' => e = .returned (bg (-V)) ∧ Below w.heap.size w w' := by
  have C := Lib.hid (fun W => RAdd_any (-1 - V) 1 W)
  rw [show -1 - V + 1 = -V by omega, bg_one] at C
  obtain ⟨b0, b1, b2, b3⟩ := dg_bd V
  obtain ⟨a0, ha0⟩ := named (dg0 V)
  obtain ⟨a1, ha1⟩ := named (dg1 V)
  obtain ⟨a2, ha2⟩ := named (dg2 V)
  obtain ⟨a3, ha3⟩ := named (dg3 V)
  have hs := dg_sum V
  rw [ha0, ha1, ha2, ha3] at hs
  rw [ha0] at b0; rw [ha1] at b1; rw [ha2] at b2; rw [ha3] at b3
  obtain ⟨e0, e1, e2, e3⟩ := dg_of (V := -1 - V) (x0 := 4294967295 - a0) (x1 := 4294967295 - a1) (x2 := 4294967295 - a2) (x3 := 4294967295 - a3) (by omega) (by omega) (by omega) (by omega) (by omega)
  have hC : bg (-1 - V) = .agg #[.int .u64 (4294967295 - a0), .int .u64 (4294967295 - a1), .int .u64 (4294967295 - a2), .int .u64 (4294967295 - a3)] := by unfold bg; rw [← e0, ← e1, ← e2, ← e3]
  rw [hC] at C
  obtain ⟨R, hR⟩ := named (bg (-V))
  have hR2 : ∃ r0 r1 r2 r3 : Int, R = .agg #[.int .u64 r0, .int .u64 r1, .int .u64 r2, .int .u64 r3] := ⟨_, _, _, _, hR.symm⟩
  rw [hR] at C ⊢
  obtain ⟨r0, r1, r2, r3, rfl⟩ := hR2
  unfold bg
  rw [ha0, ha1, ha2, ha3]
  have m0 : IntKind.u64.wrap (4294967295 - a0) = 4294967295 - a0 := by rw [IntKind.wrap_u64]; omega
  have m1 : IntKind.u64.wrap (4294967295 - a1) = 4294967295 - a1 := by rw [IntKind.wrap_u64]; omega
  have m2 : IntKind.u64.wrap (4294967295 - a2) = 4294967295 - a2 := by rw [IntKind.wrap_u64]; omega
  have m3 : IntKind.u64.wrap (4294967295 - a3) = 4294967295 - a3 := by rw [IntKind.wrap_u64]; omega
  have HM := Lib.hid (And.intro m0 (And.intro m1 (And.intro m2 m3)))
  clear m0 m1 m2 m3 hC e0 e1 e2 e3 b0 b1 b2 b3 hs hR ha0 ha1 ha2 ha3
  go_enter Try.func36, Try.ntmps36
  go_wp2_with fail
  go_loopw [4] (fun v wr => ∃ k : Nat, k ≤ 4 ∧ v = .int .i64 k ∧ Hid (VN wr (w.heap.size + 1 + 1) (ol (4294967295 - a0) (4294967295 - a1) (4294967295 - a2) (4294967295 - a3) k) ∧ VN wr w.heap.size [.int .u64 a0, .int .u64 a1, .int .u64 a2, .int .u64 a3] ∧ VN wr (w.heap.size + 1) [.int .u64 0, .int .u64 0, .int .u64 0, .int .u64 0] ∧ Below w.heap.size w wr)) (fun v _ => 4 - (intOf v).toNat)
  · refine ⟨0, by omega, rfl, Lib.hid ⟨?_, ?_, ?_, ?_⟩⟩
    · have h := VN.new ((w.alloc (.cells #[.int .u64 a0, .int .u64 a1, .int .u64 a2, .int .u64 a3] 46)).alloc (.cells #[.int .u64 0, .int .u64 0, .int .u64 0, .int .u64 0] 46)) #[.int .u64 0, .int .u64 0, .int .u64 0, .int .u64 0] 46
      rw [size_alloc', size_alloc'] at h; exact h
    · exact ((VN.new w #[.int .u64 a0, .int .u64 a1, .int .u64 a2, .int .u64 a3] 46).alloc _).alloc _
    · have h := (VN.new (w.alloc (.cells #[.int .u64 a0, .int .u64 a1, .int .u64 a2, .int .u64 a3] 46)) #[.int .u64 0, .int .u64 0, .int .u64 0, .int .u64 0] 46).alloc (.cells #[.int .u64 0, .int .u64 0, .int .u64 0, .int .u64 0] 46)
      rw [size_alloc'] at h; exact h
    · exact (((Below.refl _ _).alloc (Nat.le_refl _) _).alloc (by simp) _).alloc (by simp; omega) _
  · obtain ⟨k, hk, rfl, hX⟩ := hrel
    have cases : k = 0 ∨ k = 1 ∨ k = 2 ∨ k = 3 ∨ k = 4 := by omega
    clear hk
    have HA := Lib.hid hX.out.2.1
    have HC := Lib.hid hX.out.2.2.1
    have HD := Lib.hid hX.out.2.2.2
    rcases cases with rfl | rfl | rfl | rfl | rfl
    · have m := HM.out.1
      have f1 := HA.out.c 0 _ rfl
      have g1 := hX.out.1.c 0 _ rfl
      have z1 := hX.out.1.z 0
      have HO := Lib.hid hX.out.1
      clear hX
      go_wp2_with fail
      go_roundw
      case rel => exact ⟨1, by omega, rfl, Lib.hid ⟨(HO.out.set 0 (by simp [ol]) _), HA.out.other (p := ⟨w.heap.size + 1 + 1, 0, none⟩) (by simp; try omega) _, HC.out.other (p := ⟨w.heap.size + 1 + 1, 0, none⟩) (by simp; try omega) _, bel_set HD.out (by omega) _⟩⟩
      case measure => simp [intOf]
    · have m := HM.out.2.1
      have f1 := HA.out.c 1 _ rfl
      have g1 := hX.out.1.c 1 _ rfl
      have z1 := hX.out.1.z 1
      have HO := Lib.hid hX.out.1
      clear hX
      go_wp2_with fail
      go_roundw
      case rel => exact ⟨2, by omega, rfl, Lib.hid ⟨(HO.out.set 1 (by simp [ol]) _), HA.out.other (p := ⟨w.heap.size + 1 + 1, 1, none⟩) (by simp; try omega) _, HC.out.other (p := ⟨w.heap.size + 1 + 1, 1, none⟩) (by simp; try omega) _, bel_set HD.out (by omega) _⟩⟩
      case measure => simp [intOf]
    · have m := HM.out.2.2.1
      have f1 := HA.out.c 2 _ rfl
      have g1 := hX.out.1.c 2 _ rfl
      have z1 := hX.out.1.z 2
      have HO := Lib.hid hX.out.1
      clear hX
      go_wp2_with fail
      go_roundw
      case rel => exact ⟨3, by omega, rfl, Lib.hid ⟨(HO.out.set 2 (by simp [ol]) _), HA.out.other (p := ⟨w.heap.size + 1 + 1, 2, none⟩) (by simp; try omega) _, HC.out.other (p := ⟨w.heap.size + 1 + 1, 2, none⟩) (by simp; try omega) _, bel_set HD.out (by omega) _⟩⟩
      case measure => simp [intOf]
    · have m := HM.out.2.2.2
      have f1 := HA.out.c 3 _ rfl
      have g1 := hX.out.1.c 3 _ rfl
      have z1 := hX.out.1.z 3
      have HO := Lib.hid hX.out.1
      clear hX
      go_wp2_with fail
      go_roundw
      case rel => exact ⟨4, by omega, rfl, Lib.hid ⟨(HO.out.set 3 (by simp [ol]) _), HA.out.other (p := ⟨w.heap.size + 1 + 1, 3, none⟩) (by simp; try omega) _, HC.out.other (p := ⟨w.heap.size + 1 + 1, 3, none⟩) (by simp; try omega) _, bel_set HD.out (by omega) _⟩⟩
      case measure => simp [intOf]
    · have g0 := hX.out.1.c 0 _ rfl
      have g1 := hX.out.1.c 1 _ rfl
      have g2 := hX.out.1.c 2 _ rfl
      have g3 := hX.out.1.c 3 _ rfl
      have hsz := HC.out.lt
      clear hX HA
      go_wp2_with fail
      refine (C.out wr).mono ?_
      rintro e w1 ⟨rfl, hb⟩
      have HC1 := Lib.hid (HC.out.bel hb)
      have HD1 := Lib.hid (HD.out.trans (hb.mono HD.out.size))
      clear hb HC HD g0 g1 g2 g3 hsz
      have z0 := HC1.out.z 0
      have z1 := HC1.out.z 1
      have z2 := HC1.out.z 2
      have z3 := HC1.out.z 3
      have y0 := HC1.out.c 0 _ rfl
      have y1 := HC1.out.c 1 _ rfl
      have y2 := HC1.out.c 2 _ rfl
      have y3 := HC1.out.c 3 _ rfl
      go_wp2_with fail
      exact bodyPost_ret (v := .agg #[.int .u64 r0, .int .u64 r1, .int .u64 r2, .int .u64 r3]) (by simp [results, Try.results36, go_sem, y0, y1, y2, y3]) rfl ⟨rfl, bel_set (bel_set (bel_set (bel_set HD1.out (by omega) _) (by omega) _) (by omega) _) (by omega) _⟩

theorem run_eq_big (W : World) (x0 x1 x2 x3 y0 y1 y2 y3 : Int) :
    (Op.equalIn 10000 46 (.agg #[.int .u64 x0, .int .u64 x1, .int .u64 x2, .int .u64 x3]) (.agg #[.int .u64 y0, .int .u64 y1, .int .u64 y2, .int .u64 y3])).run Try.prog W = .ok (x0 == y0 && (x1 == y1 && (x2 == y2 && x3 == y3))) W := by
  have hi : (Try.prog.info? 44).map (fun i => (i.zero, i.size, i.bytes)) = some (some (.int .u64 0), 1, 8) := by kernel_rfl
  obtain ⟨i, hi, hz, hs, hb⟩ := info_parts hi
  have hc : Try.prog.cellsOf 44 = 1 := by kernel_rfl
  have e1 : ∀ (a b : Int), (Op.equalIn 9999 44 (.int .u64 a) (.int .u64 b)).run Try.prog W = .ok (a == b) W := fun a b => run_equalIn_int W 9998 44 .u64 .u64 a b Try.underlying44
  rw [show (10000 : Nat) = 9999 + 1 from rfl, run_equalIn_array W 9999 _ _ Try.underlying46 hi, hc]
  have p1 : ∀ (xs : Array Value) (k : Nat) (v : Value), xs[k]? = some v → (part 44 xs (k * 1)).run Try.prog W = .ok v W := by
    intro xs k v h
    simp [part, Try.isAgg44, h, Result.andThen]
  have qx0 := p1 #[.int .u64 x0, .int .u64 x1, .int .u64 x2, .int .u64 x3] 0 (.int .u64 x0) rfl
  have qx1 := p1 #[.int .u64 x0, .int .u64 x1, .int .u64 x2, .int .u64 x3] 1 (.int .u64 x1) rfl
  have qx2 := p1 #[.int .u64 x0, .int .u64 x1, .int .u64 x2, .int .u64 x3] 2 (.int .u64 x2) rfl
  have qx3 := p1 #[.int .u64 x0, .int .u64 x1, .int .u64 x2, .int .u64 x3] 3 (.int .u64 x3) rfl
  have qy0 := p1 #[.int .u64 y0, .int .u64 y1, .int .u64 y2, .int .u64 y3] 0 (.int .u64 y0) rfl
  have qy1 := p1 #[.int .u64 y0, .int .u64 y1, .int .u64 y2, .int .u64 y3] 1 (.int .u64 y1) rfl
  have qy2 := p1 #[.int .u64 y0, .int .u64 y1, .int .u64 y2, .int .u64 y3] 2 (.int .u64 y2) rfl
  have qy3 := p1 #[.int .u64 y0, .int .u64 y1, .int .u64 y2, .int .u64 y3] 3 (.int .u64 y3) rfl
  simp only [show List.range 4 = [0, 1, 2, 3] from rfl, Op.eqItems, Sem.run_bind, qx0, qy0, e1, Result.andThen_ok]
  cases x0 == y0
  · rfl
  simp only [Bool.not_true, Bool.false_eq_true, if_false, Sem.run_bind, qx1, qy1, e1, Result.andThen_ok]
  cases x1 == y1
  · rfl
  simp only [Bool.not_true, Bool.false_eq_true, if_false, Sem.run_bind, qx2, qy2, e1, Result.andThen_ok]
  cases x2 == y2
  · rfl
  simp only [Bool.not_true, Bool.false_eq_true, if_false, Sem.run_bind, qx3, qy3, e1, Result.andThen_ok]
  cases x3 == y3 <;> rfl
theorem keep4 {w W W' : World} {p0 p1 p2 p3 : Addr} {x0 x1 x2 x3 : Value} (hb : Below W.heap.size W W') (h : Below w.heap.size w W ∧ W.cell? p0 = some x0 ∧ W.cell? p1 = some x1 ∧ W.cell? p2 = some x2 ∧ W.cell? p3 = some x3) :
    Below w.heap.size w W' ∧ W'.cell? p0 = some x0 ∧ W'.cell? p1 = some x1 ∧ W'.cell? p2 = some x2 ∧ W'.cell? p3 = some x3 := by
  obtain ⟨h1, a0, a1, a2, a3⟩ := h
  have key : ∀ {p : Addr} {x : Value}, W.cell? p = some x → W'.cell? p = some x := fun h => (hb.cell (World.block_lt_of_cell? _ _ h)).trans h
  exact ⟨h1.trans (hb.mono h1.size), key a0, key a1, key a2, key a3⟩
set_option maxHeartbeats 1000000 in
theorem Small_any (V : Int) (w : World) (h1 : -170141183460469231731687303715884105728 ≤ V) (h2 : V ≤ 170141183460469231731687303715884105727) :
    Calls Try.prog 34 #[bg V] w fun e w' => e = .returned (.tuple #[.int .i64 (na V), .bool (isn V)]) ∧ Below w.heap.size w w' := by
  obtain ⟨x, hx⟩ := named (IntKind.i64.wrap (V % 18446744073709551616))
  have hxb : -9223372036854775808 ≤ x ∧ x ≤ 9223372036854775807 := by rw [← hx, IntKind.wrap_i64]; omega
  have C := Lib.hid (fun W => Of_any x W hxb.1 hxb.2)
  have hs : IntKind.i64.wrap (IntKind.u64.wrap (dg0 V + IntKind.u64.wrap (dg1 V * 4294967296))) = x := by
    rw [← hx]; congr 1; rw [IntKind.wrap_u64, IntKind.wrap_u64]; unfold dg0 dg1; omega
  cases hv : isn V with
  | true =>
    have hb := (isn_iff V).1 hv
    have : x = V := by rw [← hx, IntKind.wrap_i64]; omega
    subst this
    rw [na_t hv]
    unfold bg at C ⊢
    generalize dg0 x = a0 at *
    generalize dg1 x = a1 at *
    generalize dg2 x = a2 at *
    generalize dg3 x = a3 at *
    have E := fun W => run_eq_big W a0 a1 a2 a3 a0 a1 a2 a3
    simp only [beq_self_eq_true, Bool.true_and] at E
    have V0 := Lib.hid (VN.new w #[.int .u64 a0, .int .u64 a1, .int .u64 a2, .int .u64 a3] 46)
    clear hx hxb hv hb h1 h2
    go_enter Try.func34, Try.ntmps34
    go_upto_region 2 with fail
    go_cut [15] from 12 (fun v wz => v = .bool false ∧ Hid (Below w.heap.size w wz))
    case first =>
      go_region_held3 (fun w' => Below w.heap.size w w' ∧ w'.cell? ⟨w.heap.size, 0, none⟩ = some (.int .u64 a0) ∧ w'.cell? ⟨w.heap.size, 1, none⟩ = some (.int .u64 a1) ∧ w'.cell? ⟨w.heap.size, 2, none⟩ = some (.int .u64 a2) ∧ w'.cell? ⟨w.heap.size, 3, none⟩ = some (.int .u64 a3))
        (first | exact ⟨((Below.refl _ _).alloc (Nat.le_refl _) _).drew, V0.out.c 0 _ rfl, V0.out.c 1 _ rfl, V0.out.c 2 _ rfl, V0.out.c 3 _ rfl⟩ | exact keep4 hb ‹_› | go_keep)
        (first | (go_at_call 25; with_reducible refine (C.out _).mono ?_; rintro e w2 ⟨rfl, hb⟩))
      all_goals
        have HB := Lib.hid (And.left ‹Below w.heap.size w _ ∧ _›)
        go_wp2_with fail
        go_meet
        case rel => exact ⟨rfl, HB⟩
    case rest =>
      obtain ⟨rfl, HB⟩ := hcut
      go_wp2_with fail
      go_ret2
      exact ⟨rfl, HB.out⟩
  | false =>
    have hb := isn_not hv
    have hne : ¬ (dg0 x = dg0 V ∧ dg1 x = dg1 V ∧ dg2 x = dg2 V ∧ dg3 x = dg3 V) := by
      rintro ⟨g0, g1, g2, g3⟩
      have s1 := dg_sum x
      have s2 := dg_sum V
      rw [g0, g1, g2, g3, s2] at s1
      omega
    rw [na_f hv]
    have E := fun W => run_eq_big W (dg0 x) (dg1 x) (dg2 x) (dg3 x) (dg0 V) (dg1 V) (dg2 V) (dg3 V)
    have hE : (dg0 x == dg0 V && (dg1 x == dg1 V && (dg2 x == dg2 V && dg3 x == dg3 V))) = false := by
      rw [Bool.eq_false_iff]; intro h; simp only [Bool.and_eq_true, beq_iff_eq] at h; exact hne h
    rw [hE] at E
    unfold bg at C ⊢
    generalize dg0 x = c0 at *
    generalize dg1 x = c1 at *
    generalize dg2 x = c2 at *
    generalize dg3 x = c3 at *
    generalize dg0 V = a0 at *
    generalize dg1 V = a1 at *
    generalize dg2 V = a2 at *
    generalize dg3 V = a3 at *
    have V0 := Lib.hid (VN.new w #[.int .u64 a0, .int .u64 a1, .int .u64 a2, .int .u64 a3] 46)
    clear hx hxb hv hb h1 h2 hne hE
    go_enter Try.func34, Try.ntmps34
    go_upto_region 2 with fail
    go_cut [15] from 12 (fun v wz => v = .bool true ∧ Hid (Below w.heap.size w wz))
    case first =>
      go_region_held3 (fun w' => Below w.heap.size w w' ∧ w'.cell? ⟨w.heap.size, 0, none⟩ = some (.int .u64 a0) ∧ w'.cell? ⟨w.heap.size, 1, none⟩ = some (.int .u64 a1) ∧ w'.cell? ⟨w.heap.size, 2, none⟩ = some (.int .u64 a2) ∧ w'.cell? ⟨w.heap.size, 3, none⟩ = some (.int .u64 a3))
        (first | exact ⟨((Below.refl _ _).alloc (Nat.le_refl _) _).drew, V0.out.c 0 _ rfl, V0.out.c 1 _ rfl, V0.out.c 2 _ rfl, V0.out.c 3 _ rfl⟩ | exact keep4 hb ‹_› | go_keep)
        (first | (go_at_call 25; with_reducible refine (C.out _).mono ?_; rintro e w2 ⟨rfl, hb⟩))
      all_goals
        have HB := Lib.hid (And.left ‹Below w.heap.size w _ ∧ _›)
        go_wp2_with fail
        go_meet
        case rel => exact ⟨rfl, HB⟩
    case rest =>
      obtain ⟨rfl, HB⟩ := hcut
      go_wp2_with fail
      go_ret2
      exact ⟨rfl, HB.out⟩
end Go.Proofs.Ytbiofjddclbncaa.Mo
