import Derived.Test.YtbiofjddclbncaaSm3
namespace Go.Proofs.Ytbiofjddclbncaa.Sr
set_option linter.unusedVariables false
set_option linter.unusedSimpArgs false
open Go.RowKit Mem Mo
theorem u64i {n : Nat} (h : n < 4611686018427387904) : IntKind.u64.wrap (n : Int) = n := by rw [IntKind.wrap_u64]; omega
theorem half {n : Nat} : (n : Int) / 2 = ((n / 2 : Nat) : Int) := by omega

set_option maxRecDepth 100000 in
set_option maxHeartbeats 2000000 in
theorem sym1 (g n c a m b bx rb ro c2 : Nat) (r : Nat → Int) (S : Nat → Nat) (W : World) (hR : RowAt W g n S) (hC : Cs W g n bx rb ro c2 r) (hm : m = a + 1) (hmb : m < b) (hb : b ≤ n) (hn : n ≤ c) (hn1 : n ≤ 1000)
    (hs : So r S m b) (hl : Lw S a m b) (hv : ∀ k, k < n → S k < n) :
    Calls Try.prog 46 #[.slice (some ⟨g, 0, none⟩) n c, .int .i64 a, .int .i64 m, .int .i64 b, .func (.func 32) #[] #[.pointer (some ⟨bx, 0, none⟩)]] W fun e w' => e = .returned (.tuple #[]) ∧ ∃ T, RowAt w' g n T ∧ Pm a b S T ∧ So r T a b ∧ Ex g W w' := by
  have HR := Lib.hid hR
  have HC := Lib.hid hC
  have HS := Lib.hid hs
  have HLw := Lib.hid hl
  have HV := Lib.hid hv
  have HB := Lib.hid (show m = a + 1 ∧ m < b ∧ b ≤ n ∧ n ≤ 1000 from ⟨hm, hmb, hb, hn1⟩)
  have hfn : ∀ (W : World) (args : Array Value), (callFunc 32 args).run Try.prog W = .ok (.enter 32 args) W := fun _ _ => by kernel_rfl
  have K1 := Lib.hid (show wrap64 ((m : Int) - (a : Int)) = 1 from (wr64 (n := 1) (by omega) (by omega)))
  clear hR hC hs hl hv hm hmb hb hn1
  go_enter Try.func46, Try.ntmps46
  have k1 := K1.out
  go_wp2_with fail
  clear k1
  go_loopw [10, 11, 12] (fun v u _ wr => ∃ i j : Nat, v = .int .i64 i ∧ u = .int .i64 j ∧ (m ≤ i ∧ i ≤ j ∧ j ≤ b) ∧ Hid (RowAt wr g n S) ∧ Hid ((∀ k, m ≤ k → k < i → bef r (S k) (S a)) ∧ (∀ k, j ≤ k → k < b → bef r (S a) (S k))) ∧ Hid (Ex g W wr)) (fun v u _ _ => (intOf u).toNat - (intOf v).toNat)
  · have h := HB.out
    exact ⟨m, b, rfl, rfl, by omega, HR, Lib.hid ⟨fun k k1 k2 => by omega, fun k k1 k2 => by omega⟩, Lib.hid (Ex.refl _ _)⟩
  · obtain ⟨i, j, rfl, rfl, hij, HX, HI, HE⟩ := hrel
    have hB := HB.out
    by_cases hlt : i < j
    · have z1 := lt_t hlt
      obtain ⟨h, hh⟩ := named ((i + j) / 2)
      obtain ⟨s, hs⟩ := named (i + j)
      have K2 := Lib.hid (show wrap64 ((i : Int) + (j : Int)) = (s : Int) from wr64 (by omega) (by omega))
      have K3 := Lib.hid (show IntKind.u64.wrap (s : Int) = (s : Int) from u64i (by omega))
      have K4 := Lib.hid (show (s : Int) / 2 = (h : Int) by omega)
      have K5 := Lib.hid (show wrap64 (h : Int) = (h : Int) from wr64 rfl (by omega))
      have K6 := Lib.hid (show wrap64 ((h : Int) + 1) = ((h + 1 : Nat) : Int) from wr64 (by omega) (by omega))
      have c1 := HX.out.c h (by omega)
      have c2 := HX.out.c a (by omega)
      have lt := HLw.out a h (Nat.le_refl _) (by omega) (by omega) (by omega)
      have D := Lib.hid (fun m => HC.out.less HE.out (x := S h) (y := S a) (HV.out h (by omega)) (HV.out a (by omega)) m)
      have i1 : (h : Int) < (n : Int) := by omega
      have i2 : (a : Int) < (n : Int) := by omega
      have HH := Lib.hid (show i ≤ h ∧ h < j ∧ m ≤ i ∧ j ≤ b by omega)
      have hd : r (S a) < r (S h) ∨ ¬ r (S a) < r (S h) := Decidable.em _
      rcases hd with hc | hc
      · have hneg := (cv_neg (r (S a)) (r (S h))).2 hc
        have HI2 := Lib.hid (show (∀ k, m ≤ k → k < h + 1 → bef r (S k) (S a)) ∧ (∀ k, j ≤ k → k < b → bef r (S a) (S k)) from ⟨fun k k1 k2 => by
          by_cases e : k = h
          · rw [e]; exact (bef_of_lt lt).2 hc
          · exact bef_trans (HS.out k h k1 (by omega) (by omega)) ((bef_of_lt lt).2 hc), HI.out.2⟩)
        obtain ⟨v, hv⟩ := named (cv (r (S a)) (r (S h)))
        rw [hv] at D hneg
        have z5 : (v < 0) = True := eq_true hneg
        generalize S h = th at *
        generalize S a = ta at *
        clear hij hB hlt hh hs lt hc hneg hv
        have k2 := K2.out
        have k3 := K3.out
        have k4 := K4.out
        have k5 := K5.out
        go_wp2_with fail
        go_quiet (first | (go_at_call 32; refine Calls.quiet_of (D.out _)))
        rename_i nq
        go_wp2_with fail
        clear k2 k3 k4 k5
        go_roundw
        case rel => exact ⟨h + 1, j, by first | rfl | rw [K6.out], rfl, by have := HH.out; omega, Lib.hid (HX.out.drewN nq), HI2, Lib.hid (HE.out.drewN nq)⟩
        case measure => first | rw [K6.out] | skip
                        have h1 := HH.out; clear K2 K3 K4 K5 K6; simp only [intOf]; omega
      · have hneg : ¬ cv (r (S a)) (r (S h)) < 0 := fun e => hc ((cv_neg _ _).1 e)
        have HI2 := Lib.hid (show (∀ k, m ≤ k → k < i → bef r (S k) (S a)) ∧ (∀ k, h ≤ k → k < b → bef r (S a) (S k)) from ⟨HI.out.1, fun k k1 k2 => by
          by_cases e : k = h
          · rw [e]; exact bef_not lt hc
          · exact bef_trans (bef_not lt hc) (HS.out h k (by omega) (by omega) k2)⟩)
        obtain ⟨v, hv⟩ := named (cv (r (S a)) (r (S h)))
        rw [hv] at D hneg
        have z5 : (v < 0) = False := eq_false hneg
        generalize S h = th at *
        generalize S a = ta at *
        clear hij hB hlt hh hs lt hc hneg hv
        have k2 := K2.out
        have k3 := K3.out
        have k4 := K4.out
        have k5 := K5.out
        go_wp2_with fail
        go_quiet (first | (go_at_call 32; refine Calls.quiet_of (D.out _)))
        rename_i nq
        go_wp2_with fail
        clear k2 k3 k4 k5
        go_roundw
        case rel => exact ⟨i, h, rfl, by first | rfl | rw [K5.out], by have := HH.out; omega, Lib.hid (HX.out.drewN nq), HI2, Lib.hid (HE.out.drewN nq)⟩
        case measure => first | rw [K5.out] | skip
                        have h1 := HH.out; clear K2 K3 K4 K5 K6; simp only [intOf]; omega
    · obtain rfl : i = j := by omega
      have z1 := lt_f (Nat.le_refl i)
      obtain ⟨x, hx⟩ : ∃ x, x + 1 = i := ⟨i - 1, by omega⟩
      have K2 := Lib.hid (show wrap64 ((i : Int) - 1) = (x : Int) from wr64 (by omega) (by omega))
      have HXX := Lib.hid (show a ≤ x ∧ x < b ∧ b ≤ n ∧ n ≤ 1000 ∧ x + 1 = i ∧ m = a + 1 by omega)
      clear hij hB hlt hx
      go_wp2_with fail
      go_loopw [13] (fun v wz => ∃ k : Nat, v = .int .i64 k ∧ (a ≤ k ∧ k ≤ x) ∧ Hid (RowAt wz g n (upw S a k)) ∧ Hid (Ex g W wz)) (fun v _ => x - (intOf v).toNat)
      · have h1 := HXX.out
        exact ⟨a, rfl, by omega, Lib.hid (by rw [upw_self]; exact HX.out), HE⟩
      · obtain ⟨k, rfl, hk, HY, HE2⟩ := hrel
        have h1 := HXX.out
        have k2 := K2.out
        by_cases hkx : k < x
        · have z2 := lt_t hkx
          obtain ⟨y, hy⟩ := named (k + 1)
          have c1 := HY.out.c k (by omega)
          have c2 := HY.out.c y (by omega)
          have z3 := HY.out.z k
          have z4 := HY.out.z y
          have HSw := Lib.hid (HY.out.swap (i := k) (j := y) (by omega) (by omega) (by omega))
          rw [← hy, upw_step S hk.1, hy] at HSw
          have K7 := Lib.hid (show IntKind.i64.wrap ((k : Int) + 1) = (y : Int) from by rw [IntKind.wrap_i64]; omega)
          have K8 := Lib.hid (show wrap64 ((k : Int) + 1) = (y : Int) from wr64 (by omega) (by omega))
          have i1 : (k : Int) < (n : Int) := by omega
          have i2 : (y : Int) < (n : Int) := by omega
          have hne : k ≠ y := by omega
          have hne2 : y ≠ k := by omega
          have HH := Lib.hid (show a ≤ y ∧ y ≤ x ∧ k < y by omega)
          generalize upw S a k k = vk at *
          generalize upw S a k y = vy at *
          clear hk hkx h1 k2 hy
          have k2 := K2.out
          have k7 := K7.out
          go_wp2_with fail
          go_region
          all_goals
            go_wp2_with fail
            clear k2 k7
            go_roundw
            case rel => exact ⟨y, by first | rfl | rw [K8.out], by have := HH.out; omega, Lib.hid HSw.out.drew, Lib.hid ((HE2.out.drew.set _ _).set _ _)⟩
            case measure => first | rw [K8.out] | skip
                            have h1 := HH.out; clear K2 K7 K8; simp only [intOf]; omega
        · obtain rfl : k = x := by clear k2; omega
          have z2 := lt_f (Nat.le_refl k)
          have hhi := HI.out
          have HP := Lib.hid (And.intro ((upw_pm S (a := a) (j := k) (by clear k2; omega)).wide (Nat.le_refl a) (show k + 1 ≤ b by clear k2; omega)) (upw_so (a := a) (b := b) (S := S) (r := r) (j := k) (by have := HS.out; rwa [h1.2.2.2.2.2] at this) (by clear k2; omega) (by clear k2; omega) (fun q q1 q2 => hhi.1 q (by clear k2; omega) (by clear k2; omega)) (fun q q1 q2 => hhi.2 q (by clear k2; omega) q2)))
          clear hk hkx h1 hhi
          go_wp2_with fail
          first | (simp only [Exit.inBlock, Exit.then]; refine bodyPost_ret (results_none rfl _ _ _) rfl ?_) | refine bodyPost_ret (results_none rfl _ _ _) rfl ?_
          exact ⟨rfl, _, HY.out, HP.out.1, HP.out.2, HE2.out⟩
end Go.Proofs.Ytbiofjddclbncaa.Sr
