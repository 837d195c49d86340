import Derived.Test.YtbiofjddclbncaaSm4
namespace Go.Proofs.Ytbiofjddclbncaa.Sr
set_option linter.unusedVariables false
set_option linter.unusedSimpArgs false
open Go.RowKit Mem Mo

set_option maxRecDepth 100000 in
set_option maxHeartbeats 2000000 in
theorem sym2 (g n c a m b bx rb ro c2 : Nat) (r : Nat → Int) (S : Nat → Nat) (W : World) (hR : RowAt W g n S) (hC : Cs W g n bx rb ro c2 r) (ham : a + 1 < m) (hm : b = m + 1) (hb : b ≤ n) (hn : n ≤ c) (hn1 : n ≤ 1000)
    (hs : So r S a m) (hl : Lw S a m b) (hv : ∀ k, k < n → S k < n) :
    Calls Try.prog 46 #[.slice (some ⟨g, 0, none⟩) n c, .int .i64 a, .int .i64 m, .int .i64 b, .func (.func 32) #[] #[.pointer (some ⟨bx, 0, none⟩)]] W fun e w' => e = .returned (.tuple #[]) ∧ ∃ T, RowAt w' g n T ∧ Pm a b S T ∧ So r T a b ∧ Ex g W w' := by
  have HR := Lib.hid hR
  have HC := Lib.hid hC
  have HS := Lib.hid hs
  have HLw := Lib.hid hl
  have HV := Lib.hid hv
  have HB := Lib.hid (show b = m + 1 ∧ a + 1 < m ∧ b ≤ n ∧ n ≤ 1000 from ⟨hm, ham, hb, hn1⟩)
  have hfn : ∀ (W : World) (args : Array Value), (callFunc 32 args).run Try.prog W = .ok (.enter 32 args) W := fun _ _ => by kernel_rfl
  have K1 := Lib.hid (show wrap64 ((m : Int) - (a : Int)) = ((m - a : Nat) : Int) from (wr64 (by omega) (by omega)))
  have K0 := Lib.hid (show wrap64 ((b : Int) - (m : Int)) = 1 from (wr64 (n := 1) (by omega) (by omega)))
  obtain ⟨d, hd⟩ := named (m - a)
  rw [hd] at K1
  have z0 : ((d : Int) == 1) = false := beq_false_of_ne (by omega)
  clear hR hC hs hl hv hm ham hb hn1 hd
  go_enter Try.func46, Try.ntmps46
  have k1 := K1.out
  have k0 := K0.out
  go_wp2_with fail
  clear k1 k0 K1 K0 z0
  go_loopw [14, 15, 16] (fun v u _ wr => ∃ i j : Nat, v = .int .i64 i ∧ u = .int .i64 j ∧ (a ≤ i ∧ i ≤ j ∧ j ≤ m) ∧ Hid (RowAt wr g n S) ∧ Hid ((∀ k, a ≤ k → k < i → bef r (S k) (S m)) ∧ (∀ k, j ≤ k → k < m → bef r (S m) (S k))) ∧ Hid (Ex g W wr)) (fun v u _ _ => (intOf u).toNat - (intOf v).toNat)
  · have h := HB.out
    exact ⟨a, m, rfl, rfl, by omega, HR, Lib.hid ⟨fun k k1 k2 => by omega, fun k k1 k2 => by omega⟩, Lib.hid (Ex.refl _ _)⟩
  · obtain ⟨i, j, rfl, rfl, hij, HX, HI, HE⟩ := hrel
    have hB := HB.out
    by_cases hlt : i < j
    · have z1 := lt_t hlt
      obtain ⟨h, hh⟩ := named ((i + j) / 2)
      obtain ⟨s, hs⟩ := named (i + j)
      have K2 := Lib.hid (show wrap64 ((i : Int) + (j : Int)) = (s : Int) from wr64 (by omega) (by omega))
      have K3 := Lib.hid (show IntKind.u64.wrap (s : Int) = (s : Int) from u64i (by omega))
      have K4 := Lib.hid (show (s : Int) / 2 = (h : Int) by omega)
      have K5 := Lib.hid (show wrap64 (h : Int) = (h : Int) from wr64 rfl (by omega))
      have K6 := Lib.hid (show wrap64 ((h : Int) + 1) = ((h + 1 : Nat) : Int) from wr64 (by omega) (by omega))
      have c1 := HX.out.c h (by omega)
      have c2 := HX.out.c m (by omega)
      have lt := HLw.out h m (by omega) (by omega) (by omega) (by omega)
      have D := Lib.hid (fun k => HC.out.less HE.out (x := S m) (y := S h) (HV.out m (by omega)) (HV.out h (by omega)) k)
      have i1 : (h : Int) < (n : Int) := by omega
      have i2 : (m : Int) < (n : Int) := by omega
      have HH := Lib.hid (show i ≤ h ∧ h < j ∧ a ≤ i ∧ j ≤ m by omega)
      have hd : r (S h) < r (S m) ∨ ¬ r (S h) < r (S m) := Decidable.em _
      rcases hd with hc | hc
      · have hneg := (cv_neg (r (S h)) (r (S m))).2 hc
        have HI2 := Lib.hid (show (∀ k, a ≤ k → k < i → bef r (S k) (S m)) ∧ (∀ k, h ≤ k → k < m → bef r (S m) (S k)) from ⟨HI.out.1, fun k k1 k2 => by
          by_cases e : k = h
          · rw [e]; exact (bef_of_lt lt).2 hc
          · exact bef_trans ((bef_of_lt lt).2 hc) (HS.out h k (by omega) (by omega) (by omega))⟩)
        obtain ⟨v, hv⟩ := named (cv (r (S h)) (r (S m)))
        rw [hv] at D hneg
        have z5 : (v < 0) = True := eq_true hneg
        generalize S h = th at *
        generalize S m = ta at *
        clear hij hB hlt hh hs lt hc hneg hv
        have k2 := K2.out
        have k3 := K3.out
        have k4 := K4.out
        have k5 := K5.out
        go_wp2_with fail
        go_quiet (first | (go_at_call 32; refine Calls.quiet_of (D.out _)))
        rename_i nq
        go_wp2_with fail
        clear k2 k3 k4 k5
        go_roundw
        case rel => exact ⟨i, h, rfl, by first | rfl | rw [K5.out], by have := HH.out; omega, Lib.hid (HX.out.drewN nq), HI2, Lib.hid (HE.out.drewN nq)⟩
        case measure => first | rw [K5.out] | skip
                        have h1 := HH.out; clear K2 K3 K4 K5 K6; simp only [intOf]; omega
      · have hneg : ¬ cv (r (S h)) (r (S m)) < 0 := fun e => hc ((cv_neg _ _).1 e)
        have HI2 := Lib.hid (show (∀ k, a ≤ k → k < h + 1 → bef r (S k) (S m)) ∧ (∀ k, j ≤ k → k < m → bef r (S m) (S k)) from ⟨fun k k1 k2 => by
          by_cases e : k = h
          · rw [e]; exact bef_not lt hc
          · exact bef_trans (HS.out k h k1 (by omega) (by omega)) (bef_not lt hc), HI.out.2⟩)
        obtain ⟨v, hv⟩ := named (cv (r (S h)) (r (S m)))
        rw [hv] at D hneg
        have z5 : (v < 0) = False := eq_false hneg
        generalize S h = th at *
        generalize S m = ta at *
        clear hij hB hlt hh hs lt hc hneg hv
        have k2 := K2.out
        have k3 := K3.out
        have k4 := K4.out
        have k5 := K5.out
        go_wp2_with fail
        go_quiet (first | (go_at_call 32; refine Calls.quiet_of (D.out _)))
        rename_i nq
        go_wp2_with fail
        clear k2 k3 k4 k5
        go_roundw
        case rel => exact ⟨h + 1, j, by first | rfl | rw [K6.out], rfl, by have := HH.out; omega, Lib.hid (HX.out.drewN nq), HI2, Lib.hid (HE.out.drewN nq)⟩
        case measure => first | rw [K6.out] | skip
                        have h1 := HH.out; clear K2 K3 K4 K5 K6; simp only [intOf]; omega
    · obtain rfl : i = j := by omega
      have z1 := lt_f (Nat.le_refl i)
      have HXX := Lib.hid (show a ≤ i ∧ i ≤ m ∧ b = m + 1 ∧ b ≤ n ∧ n ≤ 1000 by omega)
      clear hij hB hlt
      go_wp2_with fail
      go_loopw [17] (fun v wz => ∃ k : Nat, v = .int .i64 k ∧ (i ≤ k ∧ k ≤ m) ∧ Hid (RowAt wz g n (dwn S m k)) ∧ Hid (Ex g W wz)) (fun v _ => (intOf v).toNat)
      · have h1 := HXX.out
        exact ⟨m, rfl, by omega, Lib.hid (by rw [dwn_self]; exact HX.out), HE⟩
      · obtain ⟨k, rfl, hk, HY, HE2⟩ := hrel
        have h1 := HXX.out
        by_cases hki : i < k
        · have z2 := lt_t hki
          obtain ⟨y, hy⟩ : ∃ y, y + 1 = k := ⟨k - 1, by omega⟩
          have c1 := HY.out.c k (by omega)
          have c2 := HY.out.c y (by omega)
          have z3 := HY.out.z k
          have z4 := HY.out.z y
          have HSw := Lib.hid (HY.out.swap (i := k) (j := y) (by omega) (by omega) (by omega))
          rw [show swp (dwn S m k) k y = dwn S m y from by rw [← hy]; exact dwn_step S (by omega)] at HSw
          have K7 := Lib.hid (show IntKind.i64.wrap ((k : Int) - 1) = (y : Int) from by rw [IntKind.wrap_i64]; omega)
          have K8 := Lib.hid (show wrap64 ((k : Int) - 1) = (y : Int) from wr64 (by omega) (by omega))
          have i1 : (k : Int) < (n : Int) := by omega
          have i2 : (y : Int) < (n : Int) := by omega
          have hne : k ≠ y := by omega
          have hne2 : y ≠ k := by omega
          have HH := Lib.hid (show i ≤ y ∧ y ≤ m ∧ y < k by omega)
          generalize dwn S m k k = vk at *
          generalize dwn S m k y = vy at *
          clear hk hki h1 hy
          have k7 := K7.out
          go_wp2_with fail
          go_region
          all_goals
            go_wp2_with fail
            clear k7
            go_roundw
            case rel => exact ⟨y, by first | rfl | rw [K8.out], by have := HH.out; omega, Lib.hid HSw.out.drew, Lib.hid ((HE2.out.drew.set _ _).set _ _)⟩
            case measure => first | rw [K8.out] | skip
                            have h1 := HH.out; clear K7 K8; simp only [intOf]; omega
        · obtain rfl : k = i := by omega
          have z2 := lt_f (Nat.le_refl k)
          have hhi := HI.out
          have HP := Lib.hid (show Pm a b S (dwn S m k) ∧ So r (dwn S m k) a b from by
            rw [h1.2.2.1]
            exact ⟨(dwn_pm S (i := m) (j := k) (by omega)).wide (by omega) (Nat.le_refl _), dwn_so HS.out (by omega) (by omega) (fun q q1 q2 => hhi.1 q q1 q2) (fun q q1 q2 => hhi.2 q q1 q2)⟩)
          clear hk hki h1 hhi
          go_wp2_with fail
          first | (simp only [Exit.inBlock, Exit.then]; refine bodyPost_ret (results_none rfl _ _ _) rfl ?_) | refine bodyPost_ret (results_none rfl _ _ _) rfl ?_
          exact ⟨rfl, _, HY.out, HP.out.1, HP.out.2, HE2.out⟩
end Go.Proofs.Ytbiofjddclbncaa.Sr
