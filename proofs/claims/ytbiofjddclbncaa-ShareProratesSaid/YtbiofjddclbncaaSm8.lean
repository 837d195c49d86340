import Derived.Test.YtbiofjddclbncaaSm7
namespace Go.Proofs.Ytbiofjddclbncaa.Sr
set_option linter.unusedVariables false
set_option linter.unusedSimpArgs false
open Go.RowKit Mem Mo
theorem le_t {i j : Nat} (h : i ≤ j) : ((i : Int) ≤ (j : Int)) = True := eq_true (by omega)
theorem le_f {i j : Nat} (h : j < i) : ((i : Int) ≤ (j : Int)) = False := eq_false (by omega)

set_option maxRecDepth 100000 in
set_option maxHeartbeats 2000000 in
theorem stable_any (g n c bx rb ro c2 : Nat) (r : Nat → Int) (W : World) (hR : RowAt W g n (fun k => k)) (hC : Cs W g n bx rb ro c2 r) (hn : n ≤ c) (hn1 : n ≤ 100) :
    Calls Try.prog 42 #[.slice (some ⟨g, 0, none⟩) n c, .int .i64 n, .func (.func 32) #[] #[.pointer (some ⟨bx, 0, none⟩)]] W fun e w' => e = .returned (.tuple #[]) ∧ ∃ T, RowAt w' g n T ∧ (List.range n).map T = srt r n ∧ (∀ k, k < n → T k < n) ∧ Ex g W w' := by
  have HR := Lib.hid hR
  have HC := Lib.hid hC
  have HI := Lib.hid (fun a b T V hV hc h1 h2 h3 h4 => insertion_any g n c a b bx rb ro c2 r T V hV hc h1 h2 hn (by omega) h3 h4)
  have HM := Lib.hid (fun a m b T V hV hc h1 h2 h3 h4 h5 h6 h7 => symMerge_any g n c bx rb ro c2 r hn (by omega) (b - a + 1) a m b T V (by omega) hV hc h1 h2 h3 h4 h5 h6 h7)
  have HN := Lib.hid hn1
  clear hR hC hn1
  go_enter Try.func42, Try.ntmps42
  go_wp2_with fail
  go_loopw [7, 8] (fun v u wr => ∃ (a b : Nat) (T : Nat → Nat), v = .int .i64 a ∧ u = .int .i64 b ∧ Hid (b = a + 20 ∧ a % 20 = 0 ∧ a ≤ n) ∧ Hid (RowAt wr g n T) ∧ Hid (Mid r n 1 20 a T) ∧ Hid (Ex g W wr)) (fun v _ _ => n - (intOf v).toNat)
  · exact ⟨0, 20, _, rfl, rfl, Lib.hid ⟨rfl, rfl, Nat.zero_le _⟩, HR, Lib.hid (Mid.begin r n), Lib.hid (Ex.refl _ _)⟩
  · obtain ⟨a, b, T, rfl, rfl, HA, HX, HD, HE⟩ := hrel
    by_cases hbn : b ≤ n
    · have z1 := le_t hbn
      have hA := HA.out
      have hN := HN.out
      have D := Lib.hid (HI.out a b T wr HX.out (HC.out.ex HE.out) (by omega) hbn (HD.out.asc hbn) (fun k hk => (HD.out.v k hk).1))
      obtain ⟨b2, hb2⟩ := named (b + 20)
      have K1 := Lib.hid (show wrap64 ((b : Int) + 20) = (b2 : Int) from wr64 (by omega) (by omega))
      have HH := Lib.hid (show b2 = b + 20 ∧ b % 20 = 0 ∧ b ≤ n ∧ a < b by omega)
      clear hbn hA hN hb2
      go_wp2_with fail
      refine D.out.mono ?_
      rintro e w1 ⟨rfl, U, hX1, hP1, hO1, hE1⟩
      have HX1 := Lib.hid hX1
      have HD1 := Lib.hid (HD.out.step (.inl ⟨rfl, rfl⟩) HA.out.2.1 (by have := HH.out; omega) HH.out.2.2.1 (by have := HA.out; omega) hP1 hO1)
      have HE1 := Lib.hid (HE.out.trans hE1)
      clear hX1 hP1 hO1 hE1
      go_wp2_with fail
      go_roundw
      case rel => exact ⟨b, b2, U, rfl, by first | rfl | rw [K1.out], Lib.hid (by have := HH.out; omega), HX1, HD1, HE1⟩
      case measure => have h1 := HH.out; clear K1; simp only [intOf]; omega
    · have z1 := le_f (Nat.not_le.1 hbn)
      have hA := HA.out
      have hN := HN.out
      have D := Lib.hid (HI.out a n T wr HX.out (HC.out.ex HE.out) hA.2.2 (Nat.le_refl _) (HD.out.asc (Nat.le_refl _)) (fun k hk => (HD.out.v k hk).1))
      have HH := Lib.hid (show n ≤ a + 20 by omega)
      clear hbn hA hN
      go_wp2_with fail
      refine D.out.mono ?_
      rintro e w1 ⟨rfl, U, hX1, hP1, hO1, hE1⟩
      have HX1 := Lib.hid hX1
      have HD1 := Lib.hid (HD.out.step (.inl ⟨rfl, rfl⟩) HA.out.2.1 HA.out.2.2 (Nat.le_refl _) HH.out hP1 hO1)
      have HE1 := Lib.hid (HE.out.trans hE1)
      clear hX1 hP1 hO1 hE1 z1
      go_wp2_with fail
      go_loopw [6, 7, 8, 9] (fun v _ _ _ wz => ∃ (q q' : Nat) (T : Nat → Nat), v = .int .i64 q ∧ Hid (q = 20 ∨ q = 40 ∨ q = 80 ∨ q = 160) ∧ Hid (RowAt wz g n T) ∧ Hid (Mid r n q' q n T) ∧ Hid (Ex g W wz)) (fun v _ _ _ _ => 200 - (intOf v).toNat)
      · exact ⟨20, 1, U, rfl, Lib.hid (.inl rfl), HX1, HD1, HE1⟩
      · clear HA HX HD HE HX1 HD1 HE1 HH D
        obtain ⟨q, q', T, rfl, HQ, HX, HD, HE⟩ := hrel
        by_cases hqn : q < n
        · have z2 := lt_t hqn
          have hN := HN.out
          have hq := HQ.out
          obtain ⟨p, hp⟩ := named (2 * q)
          have hqp : QP q p := by
            rcases hq with h | h | h | h
            · exact .inr (.inl ⟨h, by omega⟩)
            · exact .inr (.inr (.inl ⟨h, by omega⟩))
            · exact .inr (.inr (.inr ⟨h, by omega⟩))
            · omega
          have HQP := Lib.hid hqp
          have HH := Lib.hid (show p = 2 * q ∧ q ≠ 1 ∧ 1 ≤ q ∧ q ≤ 80 by omega)
          have K1 := Lib.hid (show wrap64 (2 * (q : Int)) = (p : Int) from wr64 (by omega) (by omega))
          have K2 := Lib.hid (show wrap64 ((q : Int) * 2) = (p : Int) from wr64 (by omega) (by omega))
          have HD0 := Lib.hid (HD.out.next hqp)
          clear hqn hN hq hp hqp
          have k1 := K1.out
          go_wp2_with fail
          clear k1
          go_loopw [7, 8] (fun v u wy => ∃ (a b : Nat) (T : Nat → Nat), v = .int .i64 a ∧ u = .int .i64 b ∧ Hid (b = a + p ∧ a % p = 0 ∧ a ≤ n) ∧ Hid (RowAt wy g n T) ∧ Hid (Mid r n q p a T) ∧ Hid (Ex g W wy)) (fun v _ _ => n - (intOf v).toNat)
          · exact ⟨0, p, T, rfl, by first | rfl | rw [K1.out], Lib.hid ⟨by omega, Nat.zero_mod _, Nat.zero_le _⟩, HX, HD0, HE⟩
          · clear HX HD HE HD0
            obtain ⟨a, b, T, rfl, rfl, HA, HX, HD, HE⟩ := hrel
            have hA := HA.out
            have hN := HN.out
            have hH := HH.out
            obtain ⟨m, hm⟩ := named (a + q)
            have K3 := Lib.hid (show wrap64 ((a : Int) + (q : Int)) = (m : Int) from wr64 (by omega) (by omega))
            by_cases hbn : b ≤ n
            · have z3 := le_t hbn
              have hal := HD.out.halves (b := b) HQP.out hH.2.1 hA.2.1 hbn (by omega)
              rw [show min (a + q) b = a + q by omega, hm] at hal
              have D := Lib.hid (HM.out a m b T _ HX.out (HC.out.ex HE.out) (by omega) (by omega) hbn hal.1 hal.2.1 hal.2.2 (fun k hk => (HD.out.v k hk).1))
              obtain ⟨b2, hb2⟩ := named (b + p)
              have K4 := Lib.hid (show wrap64 ((b : Int) + (p : Int)) = (b2 : Int) from wr64 (by omega) (by omega))
              have HH2 := Lib.hid (show b2 = b + p ∧ b % p = 0 ∧ b ≤ n ∧ a < b from ⟨hb2.symm, by rw [hA.1, Nat.add_mod_right]; exact hA.2.1, hbn, by omega⟩)
              clear hbn hA hN hH hm hb2 hal
              have k3 := K3.out
              go_wp2_with fail
              refine D.out.mono ?_
              rintro e w1 ⟨rfl, U, hX1, hP1, hO1, hE1⟩
              have HX1 := Lib.hid hX1
              have HD1 := Lib.hid (HD.out.step HQP.out HA.out.2.1 (Nat.le_of_lt HH2.out.2.2.2) HH2.out.2.2.1 (Nat.le_of_eq HA.out.1) hP1 hO1)
              have HE1 := Lib.hid (HE.out.trans hE1)
              clear hX1 hP1 hO1 hE1
              go_wp2_with fail
              clear k3
              go_roundw
              case rel => exact ⟨b, b2, U, rfl, by first | rfl | rw [K4.out] | rw [K1.out, K4.out], Lib.hid (by have := HH2.out; exact ⟨this.1, this.2.1, this.2.2.1⟩), HX1, HD1, HE1⟩
              case measure => have h1 := HH2.out; clear K1 K2 K3 K4; simp only [intOf]; omega
            · have z3 := le_f (Nat.not_le.1 hbn)
              by_cases hmn : m < n
              · have z4 := lt_t hmn
                have hal := HD.out.halves (b := n) HQP.out hH.2.1 hA.2.1 (Nat.le_refl _) (by omega)
                rw [show min (a + q) n = a + q by omega, hm] at hal
                have D := Lib.hid (HM.out a m n T _ HX.out (HC.out.ex HE.out) (by omega) hmn (Nat.le_refl _) hal.1 hal.2.1 hal.2.2 (fun k hk => (HD.out.v k hk).1))
                have HH2 := Lib.hid (show n ≤ a + p by omega)
                have HH3 := Lib.hid (show p = 40 ∨ p = 80 ∨ p = 160 by have := HQ.out; omega)
                clear hbn hA hN hH hm hmn hal
                have k2 := K2.out
                have k3 := K3.out
                go_wp2_with fail
                refine D.out.mono ?_
                rintro e w1 ⟨rfl, U, hX1, hP1, hO1, hE1⟩
                have HX1 := Lib.hid hX1
                have HD1 := Lib.hid (HD.out.step HQP.out HA.out.2.1 HA.out.2.2 (Nat.le_refl _) HH2.out hP1 hO1)
                have HE1 := Lib.hid (HE.out.trans hE1)
                clear hX1 hP1 hO1 hE1
                go_wp2_with fail
                clear k2 k3
                go_roundw
                case rel => exact ⟨p, q, U, by first | rfl | rw [K2.out], Lib.hid (.inr HH3.out), HX1, HD1, HE1⟩
                case measure => first | rw [K2.out] | skip
                                have h1 := HH.out; clear K1 K2 K3; simp only [intOf]; omega
              · have z4 := lt_f (Nat.not_lt.1 hmn)
                have HD1 := Lib.hid (HD.out.tail HQP.out hH.2.1 hA.2.1 hA.2.2 (by omega))
                have HH3 := Lib.hid (show p = 40 ∨ p = 80 ∨ p = 160 by have := HQ.out; omega)
                clear hbn hA hN hH hm hmn
                have k2 := K2.out
                have k3 := K3.out
                go_wp2_with fail
                clear k2 k3
                go_roundw
                case rel => exact ⟨p, q, T, by first | rfl | rw [K2.out], Lib.hid (.inr HH3.out), HX, HD1, HE⟩
                case measure => first | rw [K2.out] | skip
                                have h1 := HH.out; clear K1 K2 K3; simp only [intOf]; omega
        · have z2 := lt_f (Nat.not_lt.1 hqn)
          have HS := Lib.hid (HD.out.srt (Nat.not_lt.1 hqn))
          clear hqn
          go_wp2_with fail
          go_end0
          exact ⟨rfl, T, HX.out, HS.out, fun k hk => (HD.out.v k hk).1, HE.out⟩
end Go.Proofs.Ytbiofjddclbncaa.Sr
