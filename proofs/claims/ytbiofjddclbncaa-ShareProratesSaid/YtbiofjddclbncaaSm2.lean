import Derived.Test.YtbiofjddclbncaaSm1
namespace Go.Proofs.Ytbiofjddclbncaa.Sr
set_option linter.unusedVariables false
set_option linter.unusedSimpArgs false
open Go.RowKit Mem Mo
theorem wrapEq (x : Int) : IntKind.i64.wrap x = wrap64 x := IntWalk.i64_left x
theorem wr64 {x : Int} {n : Nat} (h : x = n) (h1 : n < 4611686018427387904) : wrap64 x = (n : Int) := by
  rw [h, ← wrapEq]; exact w64 h1
theorem ne_i {i j : Nat} (h : i ≠ j) : ((i : Int) == (j : Int)) = false := beq_false_of_ne (by omega)
theorem lt_t {i j : Nat} (h : i < j) : ((i : Int) < (j : Int)) = True := eq_true (by omega)
theorem lt_f {i j : Nat} (h : j ≤ i) : ((i : Int) < (j : Int)) = False := eq_false (by omega)

set_option maxHeartbeats 1000000 in
theorem rotate_any (f : Value) (g n c a m b : Nat) (S : Nat → Nat) (W : World) (hR : RowAt W g n S) (h1 : a < m) (h2 : m < b) (hb : b ≤ n) (hn : n ≤ c) (hn1 : n ≤ 1000) :
    Calls Try.prog 47 #[.slice (some ⟨g, 0, none⟩) n c, .int .i64 a, .int .i64 m, .int .i64 b, f] W fun e w' => e = .returned (.tuple #[]) ∧ RowAt w' g n (rot S a m b) ∧ Ex g W w' := by
  have C := Lib.hid (fun p q k T V (hV : RowAt V g n T) (hpq : p + k ≤ q) (hq : q + k ≤ n) => swapRange_any f g n c p q k T V hV hpq hq hn hn1)
  have HR := Lib.hid hR
  have K1 := Lib.hid (show wrap64 ((m : Int) - (a : Int)) = ((m - a : Nat) : Int) from wr64 (by omega) (by omega))
  have K2 := Lib.hid (show wrap64 ((b : Int) - (m : Int)) = ((b - m : Nat) : Int) from wr64 (by omega) (by omega))
  have HA := Lib.hid (show (a + (m - a) = m ∧ m + (b - m) = b ∧ 1 ≤ m - a ∧ 1 ≤ b - m) ∧ m < 1000 ∧ b ≤ n ∧ n ≤ 1000 from ⟨⟨by omega, by omega, by omega, by omega⟩, by omega, hb, hn1⟩)
  obtain ⟨i0, hi0⟩ := named (m - a)
  obtain ⟨j0, hj0⟩ := named (b - m)
  rw [hi0] at K1 HA
  rw [hj0] at K2 HA
  clear hR h1 h2 hb hi0 hj0 hn1
  go_enter Try.func47, Try.ntmps47
  have k1 := K1.out
  have k2 := K2.out
  go_wp2_with fail
  go_loopw [10, 11] (fun v u wr => ∃ (i j : Nat) (T : Nat → Nat), v = .int .i64 i ∧ u = .int .i64 j ∧ (1 ≤ i ∧ 1 ≤ j ∧ i ≤ i0 ∧ j ≤ j0) ∧ Hid (RowAt wr g n T) ∧ Hid (rot T (m - i) m (m + j) = rot S a m b) ∧ Hid (Ex g W wr)) (fun v u _ => (intOf v).toNat + (intOf u).toNat)
  · have ha := HA.out
    clear k1 k2
    refine ⟨i0, j0, S, by first | rfl | rw [K1.out], by first | rfl | rw [K2.out], by omega, HR, Lib.hid (by rw [show m - i0 = a by omega, show m + j0 = b by omega]), Lib.hid (Ex.refl _ _)⟩
  · clear k1 k2 K1 K2
    obtain ⟨i, j, T, rfl, rfl, hij, HX, HT, HE⟩ := hrel
    have ha := HA.out
    have K3 := Lib.hid (show wrap64 ((m : Int) - (i : Int)) = ((m - i : Nat) : Int) from wr64 (by omega) (by omega))
    have K4 := Lib.hid (show wrap64 ((m : Int) + (j : Int)) = ((m + j : Nat) : Int) from wr64 (by omega) (by omega))
    rcases Nat.lt_trichotomy i j with h | h | h
    · have D := Lib.hid (C.out (m - i) (m + j - i) i T wr HX.out (by omega) (by omega))
      have K5 := Lib.hid (show wrap64 (((m + j : Nat) : Int) - (i : Int)) = ((m + j - i : Nat) : Int) from wr64 (by omega) (by omega))
      have K6 := Lib.hid (show wrap64 ((j : Int) - (i : Int)) = ((j - i : Nat) : Int) from wr64 (by omega) (by omega))
      have z1 := ne_i (i := i) (j := j) (by omega)
      have z2 := lt_f (i := j) (j := i) (by omega)
      have HT2 := Lib.hid ((rot_right T (m := m) (i := i) (j := j) (by omega) h).trans HT.out)
      have HH := Lib.hid (And.intro h hij)
      obtain ⟨q, hq⟩ := named (m + j - i)
      obtain ⟨p, hp⟩ := named (m - i)
      obtain ⟨d, hd⟩ := named (j - i)
      obtain ⟨mj, hmj⟩ := named (m + j)
      have HN := Lib.hid (And.intro hp hd)
      rw [hq, hp] at D
      rw [hp] at K3
      rw [hmj] at K4
      rw [hq, hmj] at K5
      rw [hd] at K6
      rw [hq, hd, hp] at HT2
      clear ha h hij hq hp hd hmj
      have k3 := K3.out
      have k4 := K4.out
      have k5 := K5.out
      have k6 := K6.out
      go_wp2_with fail
      refine D.out.mono ?_
      rintro e w1 ⟨rfl, hX1, hE1⟩
      have HX1 := Lib.hid hX1
      have HE1 := Lib.hid (HE.out.trans hE1)
      clear hX1 hE1
      go_wp2_with fail
      clear k3 k4 k5 k6
      go_roundw
      case rel => exact ⟨i, d, _, rfl, by first | rfl | rw [K6.out], by have := HH.out; have := HN.out; omega, HX1, Lib.hid (by rw [HN.out.1]; exact HT2.out), HE1⟩
      case measure => first | rw [K6.out] | skip
                      have h1 := HH.out; have h2 := HN.out.2; clear HN HH K3 K4 K5 K6; simp only [intOf]; omega
    · obtain rfl := h
      have D := Lib.hid (C.out (m - i) m i T wr HX.out (by omega) (by omega))
      have HT2 := Lib.hid ((rot_end T (m := m) (i := i) (by omega)).trans HT.out)
      obtain ⟨p, hp⟩ := named (m - i)
      rw [hp] at D K3 HT2
      clear ha hij hp
      have k3 := K3.out
      have k4 := K4.out
      go_wp2_with fail
      refine D.out.mono ?_
      rintro e w1 ⟨rfl, hX1, hE1⟩
      have HX1 := Lib.hid hX1
      have HE1 := Lib.hid (HE.out.trans hE1)
      clear hX1 hE1
      go_wp2_with fail
      go_end0
      exact ⟨rfl, by rw [← HT2.out]; exact HX1.out, HE1.out⟩
    · have D := Lib.hid (C.out (m - i) m j T wr HX.out (by omega) (by omega))
      have K6 := Lib.hid (show wrap64 ((i : Int) - (j : Int)) = ((i - j : Nat) : Int) from wr64 (by omega) (by omega))
      have z1 := ne_i (i := i) (j := j) (by omega)
      have z2 := lt_t (i := j) (j := i) h
      have HT2 := Lib.hid ((rot_left T (m := m) (i := i) (j := j) (by omega) h).trans HT.out)
      have HH := Lib.hid (And.intro h hij)
      obtain ⟨p, hp⟩ := named (m - i)
      obtain ⟨d, hd⟩ := named (i - j)
      have HN := Lib.hid hd
      rw [hp] at D K3 HT2
      rw [hd] at K6 HT2
      clear ha h hij hp hd
      have k3 := K3.out
      have k4 := K4.out
      have k6 := K6.out
      go_wp2_with fail
      refine D.out.mono ?_
      rintro e w1 ⟨rfl, hX1, hE1⟩
      have HX1 := Lib.hid hX1
      have HE1 := Lib.hid (HE.out.trans hE1)
      clear hX1 hE1
      go_wp2_with fail
      clear k3 k4 k6
      go_roundw
      case rel => exact ⟨d, j, _, by first | rfl | rw [K6.out], rfl, by have := HH.out; have := HN.out; omega, HX1, HT2, HE1⟩
      case measure => first | rw [K6.out] | skip
                      have h1 := HH.out; have h2 := HN.out; clear HN HH K3 K4 K6; simp only [intOf]; omega
end Go.Proofs.Ytbiofjddclbncaa.Sr
