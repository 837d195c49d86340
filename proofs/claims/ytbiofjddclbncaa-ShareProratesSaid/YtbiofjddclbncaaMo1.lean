import Derived.Test.YtbiofjddclbncaaRows
import Derived.Test.YtbiofjddclbncaaMem
import Derived.Test.YtbiofjddclbncaaMo0
import Derived.Outline
import Derived.LoopTactic
import Derived.BigQuiet
import Derived.Deep.CutBlock
import Derived.Deep.LoopGhost
namespace Go.Proofs.Ytbiofjddclbncaa.Mo
set_option linter.unusedVariables false
set_option linter.unusedSimpArgs false
open Go.RowKit Mem

theorem u64_nat (n : Nat) (h : n < 18446744073709551616) : IntKind.u64.wrap (n : Int) = n := by rw [IntKind.wrap_u64]; omega
/-- What a round meets. -/
theorem dig_round {u d a b x z : Nat} (X : Dig u d a b x z) :
    (∃ m n : Nat, x < 4294967296 ∧ m ≤ n ∧ IntKind.u64.wrap ((x : Int) * (b : Int)) = m ∧ IntKind.u64.wrap (IntKind.u64.wrap (4294967296 * (z : Int)) + (d : Int)) = n ∧ x = (u * 4294967296 + d) / (a * 4294967296 + b)) ∨
    (∃ k y : Nat, (4294967296 ≤ x ∨ ∃ m n : Nat, x < 4294967296 ∧ n < m ∧ IntKind.u64.wrap ((x : Int) * (b : Int)) = m ∧ IntKind.u64.wrap (IntKind.u64.wrap (4294967296 * (z : Int)) + (d : Int)) = n) ∧ k < x ∧ IntKind.u64.wrap ((x : Int) - 1) = k ∧ IntKind.u64.wrap ((z : Int) + (a : Int)) = y ∧
      ((y < 4294967296 ∧ Dig u d a b k y) ∨ (4294967296 ≤ y ∧ k = (u * 4294967296 + d) / (a * 4294967296 + b)))) := by
  have hd := X.hd; have hr := X.hr; have ha := X.a2; have hb := X.hb; have hu := X.hu; have ha1 := X.a1
  have hx : x < 18446744073709551616 := by
    have e := X.eq
    rcases Nat.lt_or_ge x 18446744073709551616 with h | h
    · exact h
    · have := Nat.mul_le_mul h ha1
      omega
  have key : ∀ m, x * b = m → x < 4294967296 → m < 18446744073709551616 ∧ IntKind.u64.wrap ((x : Int) * (b : Int)) = m := by
    intro m hm hl
    have : x * b ≤ 4294967295 * 4294967295 := Nat.mul_le_mul (by omega) (by omega)
    have h2 : m < 18446744073709551616 := by omega
    refine ⟨h2, ?_⟩
    rw [← Int.natCast_mul, hm, u64_nat _ h2]
  have key2 : IntKind.u64.wrap (IntKind.u64.wrap (4294967296 * (z : Int)) + (d : Int)) = ((4294967296 * z + d : Nat) : Int) := by
    rw [IntKind.wrap_u64, IntKind.wrap_u64]; omega
  have go : (4294967296 ≤ x ∨ 4294967296 * z + d < x * b) → (4294967296 ≤ x ∨ ∃ m n : Nat, x < 4294967296 ∧ n < m ∧ IntKind.u64.wrap ((x : Int) * (b : Int)) = m ∧ IntKind.u64.wrap (IntKind.u64.wrap (4294967296 * (z : Int)) + (d : Int)) = n) → ∃ k y : Nat, (4294967296 ≤ x ∨ ∃ m n : Nat, x < 4294967296 ∧ n < m ∧ IntKind.u64.wrap ((x : Int) * (b : Int)) = m ∧ IntKind.u64.wrap (IntKind.u64.wrap (4294967296 * (z : Int)) + (d : Int)) = n) ∧ k < x ∧ IntKind.u64.wrap ((x : Int) - 1) = k ∧ IntKind.u64.wrap ((z : Int) + (a : Int)) = y ∧
      ((y < 4294967296 ∧ Dig u d a b k y) ∨ (4294967296 ≤ y ∧ k = (u * 4294967296 + d) / (a * 4294967296 + b))) := by
    intro h1 h2
    obtain ⟨k, e, hk, he⟩ := X.down h1
    refine ⟨k, z + a, h2, by omega, by rw [IntKind.wrap_u64]; omega, by rw [IntKind.wrap_u64]; omega, ?_⟩
    rcases Nat.lt_or_ge (z + a) 4294967296 with h | h
    · exact .inl ⟨h, X.next hk he h⟩
    · exact .inr ⟨h, X.last hk he h⟩
  rcases Nat.lt_or_ge x 4294967296 with h | h
  · obtain ⟨m, hm⟩ : ∃ m, x * b = m := ⟨_, rfl⟩
    obtain ⟨_, k1⟩ := key m hm h
    rcases Nat.lt_or_ge (4294967296 * z + d) m with g | g
    · exact .inr (go (.inr (by omega)) (.inr ⟨m, _, h, g, k1, key2⟩))
    · exact .inl ⟨m, _, h, g, k1, key2, X.out (by omega)⟩
  · exact .inr (go (.inl h) (.inl h))

set_option maxRecDepth 20000 in
set_option maxHeartbeats 1000000 in
theorem div_core (h l y s Y a b L u d1 d0 q1 r1 Q1 U q0 r0 Q0 A1 A0 : Nat) (w : World) (hh : h < y) (h0 : 0 < h) (hs : s ≤ 63)
    (e1 : IntKind.u64.wrap ((y : Int) * 2 ^ s) = (Y : Int)) (e2 : (Y : Int) / 4294967296 = a) (e3 : bits .and .u64 (Y : Int) 4294967295 = b) (e5 : IntKind.u64.wrap ((l : Int) * 2 ^ s) = (L : Int))
    (e4 : bits .or .u64 (IntKind.u64.wrap ((h : Int) * 2 ^ s)) ((l : Int) / 2 ^ (64 - s)) = (u : Int)) (e6 : (L : Int) / 4294967296 = d1) (e7 : bits .and .u64 (L : Int) 4294967295 = d0)
    (a0 : ¬ (a : Int) = 0) (e8 : (u : Int) / (a : Int) = (q1 : Int)) (e9 : IntKind.u64.wrap ((u : Int) - IntKind.u64.wrap ((q1 : Int) * (a : Int))) = (r1 : Int))
    (k8 : IntKind.u64.wrap (q1 : Int) = q1) (k0 : IntKind.u64.wrap (q0 : Int) = q0) (D1 : Hid (Dig u d1 a b q1 r1)) (hQ1 : Hid (Q1 = (u * 4294967296 + d1) / (a * 4294967296 + b)))
    (f1 : IntKind.u64.wrap (IntKind.u64.wrap (IntKind.u64.wrap ((u : Int) * 4294967296) + (d1 : Int)) - IntKind.u64.wrap ((Q1 : Int) * (Y : Int))) = (U : Int))
    (f8 : (U : Int) / (a : Int) = (q0 : Int)) (f9 : IntKind.u64.wrap ((U : Int) - IntKind.u64.wrap ((q0 : Int) * (a : Int))) = (r0 : Int))
    (D0 : Hid (Dig U d0 a b q0 r0)) (hQ0 : Hid (Q0 = (U * 4294967296 + d0) / (a * 4294967296 + b)))
    (g1 : IntKind.u64.wrap (IntKind.u64.wrap ((Q1 : Int) * 4294967296) + (Q0 : Int)) = (A1 : Int))
    (g0 : IntKind.u64.wrap (IntKind.u64.wrap (IntKind.u64.wrap ((U : Int) * 4294967296) + (d0 : Int)) - IntKind.u64.wrap ((Q0 : Int) * (Y : Int))) / 2 ^ s = (A0 : Int))
    (LZ : Hid (∀ W, Calls Try.prog 40 #[.int .u64 y] W fun e w' => e = .returned (.int .i64 s) ∧ W = w')) :
    Calls Try.prog 29 #[.int .u64 h, .int .u64 l, .int .u64 y] w fun e w' => e = .returned (.tuple #[.int .u64 (A1 : Int), .int .u64 (A0 : Int)]) ∧ Below w.heap.size w w' := by
  go_enter Try.func29, Try.ntmps29
  go_wp2_with fail
  refine (LZ.out _).mono ?_
  rintro e w1 ⟨rfl, rfl⟩
  go_upto_block 0 with fail

  go_cut [15, 16] from 67 to 85 (fun v _ W => v = .int .u64 Q1 ∧ W = w)
  case first =>
    go_wp2_with fail
    go_loop [15, 16] (fun v r => ∃ x z : Nat, v = .int .u64 x ∧ r = .int .u64 z ∧ Hid (Dig u d1 a b x z)) (fun v _ => (intOf v).toNat)
    · exact ⟨_, _, rfl, rfl, D1⟩
    · obtain ⟨x, z, rfl, rfl, hX⟩ := hrel
      have R := dig_round hX.out
      rcases R with ⟨m, n, lt, hmn, k1, k2, hQ⟩ | ⟨k, y2, hg, hk, k1, k2, hr⟩
      · have lt1 : ((4294967296 : Int) ≤ (x : Int)) = False := by simp; omega
        have lt2 : ((n : Int) < (m : Int)) = False := by simp; omega
        have HQ := Lib.hid hQ
        clear lt hmn hQ hX
        go_wp2_with fail
        go_meet
        case rel => rw [HQ.out, hQ1.out]; exact ⟨rfl, rfl⟩
      · have HK := Lib.hid hk; clear hk
        rcases hg with hg | ⟨m, n, lt, hmn, k3, k4⟩
        · have x1 : ((4294967296 : Int) ≤ (x : Int)) = True := by simp; omega
          rcases hr with ⟨lt2, hD⟩ | ⟨ge2, hQ⟩
          · have y1 : ((4294967296 : Int) ≤ (y2 : Int)) = False := by simp; omega
            have HD := Lib.hid hD
            clear hg lt2 hD hX
            go_wp2_with fail
            go_round
            case rel => exact ⟨_, _, rfl, rfl, HD⟩
            case measure => have := HK.out; simp [intOf]; omega
          · have y1 : ((4294967296 : Int) ≤ (y2 : Int)) = True := by simp; omega
            have HQ := Lib.hid hQ
            clear hg ge2 hQ hX
            go_wp2_with fail
            go_meet
            case rel => rw [HQ.out, hQ1.out]; exact ⟨rfl, rfl⟩
        · have x1 : ((4294967296 : Int) ≤ (x : Int)) = False := by simp; omega
          have x2 : ((n : Int) < (m : Int)) = True := by simp; omega
          rcases hr with ⟨lt2, hD⟩ | ⟨ge2, hQ⟩
          · have y1 : ((4294967296 : Int) ≤ (y2 : Int)) = False := by simp; omega
            have HD := Lib.hid hD
            clear lt hmn lt2 hD hX
            go_wp2_with fail
            go_round
            case rel => exact ⟨_, _, rfl, rfl, HD⟩
            case measure => have := HK.out; simp [intOf]; omega
          · have y1 : ((4294967296 : Int) ≤ (y2 : Int)) = True := by simp; omega
            have HQ := Lib.hid hQ
            clear lt hmn ge2 hQ hX
            go_wp2_with fail
            go_meet
            case rel => rw [HQ.out, hQ1.out]; exact ⟨rfl, rfl⟩
  case rest =>
    obtain ⟨rfl, rfl⟩ := hcut
    go_upto_block 2 with fail
    go_cut [18, 16] from 102 to 120 (fun v _ W => v = .int .u64 Q0 ∧ W = wc)
    case first =>
      go_wp2_with fail
      go_loop [18, 16] (fun v r => ∃ x z : Nat, v = .int .u64 x ∧ r = .int .u64 z ∧ Hid (Dig U d0 a b x z)) (fun v _ => (intOf v).toNat)
      · exact ⟨_, _, rfl, rfl, D0⟩
      · obtain ⟨x, z, rfl, rfl, hX⟩ := hrel
        have R := dig_round hX.out
        rcases R with ⟨m, n, lt, hmn, k1, k2, hQ⟩ | ⟨k, y2, hg, hk, k1, k2, hr⟩
        · have lt1 : ((4294967296 : Int) ≤ (x : Int)) = False := by simp; omega
          have lt2 : ((n : Int) < (m : Int)) = False := by simp; omega
          have HQ := Lib.hid hQ
          clear lt hmn hQ hX
          go_wp2_with fail
          go_meet
          case rel => rw [HQ.out, hQ0.out]; exact ⟨rfl, rfl⟩
        · have HK := Lib.hid hk; clear hk
          rcases hg with hg | ⟨m, n, lt, hmn, k3, k4⟩
          · have x1 : ((4294967296 : Int) ≤ (x : Int)) = True := by simp; omega
            rcases hr with ⟨lt2, hD⟩ | ⟨ge2, hQ⟩
            · have y1 : ((4294967296 : Int) ≤ (y2 : Int)) = False := by simp; omega
              have HD := Lib.hid hD
              clear hg lt2 hD hX
              go_wp2_with fail
              go_round
              case rel => exact ⟨_, _, rfl, rfl, HD⟩
              case measure => have := HK.out; simp [intOf]; omega
            · have y1 : ((4294967296 : Int) ≤ (y2 : Int)) = True := by simp; omega
              have HQ := Lib.hid hQ
              clear hg ge2 hQ hX
              go_wp2_with fail
              go_meet
              case rel => rw [HQ.out, hQ0.out]; exact ⟨rfl, rfl⟩
          · have x1 : ((4294967296 : Int) ≤ (x : Int)) = False := by simp; omega
            have x2 : ((n : Int) < (m : Int)) = True := by simp; omega
            rcases hr with ⟨lt2, hD⟩ | ⟨ge2, hQ⟩
            · have y1 : ((4294967296 : Int) ≤ (y2 : Int)) = False := by simp; omega
              have HD := Lib.hid hD
              clear lt hmn lt2 hD hX
              go_wp2_with fail
              go_round
              case rel => exact ⟨_, _, rfl, rfl, HD⟩
              case measure => have := HK.out; simp [intOf]; omega
            · have y1 : ((4294967296 : Int) ≤ (y2 : Int)) = True := by simp; omega
              have HQ := Lib.hid hQ
              clear lt hmn ge2 hQ hX
              go_wp2_with fail
              go_meet
              case rel => rw [HQ.out, hQ0.out]; exact ⟨rfl, rfl⟩
    case rest =>
      obtain ⟨rfl, rfl⟩ := hcut
      go_wp2_with fail
      go_ret2
      exact ⟨rfl, Below.refl _ _⟩
end Go.Proofs.Ytbiofjddclbncaa.Mo
