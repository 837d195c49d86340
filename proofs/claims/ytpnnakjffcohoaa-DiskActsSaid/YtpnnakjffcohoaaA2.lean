import Derived.Test.YtpnnakjffcohoaaA1
namespace Go.Proofs.Ytpnnakjffcohoaa
set_option linter.unusedVariables false
set_option linter.unusedSimpArgs false
open Go.RowKit Mem Go.ChangeMaps

set_option maxHeartbeats 1000000 in
theorem great_any (A : Option Addr) (len cap : Nat) (f : Nat → ActD) (w : World) (B : Nat) (ha : Acts w B A len cap f) :
    Calls Try.prog 9 #[.slice A len cap] w fun e w' => ∃ r : Int, e = .returned (.int .i64 r) ∧ w' = w ∧ Hid (¬ 0 < r → len ≤ 60 ∧ ∀ i, i < len → (f i).fn ≤ 60) := by
  have hcap : (len : Int) ≤ 9223372036854775807 := by have := ha.1; have := ha.2.1; unfold maxLen at this; omega
  have HA := Lib.hid ha
  clear ha
  go_enter Try.func9, Try.ntmps9
  go_wp2
  go_loopw [3] (fun v wr => ∃ k : Nat, k ≤ len ∧ k ≤ 61 ∧ v = .int .i64 k ∧ wr = w ∧ Hid (∀ i, i < k → (f i).fn ≤ 60)) (fun v _ => len - (intOf v).toNat)
  case atStart => exact ⟨0, Nat.zero_le _, by omega, rfl, rfl, fun i hi => by omega⟩
  case round =>
    obtain ⟨k, hk, hk1, rfl, rfl, hall⟩ := hrel
    by_cases hlt : k < len
    · by_cases h61 : k < 61
      · obtain ⟨b, o, rfl, hb, hc⟩ := HA.out.2.2 (by omega)
        have c5 := (hc k hlt).c5
        have C5 := Lib.hid (show ∀ i, i < k → (f i).fn ≤ 60 from hall.out)
        by_cases h60 : (f k).fn ≤ 60
        · have HR := Lib.hid (show ∀ i, i < k + 1 → (f i).fn ≤ 60 from fun i hi => by
            by_cases e : i = k
            · subst e; exact h60
            · exact C5.out i (by omega))
          have h60' : ¬ (60 : Int) < ((f k).fn : Int) := by omega
          generalize (f k).fn = nn at c5 h60'
          generalize (f k).FA = aa at c5
          generalize (f k).fc = cc at c5
          clear hc hall h60
          go_wp2
          go_roundw
          case rel => exact ⟨k + 1, by omega, by omega, by go_num, trivial, HR.out⟩
          case measure => simp [intOf]; omega
        · have h60' : (60 : Int) < ((f k).fn : Int) := by omega
          generalize (f k).fn = nn at c5 h60'
          generalize (f k).FA = aa at c5
          generalize (f k).fc = cc at c5
          clear hc hall h60
          go_wp2
          go_ret
          exact ⟨1, rfl, rfl, Lib.hid fun h => absurd h (by omega)⟩
      · have hm : max 0 ((len : Int) - 60) = (len : Int) - 60 := by omega
        have hlen : 61 ≤ len := by omega
        go_wp2
        go_ret
        exact ⟨_, rfl, rfl, Lib.hid fun h => absurd h (by omega)⟩
    · obtain rfl : k = len := by omega
      by_cases h60 : k ≤ 60
      · have hm : max 0 ((k : Int) - 60) = 0 := by omega
        go_wp2
        go_ret
        exact ⟨_, rfl, rfl, Lib.hid fun _ => hall.out⟩
      · have hm : max 0 ((k : Int) - 60) = (k : Int) - 60 := by omega
        go_wp2
        go_ret
        exact ⟨_, rfl, rfl, Lib.hid (by omega)⟩
end Go.Proofs.Ytpnnakjffcohoaa
