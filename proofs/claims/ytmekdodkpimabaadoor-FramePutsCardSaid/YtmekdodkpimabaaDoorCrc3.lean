import Derived.Test.YtmekdodkpimabaaDoorCrc2
namespace Go.Proofs.YtmekdodkpimabaaDoor
open Go.RowKit Mem

theorem low_bit (x j : Nat) : ((x : Int) / 2 ^ j).tmod 2 = ((x / 2 ^ j % 2 : Nat) : Int) := by
  rw [Int.tmod_eq_emod_of_nonneg (Int.ediv_nonneg (by omega) (Int.le_of_lt (Int.pow_pos (by omega))))]
  simp
theorem ref_hit (v x j : Nat) (hv : v < 4294967296) (h : ((v : Int) % 2 != ((x : Int) / 2 ^ j).tmod 2) = true) : bits .xor .u32 ((v : Int) / 2) 2197175160 = ((Crc.bitStep v (x / 2 ^ j % 2) : Nat) : Int) := by
  rw [low_bit] at h
  have h' : v % 2 ≠ x / 2 ^ j % 2 := by
    intro e
    simp only [bne_iff_ne, ne_eq] at h
    omega
  have e := u32_xor_nat (v / 2) 2197175160 (by omega) (by decide)
  unfold Crc.bitStep
  rw [if_pos h', ← e]; rfl
theorem ref_miss (v x j : Nat) (h : ((v : Int) % 2 != ((x : Int) / 2 ^ j).tmod 2) = false) : (v : Int) / 2 = ((Crc.bitStep v (x / 2 ^ j % 2) : Nat) : Int) := by
  rw [low_bit] at h
  have h' : ¬ v % 2 ≠ x / 2 ^ j % 2 := by
    simp only [bne_eq_false_iff_eq] at h
    omega
  unfold Crc.bitStep
  rw [if_neg h']; rfl
theorem check_sub (l : List UInt8) : 4294967295 - ((Crc.thru 4294967295 l : Nat) : Int) = ((Crc.check l : Nat) : Int) := by
  have h := Crc.thru_lt 4294967295 l (by decide)
  have e : ∀ t, t < 4294967296 → t ^^^ 4294967295 = 4294967295 - t := by
    intro t ht
    have h1 := @BitVec.xor_allOnes 32 (BitVec.ofNat 32 t)
    have h2 := congrArg BitVec.toNat h1
    rw [BitVec.toNat_xor, BitVec.toNat_not, BitVec.toNat_ofNat, BitVec.toNat_allOnes, Nat.mod_eq_of_lt (by omega)] at h2
    exact h2
  unfold Crc.check
  rw [e _ h]
  omega

set_option maxHeartbeats 1000000 in
theorem ref_any (A : Option Addr) (c : Nat) (l : List UInt8) (w : World) (hl : Rd w w.heap.size A c l) :
    Calls Tryd.prog 21 #[.slice A l.length c] w fun e w' => e = .returned (.int .u32 ((Crc.check l : Nat) : Int)) ∧ w = w' := by
  have hlen : l.length ≤ maxLen := Nat.le_trans hl.1 hl.2.1
  unfold maxLen at hlen
  have HE := Lib.hid (check_sub l)
  have hm0 := Crc.thru_lt 4294967295 l (by decide)
  go_enter Tryd.func21, Tryd.ntmps21
  go_wp2_with fail
  go_loop [3, 4] (fun v i => ∃ k : Nat, k ≤ l.length ∧ i = .int .i64 k ∧ v = .int .u32 ((Crc.thru 4294967295 (l.take k) : Nat) : Int)) (fun _ i => l.length - (intOf i).toNat)
  case atStart => exact ⟨0, Nat.zero_le _, rfl, by simp [Crc.thru]⟩
  case round =>
    obtain ⟨k, hk, rfl, rfl⟩ := hrel
    by_cases hlt : k < l.length
    · obtain ⟨b, o, rfl, _, hc⟩ := hl.2.2.2 (by omega)
      have hcell := hc k hlt
      clear hc
      have hx : l[k].toNat < 256 := l[k].toNat_lt
      have hm := Crc.thru_lt 4294967295 (l.take k) (by decide)
      have H := Lib.hid (Crc.thru_snoc 4294967295 l k hlt)
      have hk1 : k + 1 ≤ l.length := hlt
      generalize l[k].toNat = x at hx hcell H
      generalize Crc.thru 4294967295 (l.take k) = t at hm H ⊢
      have H2 := Lib.hid (Crc.byte_bits t x hx)
      go_wp2_with fail
      go_loop [3, 5] (fun v i => ∃ j : Nat, j ≤ 8 ∧ i = .int .i64 j ∧ v = .int .u32 ((Crc.bitsOf t x j : Nat) : Int)) (fun _ i => 8 - (intOf i).toNat)
      case atStart => exact ⟨0, Nat.zero_le _, rfl, rfl⟩
      case round =>
        obtain ⟨j, hj, rfl, rfl⟩ := hrel
        have hv := Crc.bitsOf_lt t x j hm hx
        by_cases hj8 : j < 8
        · have H3 := Lib.hid (show Crc.bitsOf t x (j + 1) = Crc.bitStep (Crc.bitsOf t x j) (x / 2 ^ j % 2) from rfl)
          generalize Crc.bitsOf t x j = v at hv H3 ⊢
          have hj1 : j + 1 ≤ 8 := hj8
          go_wp2_with fail
          · rename_i ht
            exact ⟨⟨j + 1, hj1, by go_num, by rw [H3.out, ref_hit v x j hv ht]⟩, by simp [intOf]; omega⟩
          · rename_i ht
            exact ⟨⟨j + 1, hj1, by go_num, by rw [H3.out, ref_miss v x j ht]⟩, by simp [intOf]; omega⟩
        · obtain rfl : j = 8 := by omega
          go_wp2_with fail
          go_round
          case rel => exact ⟨k + 1, hk1, by go_num, by rw [H.out, H2.out]⟩
          case measure => simp [intOf]; omega
    · obtain rfl : k = l.length := by omega
      rw [List.take_length]
      go_wp2_with fail
      go_ret
      exact ⟨by rw [HE.out]; rfl, rfl⟩
end Go.Proofs.YtmekdodkpimabaaDoor
