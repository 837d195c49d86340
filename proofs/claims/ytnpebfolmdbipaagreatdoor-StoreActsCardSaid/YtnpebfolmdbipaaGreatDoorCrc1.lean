import Derived.Test.YtnpebfolmdbipaaGreatDoorRows
import Derived.Test.YtnpebfolmdbipaaGreatDoorMem
import Derived.Test.YtnpebfolmdbipaaGreatDoorC0
import Derived.WalkKit
import Derived.Outline
import Derived.ProofKit
import Derived.LoopTactic
import Derived.WalkSpells
import Derived.Handy
namespace Go.Proofs.YtnpebfolmdbipaaGreatDoor
open Go.RowKit Mem

/-- The table's variable lies there, in block 0. -/
def Tab (w : World) : Prop := 0 < w.heap.size ∧ ∀ i, i < 16 → w.cell? ⟨0, i, none⟩ = some (.int .u32 ((Crc.four.getD i 0 : Nat) : Int))
theorem Tab.below {w w' : World} {B : Nat} (h : Tab w) (hb : Below B w w') (hB : 0 < B) : Tab w' :=
  ⟨by have := hb.size; have := h.1; omega, fun i hi => (hb.cell (p := ⟨0, i, none⟩) hB).trans (h.2 i hi)⟩

theorem and15 (m : Nat) (h : m < 4294967296) : bits .and .u32 (m : Int) 15 = ((m % 16 : Nat) : Int) := by
  have := u32_and_nat m 15 h (by decide)
  rw [show m &&& 15 = m % 16 from Nat.and_two_pow_sub_one_eq_mod m 4] at this
  exact this
theorem xor_div (m f : Nat) (h : m < 4294967296) (hf : f < 4294967296) : bits .xor .u32 ((m : Int) / 16) (f : Int) = ((m / 16 ^^^ f : Nat) : Int) := by
  have := u32_xor_nat (m / 16) f (by omega) hf
  rw [← this]; rfl

set_option maxHeartbeats 400000 in
theorem through_any (n : Nat) (A : Option Addr) (c : Nat) (l : List UInt8) (w : World) (hw : Tab w) (hl : Rd w w.heap.size A c l) (hn : n < 4294967296) :
    Calls Tryz.prog 113 #[.int .u32 (n : Int), .slice A l.length c] w fun e w' => e = .returned (.int .u32 ((Crc.thru n l : Nat) : Int)) ∧ w = w' := by
  have hlen : l.length ≤ maxLen := Nat.le_trans hl.1 hl.2.1
  unfold maxLen at hlen
  go_enter Tryz.func113, Tryz.ntmps113
  go_wp2
  go_loop [0, 9] (fun v i => ∃ k : Nat, k ≤ l.length ∧ i = .int .i64 k ∧ v = .int .u32 ((Crc.thru n (l.take k) : Nat) : Int)) (fun _ i => l.length - (intOf i).toNat)
  case atStart => exact ⟨0, Nat.zero_le _, rfl, by simp [Crc.thru]⟩
  case round =>
    obtain ⟨k, hk, rfl, rfl⟩ := hrel
    by_cases hlt : k < l.length
    · obtain ⟨b, o, rfl, _, hc⟩ := hl.2.2.2 (by omega)
      have hcell := hc k hlt
      clear hc
      have hx : l[k].toNat < 256 := l[k].toNat_lt
      have hm := Crc.thru_lt n (l.take k) hn
      have H := Lib.hid (Crc.thru_snoc n l k hlt)
      have hk1 : k + 1 ≤ l.length := hlt
      generalize l[k].toNat = x at hx hcell H
      generalize Crc.thru n (l.take k) = t at hm H ⊢
      have H2 := Lib.hid (Crc.byte_four t x)
      have e1 := u32_xor_nat t x hm (by omega)
      have hml : t ^^^ x < 4294967296 := Nat.xor_lt_two_pow (n := 32) hm (by omega)
      generalize t ^^^ x = m at e1 hml H2
      have e2 := and15 m hml
      have c1 := hw.2 (m % 16) (by omega)
      have hf1 := Crc.four_lt (m % 16) (by omega)
      have e3 := xor_div m _ hml hf1
      rw [← Crc.sts_four] at e3
      have hs := Crc.sts_lt 4 m hml
      generalize Crc.four.getD (m % 16) 0 = f1 at c1 hf1 e3
      have hr1 : m % 16 < 16 := by omega
      generalize m % 16 = r1 at e2 c1 hr1
      generalize Crc.sts 4 m = m1 at e3 hs H2
      have e4 := and15 m1 hs
      have c2 := hw.2 (m1 % 16) (by omega)
      have hf2 := Crc.four_lt (m1 % 16) (by omega)
      have e5 := xor_div m1 _ hs hf2
      generalize Crc.four.getD (m1 % 16) 0 = f2 at c2 hf2 e5 H2
      have hr2 : m1 % 16 < 16 := by omega
      generalize m1 % 16 = r2 at e4 c2 hr2
      go_wp2
      go_round
      case rel => exact ⟨k + 1, hk1, by go_num, by rw [H.out, H2.out]⟩
      case measure => simp [intOf]; omega
    · obtain rfl : k = l.length := by omega
      go_wp2
      go_ret
      exact ⟨by simp, rfl⟩
end Go.Proofs.YtnpebfolmdbipaaGreatDoor
