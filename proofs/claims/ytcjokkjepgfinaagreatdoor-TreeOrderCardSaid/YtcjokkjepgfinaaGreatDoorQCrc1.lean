import Derived.Test.YtcjokkjepgfinaaGreatDoorRows
import Derived.Test.YtcjokkjepgfinaaGreatDoorQMem
import Derived.WalkKit
import Derived.Outline
import Derived.ProofKit
import Derived.LoopTactic
import Derived.WalkSpells
import Derived.Handy
set_option linter.unusedVariables false
set_option linter.unusedSimpArgs false
namespace Go.Proofs.YtcjokkjepgfinaaGreatDoor.Crc
def st (n : Nat) : Nat := if n % 2 = 1 then n / 2 ^^^ 2197175160 else n / 2
def sts : Nat → Nat → Nat
  | 0, n => n
  | k + 1, n => sts k (st n)
def byte (n x : Nat) : Nat := sts 8 (n ^^^ x)
def thru (n : Nat) (l : List UInt8) : Nat := l.foldl (fun n x => byte n x.toNat) n
def check (l : List UInt8) : Nat := thru 4294967295 l ^^^ 4294967295
theorem xor_swap (a b c d : Nat) : (a ^^^ b) ^^^ (c ^^^ d) = (a ^^^ c) ^^^ (b ^^^ d) := by
  rw [Nat.xor_assoc, ← Nat.xor_assoc b c d, Nat.xor_comm b c, Nat.xor_assoc c b d, ← Nat.xor_assoc]
theorem xor_mod2 (a b : Nat) : (a ^^^ b) % 2 = (a + b) % 2 := by
  have h := @Nat.xor_mod_two_pow a b 1
  rw [Nat.pow_one] at h
  rw [h]
  rcases Nat.mod_two_eq_zero_or_one a with ha | ha <;> rcases Nat.mod_two_eq_zero_or_one b with hb | hb <;> rw [ha, hb]
  · show 0 = _; omega
  · show 1 = _; omega
  · show 1 = _; omega
  · show 0 = _; omega
theorem st_xor (a b : Nat) : st (a ^^^ b) = st a ^^^ st b := by
  have h1 : (a ^^^ b) / 2 = a / 2 ^^^ b / 2 := Nat.xor_div_two
  have h2 : (a ^^^ b) % 2 = (a + b) % 2 := xor_mod2 a b
  unfold st
  rw [h1, h2]
  rcases Nat.mod_two_eq_zero_or_one a with ha | ha <;> rcases Nat.mod_two_eq_zero_or_one b with hb | hb
  · rw [if_neg (by omega), if_neg (by omega), if_neg (by omega)]
  · rw [if_pos (by omega), if_neg (by omega), if_pos hb, Nat.xor_assoc]
  · rw [if_pos (by omega), if_pos ha, if_neg (by omega), Nat.xor_assoc, Nat.xor_assoc, Nat.xor_comm (b / 2)]
  · rw [if_neg (by omega), if_pos ha, if_pos hb, xor_swap, Nat.xor_self, Nat.xor_zero]
theorem sts_xor (k a b : Nat) : sts k (a ^^^ b) = sts k a ^^^ sts k b := by
  induction k generalizing a b with
  | zero => rfl
  | succ k ih => rw [sts, sts, sts, st_xor, ih]
theorem sts_add (j k n : Nat) : sts (j + k) n = sts k (sts j n) := by
  induction j generalizing n with
  | zero => rw [Nat.zero_add]; rfl
  | succ j ih => rw [Nat.add_right_comm, sts, sts, ih]
theorem st_two (q : Nat) : st (2 * q) = q := by unfold st; rw [if_neg (by omega)]; omega
theorem sts_two (k q : Nat) : sts k (2 ^ k * q) = q := by
  induction k generalizing q with
  | zero => rw [Nat.pow_zero, Nat.one_mul]; rfl
  | succ k ih => rw [sts, show 2 ^ (k + 1) * q = 2 * (2 ^ k * q) by rw [Nat.pow_succ, Nat.mul_comm (2 ^ k), Nat.mul_assoc], st_two, ih]
theorem st_lt (n : Nat) (h : n < 4294967296) : st n < 4294967296 := by
  unfold st; split
  · exact Nat.xor_lt_two_pow (n := 32) (by omega) (by omega)
  · omega
theorem sts_lt (k n : Nat) (h : n < 4294967296) : sts k n < 4294967296 := by
  induction k generalizing n with
  | zero => exact h
  | succ k ih => exact ih _ (st_lt n h)
theorem mul_xor (k q r : Nat) (h : r < 2 ^ k) : r ^^^ 2 ^ k * q = r + 2 ^ k * q := by
  apply Nat.eq_of_testBit_eq
  intro i
  rw [Nat.add_comm, Nat.testBit_xor, Nat.testBit_two_pow_mul_add _ h, Nat.testBit_two_pow_mul]
  by_cases hi : i < k
  · simp [hi, Nat.not_le.2 hi]
  · have : r.testBit i = false := Nat.testBit_lt_two_pow (Nat.lt_of_lt_of_le h (Nat.pow_le_pow_right (by omega) (by omega)))
    simp [hi, this, Nat.le_of_not_lt hi]
def num : List UInt8 → Nat
  | [] => 0
  | x :: l => x.toNat + 256 * num l
theorem thru_lt (s : Nat) (l : List UInt8) (h : s < 4294967296) : thru s l < 4294967296 := by
  induction l generalizing s with
  | nil => exact h
  | cons x l ih => exact ih _ (sts_lt 8 _ (Nat.xor_lt_two_pow (n := 32) (by omega) (by have := x.toNat_lt; omega)))
theorem check_lt (l : List UInt8) : check l < 4294967296 := Nat.xor_lt_two_pow (n := 32) (thru_lt _ _ (by decide)) (by decide)
def four : List Nat := [0, 274646895, 549293790, 820201905, 1098587580, 1361435347, 1640403810, 1905808397, 2197175160, 2460548119, 2722870694, 2987750089, 3280807620, 3553878443, 3811616794, 4084100981]
theorem four_at : ∀ r, r < 16 → sts 4 r = four.getD r 0 := by decide
theorem four_lt : ∀ r, r < 16 → four.getD r 0 < 4294967296 := by decide
theorem sts_four (n : Nat) : sts 4 n = n / 16 ^^^ four.getD (n % 16) 0 := by
  have h : n = n % 16 ^^^ 2 ^ 4 * (n / 16) := by rw [mul_xor 4 _ _ (by omega)]; omega
  rw [← four_at _ (Nat.mod_lt _ (by decide)), Nat.xor_comm (n / 16)]
  have e : sts 4 n = sts 4 (n % 16 ^^^ 2 ^ 4 * (n / 16)) := by rw [← h]
  rw [e, sts_xor, sts_two]
theorem byte_four (n x : Nat) : byte n x = sts 4 (n ^^^ x) / 16 ^^^ four.getD (sts 4 (n ^^^ x) % 16) 0 := by
  rw [← sts_four, ← sts_add]; rfl
def bitStep (n b : Nat) : Nat := if n % 2 ≠ b then n / 2 ^^^ 2197175160 else n / 2
def bitsOf (n x : Nat) : Nat → Nat
  | 0 => n
  | k + 1 => bitStep (bitsOf n x k) (x / 2 ^ k % 2)
theorem thru_snoc (s : Nat) (l : List UInt8) (k : Nat) (h : k < l.length) : thru s (l.take (k + 1)) = byte (thru s (l.take k)) l[k].toNat := by
  unfold thru; rw [List.take_succ_eq_append_getElem h, List.foldl_append]; rfl
theorem thru_app (s : Nat) (a b : List UInt8) : thru s (a ++ b) = thru (thru s a) b := by unfold thru; rw [List.foldl_append]
end Go.Proofs.YtcjokkjepgfinaaGreatDoor.Crc
namespace Go.Proofs.YtcjokkjepgfinaaGreatDoor
open Go.RowKit Mem
def Tab (w : World) : Prop := 1 < w.heap.size ∧ ∀ i, i < 16 → w.cell? ⟨1, i, none⟩ = some (.int .u32 ((Crc.four.getD i 0 : Nat) : Int))
theorem Tab.below {w w' : World} {B : Nat} (h : Tab w) (hb : Below B w w') (hB : 1 < B) : Tab w' :=
  ⟨by have := hb.size; have := h.1; omega, fun i hi => (hb.cell (p := ⟨1, i, none⟩) hB).trans (h.2 i hi)⟩
theorem and15 (m : Nat) (h : m < 4294967296) : bits .and .u32 (m : Int) 15 = ((m % 16 : Nat) : Int) := by
  have := u32_and_nat m 15 h (by decide)
  rw [show m &&& 15 = m % 16 from Nat.and_two_pow_sub_one_eq_mod m 4] at this
  exact this
theorem xor_div (m f : Nat) (h : m < 4294967296) (hf : f < 4294967296) : bits .xor .u32 ((m : Int) / 16) (f : Int) = ((m / 16 ^^^ f : Nat) : Int) := by
  have := u32_xor_nat (m / 16) f (by omega) hf
  rw [← this]; rfl
set_option maxHeartbeats 400000 in
theorem through_any (n : Nat) (A : Option Addr) (c : Nat) (l : List UInt8) (w : World) (hw : Tab w) (hl : Rd w w.heap.size A c l) (hn : n < 4294967296) :
    Calls Tryz.prog 175 #[.int .u32 (n : Int), .slice A l.length c] w fun e w' => e = .returned (.int .u32 ((Crc.thru n l : Nat) : Int)) ∧ w = w' := by
  have hlen : l.length ≤ maxLen := Nat.le_trans hl.1 hl.2.1
  unfold maxLen at hlen
  go_enter Tryz.func175, Tryz.ntmps175
  go_wp2
  go_loop [0, 9] (fun v i => ∃ k : Nat, k ≤ l.length ∧ i = .int .i64 k ∧ v = .int .u32 ((Crc.thru n (l.take k) : Nat) : Int)) (fun _ i => l.length - (intOf i).toNat)
  case atStart => exact ⟨0, Nat.zero_le _, rfl, by simp [Crc.thru]⟩
  case round =>
    obtain ⟨k, hk, rfl, rfl⟩ := hrel
    by_cases hlt : k < l.length
    · obtain ⟨b, o, rfl, _, hc⟩ := hl.2.2.2 (by omega)
      have hcell := hc k hlt
      clear hc
      have hx : l[k].toNat < 256 := l[k].toNat_lt
      have hm := Crc.thru_lt n (l.take k) hn
      have H := Lib.hid (Crc.thru_snoc n l k hlt)
      have hk1 : k + 1 ≤ l.length := hlt
      generalize l[k].toNat = x at hx hcell H
      generalize Crc.thru n (l.take k) = t at hm H ⊢
      have H2 := Lib.hid (Crc.byte_four t x)
      have e1 := u32_xor_nat t x hm (by omega)
      have hml : t ^^^ x < 4294967296 := Nat.xor_lt_two_pow (n := 32) hm (by omega)
      generalize t ^^^ x = m at e1 hml H2
      have e2 := and15 m hml
      have c1 := hw.2 (m % 16) (by omega)
      have hf1 := Crc.four_lt (m % 16) (by omega)
      have e3 := xor_div m _ hml hf1
      rw [← Crc.sts_four] at e3
      have hs := Crc.sts_lt 4 m hml
      generalize Crc.four.getD (m % 16) 0 = f1 at c1 hf1 e3
      have hr1 : m % 16 < 16 := by omega
      generalize m % 16 = r1 at e2 c1 hr1
      generalize Crc.sts 4 m = m1 at e3 hs H2
      have e4 := and15 m1 hs
      have c2 := hw.2 (m1 % 16) (by omega)
      have hf2 := Crc.four_lt (m1 % 16) (by omega)
      have e5 := xor_div m1 _ hs hf2
      generalize Crc.four.getD (m1 % 16) 0 = f2 at c2 hf2 e5 H2
      have hr2 : m1 % 16 < 16 := by omega
      generalize m1 % 16 = r2 at e4 c2 hr2
      go_wp2
      go_round
      case rel => exact ⟨k + 1, hk1, by go_num, by rw [H.out, H2.out]⟩
      case measure => simp [intOf]; omega
    · obtain rfl : k = l.length := by omega
      go_wp2
      go_ret
      exact ⟨by simp, rfl⟩
end Go.Proofs.YtcjokkjepgfinaaGreatDoor
