import Derived.Test.YtcoaaldffnbdbaaR4
namespace Go.Proofs.Ytcoaaldffnbdbaa
open Go.RowKit Mem

theorem be_take (n v k : Nat) (hk : k < n) : (be n v).take (k + 1) = (be n v).take k ++ [UInt8.ofNat (v / 256 ^ (n - 1 - k))] := by
  induction n generalizing k with
  | zero => omega
  | succ n ih =>
    cases k with
    | zero => simp [be]
    | succ k =>
      simp only [be, List.take_succ_cons, List.cons_append]
      rw [ih k (by omega), show n + 1 - 1 - (k + 1) = n - 1 - k by omega]
theorem byte_of' (v : Int) (k : Nat) (h0 : 0 ≤ v) : Value.int .u8 (v / 2 ^ (8 * k) % 256) = bv (UInt8.ofNat (v.toNat / 256 ^ k)) := byte_of v k h0

set_option maxRecDepth 100000 in
set_option maxHeartbeats 4000000 in
theorem Number_any (v : Int) (n : Nat) (w : World) (h0 : 0 ≤ v) (_h1 : v ≤ 18446744073709551615) (hn : n ≤ 8) :
    Calls Try.prog 14 #[.int .u64 v, .int .i64 n] w fun e w' => ∃ v', e = .returned v' ∧ Own 5 w' w.heap.size v' (be n v.toNat) ∧ Below w.heap.size w w' := by
  go_enter Try.func14, Try.ntmps14
  go_wp2_with fail
  go_loopw [6, 5] (fun i out wr => ∃ (k : Nat), k ≤ n ∧ i = .int .i64 ((n : Int) - 1 - (k : Int)) ∧ Own 5 wr w.heap.size out ((be n v.toNat).take k) ∧ Below w.heap.size w wr) (fun i _ _ => (intOf i + 1).toNat)
  case atStart => exact ⟨0, by omega, by simp, by rw [List.take_zero]; exact Own.nil _ _ _, Below.refl _ _⟩
  case round =>
    obtain ⟨k, hk, rfl, ho, hb⟩ := hrel
    have HO := Lib.hid ho
    have HB := Lib.hid hb
    clear ho hb
    by_cases hlt : k < n
    · obtain ⟨m, hm⟩ : ∃ m : Nat, (n : Int) - 1 - (k : Int) = (m : Int) := ⟨n - 1 - k, by omega⟩
      have hmn : n - 1 - k = m := by omega
      have hf := Lib.hid (be_take n v.toNat k hlt)
      rw [hm]
      have HM := Lib.hid hm
      have HMN := Lib.hid hmn
      have hm8 : m < 8 := by omega
      have hv := Lib.hid (byte_of v m h0)
      have hr1 := rd_lit wr [UInt8.ofNat (v.toNat / 256 ^ m)] #[.int .u8 (v / 2 ^ (8 * m) % 256)] (by rw [hv.out]; rfl) (by simp)
      have HR := Lib.hid hr1
      have hl8 : ((be n v.toNat).take k).length ≤ 8 := by simp; omega
      clear hm hmn hr1
      go_wp2_with (at_builtin; refine wpList_append_rd byteTy rfl _ _ rfl w.heap.size _ _ rfl (HO.out.below ((Below.refl _ wr).alloc (Nat.le_refl _) _) (Nat.le_refl _)) _ _ _ _ _ rfl rfl HR.out (by simp at hl8 ⊢; omega) (by simp; have := HB.out.size; omega) ?_; intro v2 w2 hown2 hg2 hat2)
      go_roundw
      case rel => exact ⟨k + 1, by omega, by have := HM.out; go_num, by rw [hf.out, HMN.out]; exact hown2, own_trans (HB.out.alloc HB.out.size _) hg2 (fun q hq => (HO.out.lt q hq).1)⟩
      case measure => have := HM.out; simp [intOf]
    · obtain rfl : k = n := by omega
      have hneg : (k : Int) - 1 - (k : Int) < 0 := by omega
      have HL := Lib.hid (show (be k v.toNat).take k = be k v.toNat by rw [List.take_of_length_le (by rw [length_be]; exact Nat.le_refl _)])
      go_wp2_with fail
      go_ret
      exact ⟨_, rfl, by rw [← HL.out]; exact HO.out, HB.out⟩
theorem refBytes_any (A : Option Addr) (c n : Nat) (l : List UInt8) (w : World) (hr : Rd w w.heap.size A c l) (he : l.length = n) (hn : n ≤ 1000000) :
    Calls Try.prog 15 #[.slice A n c] w fun e w' => ∃ v', e = .returned v' ∧ Own 5 w' w.heap.size v' (be 4 l.length ++ l) ∧ Below w.heap.size w w' := by
  subst he
  have HR := Lib.hid hr
  clear hr
  go_enter Try.func15, Try.ntmps15
  go_wp2_with (first
    | (go_at_call 14; refine (Number_any (l.length : Int) 4 _ (by omega) (by omega) (by omega)).mono ?_; rintro e w1 ⟨v1, rfl, hown, hb⟩; rw [Int.toNat_natCast] at hown; have HO := Lib.hid hown; have HB := Lib.hid hb; clear hown hb)
    | (at_builtin; refine wpList_append_rd byteTy rfl _ _ rfl w.heap.size _ _ rfl HO.out _ _ _ _ _ rfl rfl (HR.out.below HB.out) (by simp [length_be]; omega) HB.out.size ?_; intro v2 w2 hown2 hg2 hat2))
  go_ret
  exact ⟨_, rfl, hown2, own_trans HB.out hg2 (fun q hq => (HO.out.lt q hq).1)⟩
end Go.Proofs.Ytcoaaldffnbdbaa
