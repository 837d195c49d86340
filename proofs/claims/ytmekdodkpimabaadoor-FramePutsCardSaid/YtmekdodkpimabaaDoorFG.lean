import Derived.Test.YtmekdodkpimabaaDoorF8
import Derived.Test.YtmekdodkpimabaaDoorCrc3
import Derived.Deep.RegionHeld3
import Derived.LoopTactic
namespace Go.Proofs.YtmekdodkpimabaaDoor
set_option linter.unusedVariables false
set_option linter.unusedSimpArgs false
open Go.RowKit Mem

theorem be_take (n v k : Nat) (hk : k < n) : (be n v).take (k + 1) = (be n v).take k ++ [UInt8.ofNat (v / 256 ^ (n - 1 - k))] := by
  induction n generalizing k with
  | zero => omega
  | succ n ih =>
    cases k with
    | zero => simp [be]
    | succ k =>
      simp only [be, List.take_succ_cons, List.cons_append]
      rw [ih k (by omega), show n + 1 - 1 - (k + 1) = n - 1 - k by omega]

set_option maxRecDepth 100000 in
set_option maxHeartbeats 4000000 in
theorem Number_any (v : Int) (n : Nat) (w : World) (h0 : 0 ≤ v) (_h1 : v ≤ 18446744073709551615) (hn : n ≤ 8) :
    Calls Tryd.prog 20 #[.int .u64 v, .int .i64 n] w fun e w' => ∃ v', e = .returned v' ∧ Mem.Own 5 w' w.heap.size v' (be n v.toNat) ∧ Below w.heap.size w w' := by
  go_enter Tryd.func20, Tryd.ntmps20
  go_wp2_with fail
  go_loopw [6, 5] (fun i out wr => ∃ (k : Nat), k ≤ n ∧ i = .int .i64 ((n : Int) - 1 - (k : Int)) ∧ Mem.Own 5 wr w.heap.size out ((be n v.toNat).take k) ∧ Below w.heap.size w wr) (fun i _ _ => (intOf i + 1).toNat)
  case atStart => exact ⟨0, by omega, by simp, by rw [List.take_zero]; exact Own.nil _ _ _, Below.refl _ _⟩
  case round =>
    obtain ⟨k, hk, rfl, ho, hb⟩ := hrel
    have HO := Lib.hid ho
    have HB := Lib.hid hb
    clear ho hb
    by_cases hlt : k < n
    · obtain ⟨m, hm⟩ : ∃ m : Nat, (n : Int) - 1 - (k : Int) = (m : Int) := ⟨n - 1 - k, by omega⟩
      have hmn : n - 1 - k = m := by omega
      have hf := Lib.hid (be_take n v.toNat k hlt)
      rw [hm]
      have HM := Lib.hid hm
      have HMN := Lib.hid hmn
      have hm8 : m < 8 := by omega
      have hv := Lib.hid (byte_of v m h0)
      have hr1 := rd_lit wr [UInt8.ofNat (v.toNat / 256 ^ m)] #[.int .u8 (v / 2 ^ (8 * m) % 256)] (by rw [hv.out]; rfl) (by simp)
      have HR := Lib.hid hr1
      have hl8 : ((be n v.toNat).take k).length ≤ 8 := by simp; omega
      clear hm hmn hr1
      go_wp2_with (at_builtin; refine wpList_append_rd byteTy rfl _ _ rfl w.heap.size _ _ rfl (HO.out.below ((Below.refl _ wr).alloc (Nat.le_refl _) _) (Nat.le_refl _)) _ _ _ _ _ rfl rfl HR.out (by simp at hl8 ⊢; omega) (by simp; have := HB.out.size; omega) ?_; intro v2 w2 hown2 hg2 hat2)
      go_roundw
      case rel => exact ⟨k + 1, by omega, by have := HM.out; go_num, by rw [hf.out, HMN.out]; exact hown2, own_trans (HB.out.alloc HB.out.size _) hg2 (fun q hq => (HO.out.lt q hq).1)⟩
      case measure => have := HM.out; simp [intOf]
    · obtain rfl : k = n := by omega
      have hneg : (k : Int) - 1 - (k : Int) < 0 := by omega
      have HL := Lib.hid (show (be k v.toNat).take k = be k v.toNat by rw [List.take_of_length_le (by rw [length_be]; exact Nat.le_refl _)])
      go_wp2_with fail
      go_ret
      exact ⟨_, rfl, by rw [← HL.out]; exact HO.out, HB.out⟩

theorem May_any (a : Int) (s n : Nat) (w : World) (hn : n ≤ 9223372036854775807) :
    Calls Tryd.prog 9 #[.int .i64 a, .int .u64 s, .int .i64 n] w fun e w' => e = .returned (.int .i64 (may a s n)) ∧ w = w' := by
  have hm : ∀ m, may a s n = m → may a s n = m := fun _ h => h
  by_cases h1 : a < 0
  · have HM := Lib.hid (show may a s n = 1 by unfold may; rw [if_pos (.inl h1)])
    clear hm
    go_enter Tryd.func9, Tryd.ntmps9
    go_wp2
    go_ret
    exact ⟨by rw [HM.out]; rfl, rfl⟩
  · by_cases h2 : 4095 < a
    · have HM := Lib.hid (show may a s n = 1 by unfold may; rw [if_pos (.inr (.inl (by omega)))])
      clear hm
      go_enter Tryd.func9, Tryd.ntmps9
      go_wp2
      go_ret
      exact ⟨by rw [HM.out]; rfl, rfl⟩
    · by_cases h3 : s = 0
      · subst h3
        have HM := Lib.hid (show may a 0 n = 1 by unfold may; rw [if_pos (.inr (.inr rfl))])
        clear hm
        go_enter Tryd.func9, Tryd.ntmps9
        go_wp2
        go_ret
        exact ⟨by rw [HM.out]; rfl, rfl⟩
      · have i3 : ¬ (s : Int) = 0 := by omega
        by_cases h4 : 4011 < n
        · have i4 : (4011 : Int) < n := by omega
          have HM := Lib.hid (show may a s n = 2 by unfold may; rw [if_neg (by omega), if_pos h4])
          clear hm h3 h4
          go_enter Tryd.func9, Tryd.ntmps9
          go_wp2
          go_ret
          exact ⟨by rw [HM.out]; rfl, rfl⟩
        · have i4 : ¬ (4011 : Int) < n := by omega
          have HM := Lib.hid (show may a s n = 0 by unfold may; rw [if_neg (by omega), if_neg h4])
          clear hm h3 h4
          go_enter Tryd.func9, Tryd.ntmps9
          go_wp2
          go_ret
          exact ⟨by rw [HM.out]; rfl, rfl⟩

theorem str_append (p q : List UInt8) : str p ++ str q = str (p ++ q) := by
  apply ByteArray.ext
  apply Array.toList_inj.1
  simp [str, ByteArray.data_append]
theorem str_size (p : List UInt8) : (str p).size = p.length := by
  show p.toArray.size = p.length
  simp
theorem str_add (W : World) (p q : List UInt8) (h : p.length + q.length ≤ 9223372036854775807) : (Op.stringOp .add (str p) (str q)).run Tryd.prog W = .ok (.string (str (p ++ q))) W := by
  have e1 : (str p).size = p.length := str_size p
  have e2 : (str q).size = q.length := str_size q
  unfold Op.stringOp
  simp only [e1, e2]
  rw [if_neg (by simp [IntKind.max, IntKind.bits, IntKind.signed]; omega), str_append]
  rfl

/-- What holds in the middle of a region may be more than what held at its beginning. -/
theorem wpAnyH_more {P : Program} {md : Region.Mode} {ops : Array Oper} {Q : Exit → Act → World → Prop} {S S' : World → Prop} (h : ∀ w, S' w → S w) :
    ∀ (fuel : Nat) (listed : Array Bool) (a : Act) (w : World), wpAnyH P md ops Q S' fuel listed a w → wpAnyH P md ops Q S fuel listed a w
  | 0, _, _, _, h0 => h0
  | fuel + 1, _, _, _, h0 => ⟨h0.1, fun i hi => wpOp_mono (fun a' w' h' => ⟨h _ h'.1, wpAnyH_more h fuel _ a' w' h'.2⟩) (h0.2 i hi)⟩
end Go.Proofs.YtmekdodkpimabaaDoor
