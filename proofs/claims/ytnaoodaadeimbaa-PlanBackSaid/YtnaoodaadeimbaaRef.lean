import Derived.Test.YtnaoodaadeimbaaStr
import Derived.Deep.RegionHeld3
import Derived.LoopTactic
namespace Go.Proofs.Ytnaoodaadeimbaa.Ref
set_option linter.unusedVariables false
set_option linter.unusedSimpArgs false
open Go.RowKit Mem

theorem be_take (n v k : Nat) (hk : k < n) : (be n v).take (k + 1) = (be n v).take k ++ [UInt8.ofNat (v / 256 ^ (n - 1 - k))] := by
  induction n generalizing k with
  | zero => omega
  | succ n ih =>
    cases k with
    | zero => simp [be]
    | succ k =>
      simp only [be, List.take_succ_cons, List.cons_append]
      rw [ih k (by omega), show n + 1 - 1 - (k + 1) = n - 1 - k by omega]

set_option maxRecDepth 100000 in
set_option maxHeartbeats 4000000 in
theorem Number_any (v : Int) (n : Nat) (w : World) (h0 : 0 ≤ v) (_h1 : v ≤ 18446744073709551615) (hn : n ≤ 8) :
    Calls Try.prog 27 #[.int .u64 v, .int .i64 n] w fun e w' => ∃ v', e = .returned v' ∧ Mem.Own 5 w' w.heap.size v' (be n v.toNat) ∧ Below w.heap.size w w' := by
  go_enter Try.func27, Try.ntmps27
  go_wp2_with fail
  go_loopw [6, 5] (fun i out wr => ∃ (k : Nat), k ≤ n ∧ i = .int .i64 ((n : Int) - 1 - (k : Int)) ∧ Mem.Own 5 wr w.heap.size out ((be n v.toNat).take k) ∧ Below w.heap.size w wr) (fun i _ _ => (intOf i + 1).toNat)
  case atStart => exact ⟨0, by omega, by simp, by rw [List.take_zero]; exact Own.nil _ _ _, Below.refl _ _⟩
  case round =>
    obtain ⟨k, hk, rfl, ho, hb⟩ := hrel
    have HO := Lib.hid ho
    have HB := Lib.hid hb
    clear ho hb
    by_cases hlt : k < n
    · obtain ⟨m, hm⟩ : ∃ m : Nat, (n : Int) - 1 - (k : Int) = (m : Int) := ⟨n - 1 - k, by omega⟩
      have hmn : n - 1 - k = m := by omega
      have hf := Lib.hid (be_take n v.toNat k hlt)
      rw [hm]
      have HM := Lib.hid hm
      have HMN := Lib.hid hmn
      have hm8 : m < 8 := by omega
      have hv := Lib.hid (byte_of v m h0)
      have hr1 := rd_lit wr [UInt8.ofNat (v.toNat / 256 ^ m)] #[.int .u8 (v / 2 ^ (8 * m) % 256)] (by rw [hv.out]; rfl) (by simp)
      have HR := Lib.hid hr1
      have hl8 : ((be n v.toNat).take k).length ≤ 8 := by simp; omega
      clear hm hmn hr1
      go_wp2_with (at_builtin; refine wpList_append_rd byteTy rfl _ _ rfl w.heap.size _ _ rfl (HO.out.below ((Below.refl _ wr).alloc (Nat.le_refl _) _) (Nat.le_refl _)) _ _ _ _ _ rfl rfl HR.out (by simp at hl8 ⊢; omega) (by simp; have := HB.out.size; omega) ?_; intro v2 w2 hown2 hg2 hat2)
      go_roundw
      case rel => exact ⟨k + 1, by omega, by have := HM.out; go_num, by rw [hf.out, HMN.out]; exact hown2, own_trans (HB.out.alloc HB.out.size _) hg2 (fun q hq => (HO.out.lt q hq).1)⟩
      case measure => have := HM.out; simp [intOf]
    · obtain rfl : k = n := by omega
      have hneg : (k : Int) - 1 - (k : Int) < 0 := by omega
      have HL := Lib.hid (show (be k v.toNat).take k = be k v.toNat by rw [List.take_of_length_le (by rw [length_be]; exact Nat.le_refl _)])
      go_wp2_with fail
      go_ret
      exact ⟨_, rfl, by rw [← HL.out]; exact HO.out, HB.out⟩

theorem str_append (p q : List UInt8) : str p ++ str q = str (p ++ q) := by
  apply ByteArray.ext
  apply Array.toList_inj.1
  simp [str, ByteArray.data_append]
theorem str_size (p : List UInt8) : (str p).size = p.length := by
  show p.toArray.size = p.length
  simp
theorem str_add (W : World) (p q : List UInt8) (h : p.length + q.length ≤ 9223372036854775807) : (Op.stringOp .add (str p) (str q)).run Try.prog W = .ok (.string (str (p ++ q))) W := by
  have e1 : (str p).size = p.length := str_size p
  have e2 : (str q).size = q.length := str_size q
  unfold Op.stringOp
  simp only [e1, e2]
  rw [if_neg (by simp [IntKind.max, IntKind.bits, IntKind.signed]; omega), str_append]
  rfl

/-- What holds in the middle of a region may be more than what held at its beginning. -/
theorem wpAnyH_more {P : Program} {md : Region.Mode} {ops : Array Oper} {Q : Exit → Act → World → Prop} {S S' : World → Prop} (h : ∀ w, S' w → S w) :
    ∀ (fuel : Nat) (listed : Array Bool) (a : Act) (w : World), wpAnyH P md ops Q S' fuel listed a w → wpAnyH P md ops Q S fuel listed a w
  | 0, _, _, _, h0 => h0
  | fuel + 1, _, _, _, h0 => ⟨h0.1, fun i hi => wpOp_mono (fun a' w' h' => ⟨h _ h'.1, wpAnyH_more h fuel _ a' w' h'.2⟩) (h0.2 i hi)⟩
/-- A string becomes bytes. -/
theorem to_bytes (l : List UInt8) (W : World) (n : Nat) (hn : l.length = n) (hl : n ≤ 100000) : ∃ c W', (convert 9 26 (.string (str l))).run Try.prog W = .ok (.slice (some ⟨W.heap.size, 0, none⟩) n c) W' ∧ Rd W' W'.heap.size (some ⟨W.heap.size, 0, none⟩) c l ∧ Below W.heap.size W W' := by
  subst hn
  have h := run_bytes_of_string (P := Try.prog) W 9 26 5 (str l) Try.underlying9 Try.underlying26 Try.underlying5
  rw [str_size] at h
  refine ⟨_, _, h, ⟨grownCap_ge _ _ _ _, grownCap_le_maxLen _ _ _ _ (by unfold maxLen; omega), fun e => (by cases e), fun _ => ⟨W.heap.size, 0, rfl, by rw [size_alloc']; show W.heap.size < W.heap.size + 1; omega, fun i hi => ?_⟩⟩, ((Below.refl _ W).drew).alloc (Nat.le_refl _) _⟩
  show (W.drew.alloc _).cell? ⟨W.drew.heap.size, 0 + i, none⟩ = _
  rw [cell_of_row _ _ _ _ _ _ (heap_alloc_new W.drew _), Nat.zero_add]
  unfold bytesRow
  rw [Array.getElem?_append_left (by simp [str]; exact hi)]
  simp [str, hi, bv]

end Go.Proofs.Ytnaoodaadeimbaa.Ref
