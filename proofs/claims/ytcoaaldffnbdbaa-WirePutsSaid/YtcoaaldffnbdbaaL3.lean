import Derived.Test.YtcoaaldffnbdbaaL2
import Derived.Deep.RegionWith
import Derived.WalkLawsBesides
namespace Go.Proofs.Ytcoaaldffnbdbaa
open Go.RowKit Mem

theorem be_mod (k v : Nat) : be k (v % 256 ^ k) = be k v := by
  have h : ∀ (m : Nat) (k : Nat), k ≤ m → be k (v % 256 ^ m) = be k v := by
    intro m k hk
    induction k with
    | zero => rfl
    | succ k ih =>
      rw [be, be, ih (by omega)]
      congr 1
      apply UInt8.toNat.inj
      rw [UInt8.toNat_ofNat', UInt8.toNat_ofNat']
      obtain ⟨d, rfl⟩ : ∃ d, m = k + (d + 1) := ⟨m - k - 1, by omega⟩
      rw [Nat.pow_add, Nat.mod_mul_right_div_self, Nat.pow_succ]
      show v / 256 ^ k % (256 ^ d * 256) % 256 = v / 256 ^ k % 256
      rw [Nat.mul_comm]
      exact Nat.mod_mul_right_mod _ _ _
  exact h k k (Nat.le_refl _)
theorem be_inj (k a b : Nat) (ha : a < 256 ^ k) (hb : b < 256 ^ k) (h : be k a = be k b) : a = b := by
  have h1 := val_be k a
  have h2 := val_be k b
  rw [h] at h1
  rw [Nat.mod_eq_of_lt ha] at h1
  rw [Nat.mod_eq_of_lt hb] at h2
  omega
theorem be_less (k : Nat) : ∀ (a b : Nat), a < 256 ^ k → b < 256 ^ k → Op.bytesLess (be k a) (be k b) = decide (a < b) := by
  induction k with
  | zero => intro a b ha hb; simp at ha hb; subst ha; subst hb; rfl
  | succ k ih =>
    intro a b ha hb
    have hp : 0 < 256 ^ k := Nat.pow_pos (by omega)
    rw [Nat.pow_succ] at ha hb
    have ha2 : a / 256 ^ k < 256 := Nat.div_lt_of_lt_mul ha
    have hb2 : b / 256 ^ k < 256 := Nat.div_lt_of_lt_mul hb
    have ea := Nat.div_add_mod a (256 ^ k)
    have eb := Nat.div_add_mod b (256 ^ k)
    have ma := Nat.mod_lt a hp
    have mb := Nat.mod_lt b hp
    rw [be, be, Op.bytesLess, ← be_mod k a, ← be_mod k b, ih _ _ ma mb]
    generalize 256 ^ k = P at *
    generalize a / P = qa at *
    generalize b / P = qb at *
    generalize a % P = ra at *
    generalize b % P = rb at *
    have e1 : (UInt8.ofNat qa < UInt8.ofNat qb) ↔ qa < qb := by
      rw [UInt8.lt_iff_toNat_lt, UInt8.toNat_ofNat', UInt8.toNat_ofNat']; omega
    have e2 : (UInt8.ofNat qa == UInt8.ofNat qb) = decide (qa = qb) := by
      rw [Bool.eq_iff_iff]
      simp only [beq_iff_eq, decide_eq_true_eq]
      constructor
      · intro h; have := congrArg UInt8.toNat h; rw [UInt8.toNat_ofNat', UInt8.toNat_ofNat'] at this; omega
      · rintro rfl; rfl
    rw [e2, Bool.eq_iff_iff]
    simp only [Bool.or_eq_true, Bool.and_eq_true, decide_eq_true_eq, e1]
    rcases Nat.lt_trichotomy qa qb with h | h | h
    · have : P * qa + P ≤ P * qb := by rw [← Nat.mul_succ]; exact Nat.mul_le_mul_left _ h
      constructor
      · intro; omega
      · intro; exact .inl h
    · subst h; constructor
      · rintro (h | ⟨_, h⟩) <;> omega
      · intro; exact .inr ⟨rfl, by omega⟩
    · have : P * qb + P ≤ P * qa := by rw [← Nat.mul_succ]; exact Nat.mul_le_mul_left _ h
      constructor
      · rintro (h | ⟨h, _⟩) <;> omega
      · intro; omega

set_option maxHeartbeats 2000000 in
theorem wireOrder_walk (a b : Int) (w : World) (wa : (Lit.int .u64 a).wf = true) (wb : (Lit.int .u64 b).wf = true) : Calls Try.prog 8 #[.int .u64 a, .int .u64 b] w fun e w' => e = .returned (.bool true) ∧ Below w.heap.size w w' := by
  have ba := bounds_u64 wa
  have bb := bounds_u64 wb
  clear wa wb
  obtain ⟨ba0, ba1⟩ := ba
  obtain ⟨bb0, bb1⟩ := bb
  have hless : Op.bytesLess (be 8 a.toNat) (be 8 b.toNat) = decide (a < b) := by
    rw [be_less 8 _ _ (by omega) (by omega)]
    exact decide_eq_decide.2 (by omega)
  have heq : (be 8 a.toNat == be 8 b.toNat) = (a == b) := by
    rw [Bool.eq_iff_iff]
    simp only [beq_iff_eq]
    exact ⟨fun h => by have := be_inj 8 _ _ (by omega) (by omega) h; omega, fun h => by rw [h]⟩
  have hsz : ∀ v, (str (be 8 v)).size = 8 := fun v => by
    show (be 8 v).toArray.size = 8
    simp [length_be]
  have hst := str_toList
  go_enter Try.func8, Try.ntmps8
  go_wp2_with fail
  go_region_with (first
    | (go_at_call_of 11 (Value.int IntKind.u64 a); refine (Uint_any none 0 [] _ _ (Rd.nil _ _) (by simp) (by omega) (by omega)).mono ?_; rintro e wA ⟨vA, rfl, hownA, hbA⟩; have hcA := run_str_own wA hownA; have HA := Lib.hid hownA; have HbA := Lib.hid hbA; clear hownA hbA)
    | (go_at_call_of 11 (Value.int IntKind.u64 b); refine (Uint_any none 0 [] _ _ (Rd.nil _ _) (by simp) (by omega) (by omega)).mono ?_; rintro e wB ⟨vB, rfl, hownB, hbB⟩; have hcB := run_str_own wB hownB; have hcA2 := run_str_own wB (HA.out.below hbB (Nat.le_refl _)); have HbB := Lib.hid hbB; clear hownB hbB))
  all_goals
    go_wp2_with (go_at_call 16; refine (goes_any _).mono ?_; rintro e wC ⟨rfl, hbC⟩; have HbC := Lib.hid hbC; clear hbC)
    go_ret
    have h1 : Below w.heap.size w wA := (Below.refl _ w).drew.trans HbA.out
    have h2 := h1.trans (HbB.out.mono h1.size)
    exact ⟨rfl, h2.trans (HbC.out.mono h2.size)⟩
end Go.Proofs.Ytcoaaldffnbdbaa
