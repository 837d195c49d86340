import Derived.Test.YtbiofjddclbncaaSr1
namespace Go.Proofs.Ytbiofjddclbncaa.Sr
set_option linter.unusedVariables false
set_option linter.unusedSimpArgs false
/-! Weights all so many times as great share the same; parts of one amount come to it: no program. -/

theorem bef_iff {r s : Nat → Int} {n : Nat} (h : ∀ i j, i < n → j < n → (bef r i j ↔ bef s i j)) : srt r n = srt s n := by
  refine pw_ext (r := s) ?_ (srt_is s n).pw fun i => ((srt_is r n).mem i).trans ((srt_is s n).mem i).symm
  refine (srt_is r n).pw.imp_of_mem fun {a b} ha hb hab => ?_
  exact (h a b (((srt_is r n).mem a).1 ha) (((srt_is r n).mem b).1 hb)).1 hab
theorem bef_mul {r : Nat → Int} {c : Int} (hc : 0 < c) (i j : Nat) : bef r i j ↔ bef (fun k => c * r k) i j := by
  unfold bef
  have h1 : c * r j < c * r i ↔ r j < r i := ⟨fun h => Int.lt_of_mul_lt_mul_left h (Int.le_of_lt hc), fun h => Int.mul_lt_mul_of_pos_left h hc⟩
  have h2 : c * r j = c * r i ↔ r j = r i := ⟨fun h => Int.eq_of_mul_eq_mul_left (by omega) h, fun h => by rw [h]⟩
  show _ ↔ c * r j < c * r i ∨ (c * r j = c * r i ∧ i < j)
  rw [h1, h2]
theorem qv_mul (T : Int) (w : Nat → Int) {A c : Int} (hc : 0 < c) (i : Nat) : qv T (fun k => c * w k) (c * A) i = qv T w A i := by
  unfold qv
  rw [show T * (c * w i) = c * (T * w i) by rw [← Int.mul_assoc, Int.mul_comm T c, Int.mul_assoc]]
  exact Int.mul_ediv_mul_of_pos _ _ hc
theorem rv_mul (T : Int) (w : Nat → Int) {A c : Int} (hc : 0 < c) (i : Nat) : rv T (fun k => c * w k) (c * A) i = c * rv T w A i := by
  unfold rv
  rw [show T * (c * w i) = c * (T * w i) by rw [← Int.mul_assoc, Int.mul_comm T c, Int.mul_assoc]]
  exact Int.mul_emod_mul_of_pos _ _ hc
theorem lf_mul (T : Int) (w : Nat → Int) (n : Nat) {A c : Int} (hc : 0 < c) : lf T (fun k => c * w k) n (c * A) = lf T w n A := by
  unfold lf
  rw [sm_congr fun i _ => qv_mul T w hc i]
theorem Sh.mul {T : Int} {w : Nat → Int} {n : Nat} {A c : Int} (h : Sh T w n A) (hc : 0 < c) : Sh T (fun k => c * w k) n (c * A) where
  t0 := h.t0
  w0 := fun i hi => Int.mul_nonneg (Int.le_of_lt hc) (h.w0 i hi)
  a := by rw [sm_mul, h.a]
  a0 := Int.mul_pos hc h.a0
theorem srt_mul (r : Nat → Int) (n : Nat) {c : Int} (hc : 0 < c) : srt (fun k => c * r k) n = srt r n :=
  (bef_iff fun i j _ _ => bef_mul hc i j).symm
/-- Weights all c times as great share the same. -/
theorem shr_mul (T : Int) (w : Nat → Int) (n : Nat) {A c : Int} (hc : 0 < c) (i : Nat) :
    shr (qv T (fun k => c * w k) (c * A)) (rv T (fun k => c * w k) (c * A)) n (lf T (fun k => c * w k) n (c * A)).toNat i = shr (qv T w A) (rv T w A) n (lf T w n A).toNat i := by
  have e : rv T (fun k => c * w k) (c * A) = fun k => c * rv T w A k := funext fun k => rv_mul T w hc k
  have hd : had (rv T (fun k => c * w k) (c * A)) n (lf T (fun k => c * w k) n (c * A)).toNat i ↔ had (rv T w A) n (lf T w n A).toNat i := by
    unfold had
    rw [e, srt_mul _ _ hc, lf_mul T w n hc]
  unfold shr
  rw [qv_mul T w hc]
  by_cases h : had (rv T w A) n (lf T w n A).toNat i
  · rw [if_pos h, if_pos (hd.2 h)]
  · rw [if_neg h, if_neg (fun g => h (hd.1 g))]

/-- The whole of parts: all products together, by the days. -/
def whl (a d : Nat → Int) (n : Nat) (D : Int) : Int := sm (fun i => a i * d i) n / D
/-- A part: the whole part of its own product; the last has what the whole has more. -/
def prt (a d : Nat → Int) (n : Nat) (D : Int) (i : Nat) : Int :=
  a i * d i / D + if i + 1 = n then whl a d n D - sm (fun k => a k * d k / D) n else 0
/-- Parts come to the whole. -/
theorem prt_sum (a d : Nat → Int) {n : Nat} (D : Int) (hn : 0 < n) : sm (prt a d n D) n = whl a d n D := by
  have key := sm_add (fun i => a i * d i / D) (fun i => (whl a d n D - sm (fun k => a k * d k / D) n) * if i = n - 1 then 1 else 0) n
  rw [sm_mul, sm_one (show n - 1 < n by omega)] at key
  have e : sm (prt a d n D) n = sm (fun i => a i * d i / D + (whl a d n D - sm (fun k => a k * d k / D) n) * if i = n - 1 then 1 else 0) n := sm_congr fun i hi => by
    unfold prt
    by_cases h : i + 1 = n
    · rw [if_pos h, if_pos (show i = n - 1 by omega), Int.mul_one]
    · rw [if_neg h, if_neg (show ¬ i = n - 1 by omega), Int.mul_zero]
  rw [e, key]
  omega
/-- The whole has no less than all whole parts together, and by fewer units than there are parts more. -/
theorem whl_ge (a d : Nat → Int) (n : Nat) {D : Int} (hD : 0 < D) : sm (fun k => a k * d k / D) n ≤ whl a d n D ∧ whl a d n D ≤ sm (fun k => a k * d k / D) n + n := by
  have e : sm (fun i => a i * d i) n = D * sm (fun k => a k * d k / D) n + sm (fun k => a k * d k % D) n := by
    rw [← sm_mul, ← sm_add]
    exact sm_congr fun i _ => (Int.mul_ediv_add_emod _ _).symm
  have r0 : 0 ≤ sm (fun k => a k * d k % D) n := sm_nonneg fun i _ => Int.emod_nonneg _ (by omega)
  have r1 : sm (fun k => a k * d k % D) n ≤ D * n := by
    have h := sm_le (f := fun k => a k * d k % D) (g := fun _ => D * 1) (n := n) fun i _ => by
      have := Int.emod_lt_of_pos (a i * d i) hD; show _ % _ ≤ D * 1; omega
    rw [sm_mul D (fun _ => 1), sm_ones] at h
    exact h
  unfold whl
  constructor
  · rw [Int.le_ediv_iff_mul_le hD, e, Int.mul_comm D]; omega
  · have : sm (fun i => a i * d i) n ≤ (sm (fun k => a k * d k / D) n + n) * D := by
      rw [e, Int.add_mul, Int.mul_comm D, Int.mul_comm (n : Int) D]; omega
    have := Int.ediv_le_ediv hD this
    rwa [Int.mul_ediv_cancel _ (by omega : D ≠ 0)] at this
/-- Parts of one amount whose days come to all come to it. -/
theorem whl_one (x : Int) (d : Nat → Int) (n : Nat) {D : Int} (hD : 0 < D) (h : sm d n = D) : whl (fun _ => x) d n D = x := by
  unfold whl
  rw [sm_mul, h, Int.mul_ediv_cancel _ (by omega : D ≠ 0)]
/-- No whole part is above what is shared. -/
theorem Sh.q_le {T : Int} {w : Nat → Int} {n : Nat} {A : Int} (h : Sh T w n A) {i : Nat} (hi : i < n) : qv T w A i ≤ T := by
  have hw : w i ≤ A := by have := sm_at_le (f := w) h.w0 hi; rw [h.a] at this; exact this
  have h1 : T * w i ≤ T * A := Int.mul_le_mul_of_nonneg_left hw h.t0
  have h2 := Int.ediv_le_ediv h.a0 h1
  rwa [Int.mul_ediv_cancel _ (by have := h.a0; omega : A ≠ 0)] at h2
/-- A division by one bit more. -/
theorem ld_step {X D b : Int} (hD : 0 < D) (hb : 0 ≤ b ∧ b ≤ 1) :
    (2 * X + b) / D = 2 * (X / D) + (if D ≤ 2 * (X % D) + b then 1 else 0) ∧ (2 * X + b) % D = 2 * (X % D) + b - (if D ≤ 2 * (X % D) + b then D else 0) := by
  have e := Int.mul_ediv_add_emod X D
  have r0 := Int.emod_nonneg X (by omega : D ≠ 0)
  have r1 := Int.emod_lt_of_pos X hD
  have key : ∀ q r : Int, 0 ≤ r → r < D → D * q + r = 2 * X + b → (2 * X + b) / D = q ∧ (2 * X + b) % D = r := fun q r g0 g1 g => by
    have hq : (2 * X + b) / D = q := by rw [← g, Int.mul_add_ediv_left _ _ (by omega : D ≠ 0), Int.ediv_eq_zero_of_lt g0 g1, Int.add_zero]
    refine ⟨hq, ?_⟩
    have := Int.mul_ediv_add_emod (2 * X + b) D
    rw [hq] at this; omega
  by_cases c : D ≤ 2 * (X % D) + b
  · rw [if_pos c, if_pos c]
    refine key _ _ (by omega) (by omega) ?_
    rw [Int.mul_add, Int.mul_one, ← Int.mul_assoc, Int.mul_comm D 2, Int.mul_assoc]; omega
  · rw [if_neg c, if_neg c]
    refine key _ _ (by omega) (by omega) ?_
    rw [Int.add_zero, ← Int.mul_assoc, Int.mul_comm D 2, Int.mul_assoc]; omega
/-- What has come of a division when the bits from i on have been looked at. -/
structure Ld (N : Nat) (D : Int) (i : Nat) (t r : Int) : Prop where
  t : t = ((N / 2 ^ i : Nat) : Int) / D
  r : r = ((N / 2 ^ i : Nat) : Int) % D
theorem Ld.zero {N i : Nat} {D : Int} (hD : 0 < D) (h : N < 2 ^ i) : Ld N D i 0 0 := by
  have e : N / 2 ^ i = 0 := Nat.div_eq_of_lt h
  exact ⟨by rw [e]; simp, by rw [e]; simp⟩
theorem Ld.more {N i : Nat} {D t r : Int} (hD : 0 < D) (h : Ld N D (i + 1) t r) : Ld N D i (2 * t + (if D ≤ 2 * r + ((N / 2 ^ i % 2 : Nat) : Int) then 1 else 0)) (2 * r + ((N / 2 ^ i % 2 : Nat) : Int) - (if D ≤ 2 * r + ((N / 2 ^ i % 2 : Nat) : Int) then D else 0)) := by
  have e : N / 2 ^ i = 2 * (N / 2 ^ (i + 1)) + N / 2 ^ i % 2 := by rw [Nat.pow_succ, ← Nat.div_div_eq_div_mul]; omega
  have hs := ld_step (X := ((N / 2 ^ (i + 1) : Nat) : Int)) (b := ((N / 2 ^ i % 2 : Nat) : Int)) hD ⟨by omega, by omega⟩
  have e2 : ((N / 2 ^ i : Nat) : Int) = 2 * ((N / 2 ^ (i + 1) : Nat) : Int) + ((N / 2 ^ i % 2 : Nat) : Int) := by omega
  rw [← e2, ← h.t, ← h.r] at hs
  exact ⟨hs.1.symm, hs.2.symm⟩
theorem Ld.done {N : Nat} {D t r : Int} (h : Ld N D 0 t r) : t = (N : Int) / D := by
  have := h.t
  rwa [Nat.pow_zero, Nat.div_one] at this
end Go.Proofs.Ytbiofjddclbncaa.Sr
