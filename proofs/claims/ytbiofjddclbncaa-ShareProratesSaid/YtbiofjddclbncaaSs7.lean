import Derived.Test.YtbiofjddclbncaaSs6
import Derived.Deep.RegionWith
namespace Go.Proofs.Ytbiofjddclbncaa.Sr
set_option linter.unusedVariables false
set_option linter.unusedSimpArgs false
open Go.RowKit Mem Mo
/-- What may not be prorated. -/
def BadR (a d : List Int) (D : Int) : Prop := a.length ≠ d.length ∨ a.length < 1 ∨ 100 < a.length ∨ wnB 0 1125899906842624 a = false ∨ wnB 1 10000 [D] = false ∨ wnB 0 D d = false
instance (a d : List Int) (D : Int) : Decidable (BadR a d D) := inferInstanceAs (Decidable (_ ∨ _))
def prE (a d : List Int) (D : Int) : Int := if BadR a d D then 1 else 0
def prl (a d : List Int) (D : Int) : List Int := if BadR a d D then [] else tl a.length (prt (gv a) (gv d) a.length D)
def PrPost (a d : List Int) (D : Int) (w : World) (e : Ending) (w' : World) : Prop :=
  ∃ A c, e = .returned (.tuple #[.slice A (prl a d D).length c, .int .i64 (prE a d D)]) ∧ RdI w' w'.heap.size A c (prl a d D) ∧ Below w.heap.size w w'
theorem PrPost.no {a d : List Int} {D : Int} {w w' : World} (h : BadR a d D) (hb : Below w.heap.size w w') : PrPost a d D w (.returned (.tuple #[.slice none 0 0, .int .i64 1])) w' :=
  ⟨none, 0, by unfold prE prl; rw [if_pos h, if_pos h]; rfl, by unfold prl; rw [if_pos h]; exact RdI.nil _ _, hb⟩
theorem PrPost.yes {a d : List Int} {D : Int} {w w' : World} {A : Option Addr} {c n : Nat} (hn : a.length = n) (h : ¬ BadR a d D) (hr : RdI w' w'.heap.size A c (tl n (prt (gv a) (gv d) n D))) (hb : Below w.heap.size w w') : PrPost a d D w (.returned (.tuple #[.slice A n c, .int .i64 0])) w' := by
  subst hn
  exact ⟨A, c, by unfold prE prl; rw [if_neg h, if_neg h, tl_len], by unfold prl; rw [if_neg h]; exact hr, hb⟩
section
variable {a d : Nat → Int} {n : Nat} {D : Int}
/-- What may be prorated. -/
structure Pr (a d : Nat → Int) (n : Nat) (D : Int) : Prop where
  D0 : 1 ≤ D
  D1 : D ≤ 10000
  a : ∀ k, k < n → 0 ≤ a k ∧ a k ≤ 1125899906842624
  d : ∀ k, k < n → 0 ≤ d k ∧ d k ≤ D
  n0 : 1 ≤ n
  n1 : n ≤ 100
theorem Pr.mul (h : Pr a d n D) {k : Nat} (hk : k < n) : 0 ≤ a k * d k ∧ a k * d k ≤ a k * D ∧ a k * d k ≤ 11258999068426240000 := by
  have ha := h.a k hk
  have hd := h.d k hk
  have h1 := h.D1
  have e : a k * d k ≤ a k * D := Int.mul_le_mul_of_nonneg_left hd.2 ha.1
  have e2 : a k * D ≤ 1125899906842624 * D := Int.mul_le_mul_of_nonneg_right ha.2 (by have := h.D0; omega)
  exact ⟨Int.mul_nonneg ha.1 hd.1, e, by omega⟩
theorem Pr.q (h : Pr a d n D) {k : Nat} (hk : k < n) : 0 ≤ a k * d k / D ∧ a k * d k / D ≤ 1125899906842624 := by
  have hm := h.mul hk
  have h0 := h.D0
  refine ⟨Int.ediv_nonneg hm.1 (by omega), ?_⟩
  have e := Int.ediv_le_ediv (show 0 < D by omega) hm.2.1
  rw [Int.mul_ediv_cancel _ (show D ≠ 0 by omega)] at e
  have := (h.a k hk).2
  omega
theorem Pr.r (h : Pr a d n D) (k : Nat) : 0 ≤ a k * d k % D ∧ a k * d k % D ≤ 9999 := by
  have h0 := h.D0; have h1 := h.D1
  have := Int.emod_nonneg (a k * d k) (show D ≠ 0 by omega)
  have := Int.emod_lt_of_pos (a k * d k) (show 0 < D by omega)
  omega
theorem sm_up {f : Nat → Int} {M : Int} {n : Nat} (h : ∀ k, k < n → f k ≤ M) : sm f n ≤ M * n := by
  induction n with
  | zero => show (0 : Int) ≤ M * 0; omega
  | succ n ih => show sm f n + f n ≤ M * ((n + 1 : Nat) : Int); have a := ih fun k hk => h k (by omega); have b := h n (by omega); rw [Int.natCast_add, Int.mul_add]; omega
/-- What the whole has more is what the rests come to. -/
theorem Pr.more (h : Pr a d n D) : whl a d n D - sm (fun k => a k * d k / D) n = sm (fun k => a k * d k % D) n / D := by
  have h0 := h.D0
  have e : sm (fun i => a i * d i) n = sm (fun k => a k * d k % D) n + D * sm (fun k => a k * d k / D) n := by
    rw [← sm_mul, ← sm_add]
    exact sm_congr fun i _ => by have := Int.mul_ediv_add_emod (a i * d i) D; omega
  unfold whl
  rw [e, Int.add_mul_ediv_left _ _ (show D ≠ 0 by omega)]
  omega
theorem Pr.rsum (h : Pr a d n D) : 0 ≤ sm (fun k => a k * d k % D) n ∧ sm (fun k => a k * d k % D) n ≤ 999900 := by
  have h1 := sm_nonneg (f := fun k => a k * d k % D) (n := n) fun k _ => (h.r k).1
  have h2 := sm_up (f := fun k => a k * d k % D) (n := n) (M := 9999) fun k _ => (h.r k).2
  have := h.n1
  omega
theorem Pr.rdiv (h : Pr a d n D) : 0 ≤ sm (fun k => a k * d k % D) n / D ∧ sm (fun k => a k * d k % D) n / D ≤ 999900 := by
  have h0 := h.D0
  have hr := h.rsum
  exact ⟨Int.ediv_nonneg hr.1 (by omega), Int.le_trans (Int.ediv_le_self _ hr.1) hr.2⟩
theorem prt_last (h : Pr a d n D) (k : Nat) : (if k = n - 1 then a (n - 1) * d (n - 1) / D + sm (fun k => a k * d k % D) n / D else a k * d k / D) = prt a d n D k := by
  have h0 := h.n0
  unfold prt
  rw [h.more]
  by_cases e : k = n - 1
  · rw [if_pos e, if_pos (by omega), e]
  · rw [if_neg e, if_neg (by omega), Int.add_zero]
theorem prt_bd (h : Pr a d n D) {k : Nat} (hk : k < n) : 0 ≤ prt a d n D k ∧ prt a d n D k ≤ 1125899907842624 := by
  rw [← prt_last h]
  have h1 := h.rdiv
  split
  · have := h.q (k := n - 1) (by omega); omega
  · have := h.q hk; omega
end
theorem pr_of {a d : List Int} {D : Int} (h : ¬ BadR a d D) : Pr (gv a) (gv d) a.length D := by
  unfold BadR at h
  have hD : wnB 1 10000 [D] = true := by cases h1 : wnB 1 10000 [D]; (exact absurd (.inr (.inr (.inr (.inr (.inl h1))))) h); rfl
  have ha : wnB 0 1125899906842624 a = true := by cases h1 : wnB 0 1125899906842624 a; (exact absurd (.inr (.inr (.inr (.inl h1)))) h); rfl
  have hd : wnB 0 D d = true := by cases h1 : wnB 0 D d; (exact absurd (.inr (.inr (.inr (.inr (.inr h1))))) h); rfl
  have hDD := wn_t hD D (by simp)
  exact ⟨hDD.1, hDD.2, fun k hk => by rw [gv_at hk]; exact wn_t ha _ (List.getElem_mem hk), fun k hk => by
    have : k < d.length := by omega
    rw [gv_at this]; exact wn_t hd _ (List.getElem_mem this), by omega, by omega⟩
end Go.Proofs.Ytbiofjddclbncaa.Sr
