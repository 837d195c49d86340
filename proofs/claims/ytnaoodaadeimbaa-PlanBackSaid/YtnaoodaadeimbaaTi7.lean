import Derived.Test.YtnaoodaadeimbaaTi6
namespace Go.Proofs.Ytnaoodaadeimbaa.Ti
set_option linter.unusedVariables false
set_option linter.unusedSimpArgs false
open Go.RowKit Mem Mo
theorem i64_bd {x : Int} (h : (Lit.int .i64 x).wf = true) : -9223372036854775808 ≤ x ∧ x ≤ 9223372036854775807 := by
  simpa [Lit.wf, IntKind.min, IntKind.max, IntKind.bits, IntKind.signed] using h
/-- The tiers that came in. -/
theorem tiers_of {fs : Array Field} {w : World} {B : Nat} {A : Option Addr} {n c : Nat} {f : Nat → Nat → Value} (hu : Try.prog.underlying 58 = some (.struct fs)) (h : Structs Try.prog w B fs A n c f) : ∃ u p, RdT w B A c u p n ∧ NumT u p n := by
  rw [Try.underlying58] at hu
  injection hu with hu
  injection hu with hu
  subst hu
  have key : ∀ i, i < n → ∃ x y : Int, (∀ b o, A = some ⟨b, o, none⟩ → w.cell? ⟨b, o + i * 2, none⟩ = some (.int .i64 x) ∧ w.cell? ⟨b, o + i * 2 + 1, none⟩ = some (.int .i64 y)) ∧ (-9223372036854775808 ≤ x ∧ x ≤ 9223372036854775807) ∧ (-9223372036854775808 ≤ y ∧ y ≤ 9223372036854775807) := by
    intro i hi
    obtain ⟨b, o, rfl, _, hc⟩ := h.2.2 (by omega)
    obtain ⟨h0, k0⟩ := hc i 0 _ hi rfl
    obtain ⟨h1, k1⟩ := hc i 1 _ hi rfl
    simp only [fieldOk] at k0
    simp only [fieldOk] at k1
    obtain ⟨x, hx, wx⟩ := k0
    obtain ⟨y, hy, wy⟩ := k1
    have bx := i64_bd wx
    have yb := i64_bd wy
    refine ⟨x, y, ?_, ⟨by omega, by omega⟩, by omega, by omega⟩
    intro b' o' e
    simp at e
    obtain ⟨rfl, rfl⟩ := e
    rw [hx] at h0
    rw [hy] at h1
    exact ⟨h0, h1⟩
  refine ⟨fun i => if hi : i < n then (key i hi).choose else 0, fun i => if hi : i < n then (key i hi).choose_spec.choose else 0, ⟨h.1, h.2.1, fun hp => ?_⟩, fun i hi => ?_⟩
  · obtain ⟨b, o, rfl, hb, _⟩ := h.2.2 hp
    refine ⟨b, o, rfl, hb, fun i hi => ?_⟩
    have hs := (key i hi).choose_spec.choose_spec
    simp only [hi, dif_pos]
    exact hs.1 b o rfl
  · have hs := (key i hi).choose_spec.choose_spec
    simp only [hi, dif_pos]
    exact hs.2

theorem att_done {u p : Nat → Int} {n : Int} {k r : Nat} (h : Hit n u k) : att u p n k (r + 1) = p k := by unfold att; rw [if_pos h]
theorem att_on {u p : Nat → Int} {n : Int} {k r : Nat} (h : ¬ Hit n u k) : att u p n k (r + 1) = att u p n (k + 1) r := by rw [att, if_neg h]
theorem att_in {u p : Nat → Int} {n : Int} {lo hi : Int} (h0 : lo ≤ 0 ∧ 0 ≤ hi) : ∀ r k, (∀ j, k ≤ j → j < k + r → lo ≤ p j ∧ p j ≤ hi) → lo ≤ att u p n k r ∧ att u p n k r ≤ hi := by
  intro r
  induction r with
  | zero => intro k _; exact h0
  | succ r ih =>
    intro k h
    by_cases hh : Hit n u k
    · rw [att_done hh]; exact h k (by omega) (by omega)
    · rw [att_on hh]; exact ih (k + 1) fun j a b => h j (by omega) (by omega)
theorem Ok.att_bd {u p : Nat → Int} {m : Nat} (h : Ok u p m) (n : Int) : 0 ≤ att u p n 0 m ∧ att u p n 0 m ≤ 1125899906842624 :=
  att_in (by omega) m 0 fun j _ hj => h.prc j (by omega)
end Go.Proofs.Ytnaoodaadeimbaa.Ti
