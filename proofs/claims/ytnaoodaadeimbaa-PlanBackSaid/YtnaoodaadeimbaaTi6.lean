import Derived.Test.YtnaoodaadeimbaaTi1
namespace Go.Proofs.Ytnaoodaadeimbaa.Ti
set_option linter.unusedVariables false
set_option linter.unusedSimpArgs false
set_option maxRecDepth 8000
open Go.RowKit Mem Mo

def uOf (L : List (Int × Int)) (k : Nat) : Int := (L[k]?.getD (0, 0)).1
def pOf (L : List (Int × Int)) (k : Nat) : Int := (L[k]?.getD (0, 0)).2
def flat (L : List (Int × Int)) : List Value := L.flatMap fun t => [.int .i64 t.1, .int .i64 t.2]
theorem length_flat (L : List (Int × Int)) : (flat L).length = L.length * 2 := by
  induction L with
  | nil => rfl
  | cons t l ih => simp only [flat, List.flatMap_cons, List.length_append, List.length_cons, List.length_nil] at ih ⊢; omega
theorem flat_at (L : List (Int × Int)) : ∀ k, k < L.length → (flat L)[k * 2]? = some (.int .i64 (uOf L k)) ∧ (flat L)[k * 2 + 1]? = some (.int .i64 (pOf L k)) := by
  induction L with
  | nil => intro k hk; simp at hk
  | cons t l ih =>
    intro k hk
    have e : flat (t :: l) = .int .i64 t.1 :: .int .i64 t.2 :: flat l := rfl
    rw [e]
    rcases k with _ | k
    · exact ⟨rfl, rfl⟩
    · obtain ⟨a, b⟩ := ih k (by simpa using hk)
      rw [show (k + 1) * 2 = k * 2 + 1 + 1 by omega]
      simp only [List.getElem?_cons_succ]
      exact ⟨a, b⟩
theorem RdT.lit (W : World) (L : List (Int × Int)) (h : L.length ≤ 1000) (t : TypeId) (fr : Nat × Nat := (0, 0)) : RdT (W.alloc (.cells (flat L).toArray t fr)) (W.heap.size + 1) (some ⟨W.heap.size, 0, none⟩) L.length (uOf L) (pOf L) L.length := by
  refine ⟨Nat.le_refl _, by unfold maxLen; omega, fun hp => ⟨W.heap.size, 0, rfl, by omega, fun k hk => ?_⟩⟩
  obtain ⟨a, b⟩ := flat_at L k hk
  constructor
  · rw [cell_of_row _ _ _ _ _ _ (heap_alloc_new W _)]; simpa using a
  · rw [cell_of_row _ _ _ _ _ _ (heap_alloc_new W _)]; simpa using b
theorem RdT.nil (w : World) (B : Nat) (u p : Nat → Int) : RdT w B none 0 u p 0 := ⟨Nat.le_refl _, by unfold maxLen; omega, fun h => by omega⟩

/-- The example's tiers. -/
def kT : List (Int × Int) := [(10, 5), (100, 3), (0, 1)]
theorem known_rd (w : World) : RdT (w.alloc (.cells (flat kT).toArray 58 (0, 0))) (w.heap.size + 1) (some ⟨w.heap.size, 0, none⟩) 3 (uOf kT) (pOf kT) 3 := RdT.lit w kT (by decide) _
theorem kT_ok : okB (uOf kT) (pOf kT) 3 = true := by decide
end Go.Proofs.Ytnaoodaadeimbaa.Ti
