import Derived.Test.YthaleikmdoijbaaTi7
namespace Go.Proofs.Ythaleikmdoijbaa
set_option linter.unusedVariables false
set_option linter.unusedSimpArgs false
set_option maxRecDepth 8000
open Go.RowKit Mem Mo Ti
/-- What may not be. -/
def bads : List (List (Int × Int)) := [[], [(5, 1)], [(5, 1), (5, 1), (0, 1)], [(0, 1), (0, 1)], [(0, -1)], [(0, 1125899906842625)], [(-1, 0), (0, 0)], [(1099511627777, 0), (0, 0)], [(1, 0), (2, 0), (3, 0), (4, 0), (0, 0)]]
/-- Rows laid one behind the other. -/
def lay (t : TypeId) : World → List (List (Int × Int)) → World
  | W, [] => W
  | W, L :: r => lay t (W.alloc (.cells (flat L).toArray t)) r
theorem lay_size (t : TypeId) : ∀ (Ls : List (List (Int × Int))) (W : World), (lay t W Ls).heap.size = W.heap.size + Ls.length
  | [], W => rfl
  | L :: r, W => by show (lay t _ r).heap.size = _; rw [lay_size t r, World.size_alloc, List.length_cons]; omega
theorem lay_bel (t : TypeId) : ∀ (Ls : List (List (Int × Int))) (W : World) (B : Nat), B ≤ W.heap.size → Below B W (lay t W Ls)
  | [], W, B, _ => Below.refl _ _
  | L :: r, W, B, h => by
    show Below _ _ (lay t _ r)
    exact ((Below.refl _ _).alloc h _).trans (lay_bel t r _ B (by rw [World.size_alloc]; omega))
theorem lay_rd (t : TypeId) : ∀ (Ls : List (List (Int × Int))) (W : World) (k : Nat) (hk : k < Ls.length), Ls[k].length ≤ 1000 → RdT (lay t W Ls) (W.heap.size + Ls.length) (some ⟨W.heap.size + k, 0, none⟩) Ls[k].length (uOf Ls[k]) (pOf Ls[k]) Ls[k].length
  | [], W, k, hk, _ => by simp at hk
  | L :: r, W, k, hk, h => by
    rcases k with _ | k
    · exact ((RdT.lit W L h t).below (lay_bel t r _ _ (by rw [World.size_alloc]; omega))).more (by rw [List.length_cons]; omega)
    · have := lay_rd t r (W.alloc (.cells (flat L).toArray t)) k (by simpa using hk) h
      rw [World.size_alloc] at this
      rw [List.length_cons, show W.heap.size + (k + 1) = W.heap.size + 1 + k by omega, show W.heap.size + (r.length + 1) = W.heap.size + 1 + r.length by omega]
      exact this
def outer (s : Nat) : List Value := [.slice (some ⟨s, 0, none⟩) 0 0, .slice (some ⟨s + 1, 0, none⟩) 1 1, .slice (some ⟨s + 1 + 1, 0, none⟩) 3 3, .slice (some ⟨s + 1 + 1 + 1, 0, none⟩) 2 2, .slice (some ⟨s + 1 + 1 + 1 + 1, 0, none⟩) 1 1, .slice (some ⟨s + 1 + 1 + 1 + 1 + 1, 0, none⟩) 1 1, .slice (some ⟨s + 1 + 1 + 1 + 1 + 1 + 1, 0, none⟩) 2 2, .slice (some ⟨s + 1 + 1 + 1 + 1 + 1 + 1 + 1, 0, none⟩) 2 2, .slice (some ⟨s + 1 + 1 + 1 + 1 + 1 + 1 + 1 + 1, 0, none⟩) 5 5]
def ln (k : Nat) : Nat := (bads[k]?.getD []).length
theorem outer_at (s k : Nat) (hk : k < 9) : (outer s)[k]? = some (.slice (some ⟨s + k, 0, none⟩) (ln k) (ln k)) := by
  have : k = 0 ∨ k = 1 ∨ k = 2 ∨ k = 3 ∨ k = 4 ∨ k = 5 ∨ k = 6 ∨ k = 7 ∨ k = 8 := by omega
  rcases this with rfl | rfl | rfl | rfl | rfl | rfl | rfl | rfl | rfl <;> rfl
theorem bads_no (k : Nat) (hk : k < 9) : okB (uOf (bads[k]?.getD [])) (pOf (bads[k]?.getD [])) (ln k) = false ∧ ln k ≤ 1000 := by
  have : k = 0 ∨ k = 1 ∨ k = 2 ∨ k = 3 ∨ k = 4 ∨ k = 5 ∨ k = 6 ∨ k = 7 ∨ k = 8 := by omega
  rcases this with rfl | rfl | rfl | rfl | rfl | rfl | rfl | rfl | rfl <;> decide
/-- The world in which they lie. -/
def wBad (w : World) : World := (lay 27 w bads).alloc (.cells (outer w.heap.size).toArray 22)
theorem wBad_size (w : World) : (wBad w).heap.size = w.heap.size + 10 := by unfold wBad; rw [World.size_alloc, lay_size]; rfl
theorem wBad_bel (w : World) : Below w.heap.size w (wBad w) := (lay_bel _ _ _ _ (Nat.le_refl _)).alloc (by rw [lay_size]; omega) _
theorem wBad_cell (w : World) (k : Nat) (hk : k < 9) : (wBad w).cell? ⟨w.heap.size + 9, k, none⟩ = some (.slice (some ⟨w.heap.size + k, 0, none⟩) (ln k) (ln k)) := by
  have h := heap_alloc_new (lay 27 w bads) (.cells (outer w.heap.size).toArray 22)
  rw [lay_size, show bads.length = 9 from rfl] at h
  unfold wBad
  rw [cell_of_row _ _ _ _ _ _ h]
  simpa using outer_at w.heap.size k hk
theorem wBad_rd (w : World) (k : Nat) (hk : k < 9) : RdT (wBad w) (w.heap.size + 10) (some ⟨w.heap.size + k, 0, none⟩) (ln k) (uOf (bads[k]?.getD [])) (pOf (bads[k]?.getD [])) (ln k) := by
  have h := lay_rd 27 bads w k hk
  have e : bads[k]?.getD [] = bads[k] := by rw [List.getElem?_eq_getElem hk]; rfl
  unfold ln; rw [e]
  exact ((h (by have := (bads_no k hk).2; unfold ln at this; rwa [e] at this)).below ((Below.refl _ _).alloc (by rw [lay_size]; exact Nat.le_refl _) _)).more (by show w.heap.size + 9 ≤ _; omega)

set_option maxHeartbeats 2000000 in
theorem tiersKnown_walk (w : World) : Calls Try.prog 7 #[] w fun e w' => e = .returned (.bool true) ∧ Below w.heap.size w w' := by
  have CK := Lib.hid (fun W => known_any W)
  have C1 := Lib.hid (fun W => known_price 0 0 (by omega) (by omega) (by decide) (by decide) W)
  have C2 := Lib.hid (fun W => known_price 10 50 (by omega) (by omega) (by decide) (by decide) W)
  have C3 := Lib.hid (fun W => Price_no (some ⟨W.heap.size, 0, none⟩) 3 3 (uOf kT) (pOf kT) (-1) (W.alloc (.cells (flat kT).toArray 27 (0, 0))) (W.heap.size + 1) (known_rd W) (by simp) (.inl (by omega)))
  have C4 := Lib.hid (fun W => Price_any (some ⟨W.heap.size, 0, none⟩) 1 1 (uOf [(0, 1125899906842624)]) (pOf [(0, 1125899906842624)]) 1099511627776 (W.alloc (.cells (flat [(0, 1125899906842624)]).toArray 27 (0, 0))) (W.heap.size + 1) (RdT.lit W [(0, 1125899906842624)] (by decide) _) (by simp) (by omega))
  rw [show pca (okB (uOf [(0, 1125899906842624)]) (pOf [(0, 1125899906842624)]) 1) 1099511627776 (uOf [(0, 1125899906842624)]) (pOf [(0, 1125899906842624)]) 1 = 0 by decide, show pce (okB (uOf [(0, 1125899906842624)]) (pOf [(0, 1125899906842624)]) 1) 1099511627776 (uOf [(0, 1125899906842624)]) (pOf [(0, 1125899906842624)]) 1 = 30 by decide] at C4
  have G := Lib.hid (fun W => goes_any W)
  have B0 := Lib.hid (Below.refl w.heap.size w)
  go_enter Try.func7, Try.ntmps7
  go_wp2_with fail
  refine (CK.out _).mono ?_
  rintro e w' ⟨rfl, rfl⟩
  go_wp2_with fail
  refine (C1.out _).mono ?_
  rintro e w1 ⟨rfl, hb⟩
  have B1 := Lib.hid (B0.out.trans (hb.mono B0.out.size)); clear hb
  go_wp2_with fail
  refine (CK.out _).mono ?_
  rintro e w' ⟨rfl, rfl⟩
  go_wp2_with fail
  refine (C2.out _).mono ?_
  rintro e w2 ⟨rfl, hb⟩
  have B2 := Lib.hid (B1.out.trans (hb.mono B1.out.size)); clear hb
  go_wp2_with fail
  refine (CK.out _).mono ?_
  rintro e w' ⟨rfl, rfl⟩
  go_wp2_with fail
  refine (C3.out _).mono ?_
  rintro e w3 ⟨rfl, hb⟩
  have B3 := Lib.hid ((B2.out.alloc B2.out.size _).trans (hb.mono (Nat.le_trans B2.out.size (by simp)))); clear hb
  go_wp2_with fail
  refine (C4.out _).mono ?_
  rintro e w4 ⟨rfl, hb⟩
  have B4 := Lib.hid ((B3.out.alloc B3.out.size _).trans (hb.mono (Nat.le_trans B3.out.size (by simp)))); clear hb
  clear C1 C2 C3 C4 CK
  have C5 := Lib.hid (fun k (hk : k < 9) W (h : Below (w4.heap.size + 10) (wBad w4) W) => Check_any (some ⟨w4.heap.size + k, 0, none⟩) (ln k) (ln k) _ _ W (w4.heap.size + 10) ((wBad_rd w4 k hk).below h) (by have := h.size; rwa [wBad_size] at this))
  have D0 := Lib.hid (Below.refl (w4.heap.size + 10) (wBad w4))
  have C6 := Lib.hid (fun W => Check_any (some ⟨W.heap.size, 0, none⟩) 4 4 (uOf [(1, 0), (2, 0), (3, 0), (0, 0)]) (pOf [(1, 0), (2, 0), (3, 0), (0, 0)]) (W.alloc (.cells (flat [(1, 0), (2, 0), (3, 0), (0, 0)]).toArray 27 (0, 0))) (W.heap.size + 1) (RdT.lit W _ (by decide) _) (by simp))
  rw [show okB (uOf [(1, 0), (2, 0), (3, 0), (0, 0)]) (pOf [(1, 0), (2, 0), (3, 0), (0, 0)]) 4 = true by decide] at C6
  have C7 := Lib.hid (fun W => Spans_no none 0 0 (uOf kT) (pOf kT) 5 W W.heap.size (RdT.nil W _ _ _) (Nat.le_refl _) (.inr ⟨by omega, by decide⟩))
  have B5 := Lib.hid (fun W (h : Below (w4.heap.size + 10) (wBad w4) W) => (B4.out.trans ((wBad_bel w4).mono B4.out.size)).trans (h.mono (by have := B4.out.size; omega)))
  have HS := Lib.hid (fun W (h : Below (w4.heap.size + 10) (wBad w4) W) => (show w4.heap.size + 10 ≤ W.heap.size by have := h.size; rwa [wBad_size] at this))
  go_wp2_with fail
  go_loopw [10] (fun v wr => ∃ k : Nat, k ≤ 9 ∧ v = .int .i64 k ∧ Hid (Below (w4.heap.size + 10) (wBad w4) wr)) (fun v _ => 9 - (intOf v).toNat)
  · exact ⟨0, by omega, rfl, D0⟩
  · obtain ⟨k, hk, rfl, HX⟩ := hrel
    by_cases hkn : k < 9
    · have e1 : wr.cell? ⟨w4.heap.size + 1 + 1 + 1 + 1 + 1 + 1 + 1 + 1 + 1, k, none⟩ = _ := (HX.out.cell (p := ⟨w4.heap.size + 9, k, none⟩) (by show _ < _ + 10; simp)).trans (wBad_cell w4 k hkn)
      have C := Lib.hid (C5.out k hkn wr HX.out)
      rw [(bads_no k hkn).1] at C
      generalize ln k = L at *
      generalize w4.heap.size + k = bk at *
      clear C6 C7 C5
      go_wp2_with fail
      refine C.out.mono ?_
      rintro e w5 ⟨rfl, hb⟩
      have D1 := Lib.hid (HX.out.trans (hb.mono (HS.out _ HX.out))); clear hb
      go_wp2_with fail
      go_roundw
      case rel => exact ⟨k + 1, by omega, by go_num, D1⟩
      case measure => simp [intOf]; omega
    · obtain rfl : k = 9 := by omega
      have E0 := Lib.hid (B5.out _ HX.out)
      clear C5 B5 HS
      go_wp2_with fail
      refine (C6.out _).mono ?_
      rintro e w5 ⟨rfl, hb⟩
      have E1 := Lib.hid ((E0.out.alloc E0.out.size _).trans (hb.mono (Nat.le_trans E0.out.size (by simp)))); clear hb
      go_wp2_with fail
      refine (C7.out _).mono ?_
      rintro e w6 ⟨rfl, hb⟩
      have E2 := Lib.hid (E1.out.trans (hb.mono E1.out.size)); clear hb
      go_wp2_with fail
      refine (G.out _).mono ?_
      rintro e w7 ⟨rfl, hb⟩
      have E3 := Lib.hid (E2.out.trans (hb.mono E2.out.size)); clear hb
      go_wp2_with fail
      go_ret
      exact ⟨rfl, E3.out⟩
end Go.Proofs.Ythaleikmdoijbaa
