import Derived.Test.YthaleikmdoijbaaTi5
namespace Go.Proofs.Ythaleikmdoijbaa.Ti
set_option linter.unusedVariables false
set_option linter.unusedSimpArgs false
set_option maxRecDepth 8000
open Go.RowKit Mem Mo

/-- Price, whatever it is asked of. -/
theorem Price_any (A : Option Addr) (c m : Nat) (u p : Nat → Int) (n : Int) (w : World) (B : Nat) (hr : RdT w B A c u p m) (hB : B ≤ w.heap.size) (hn1 : n ≤ 9223372036854775807) :
    Calls Try.prog 8 #[.slice A m c, .int .i64 n] w fun e w' => e = .returned (.tuple #[.int .i64 (pca (okB u p m) n u p m), .int .i64 (pce (okB u p m) n u p m)]) ∧ Below w.heap.size w w' := by
  unfold pca pce
  rcases Int.lt_or_le n 0 with h | h
  · rw [show (okB u p m && decide (0 ≤ n)) = false by simp; omega]
    exact Price_no A c m u p n w B hr hB (.inl h)
  · cases ho : okB u p m with
    | false => exact Price_no A c m u p n w B hr hB (.inr ⟨h, ho⟩)
    | true =>
      rw [show (true && decide (0 ≤ n)) = true by simp; omega]
      exact Price_yes A c m u p n w B hr hB (okB_iff.1 ho) h hn1

/-! Rows written down. -/
def uOf (L : List (Int × Int)) (k : Nat) : Int := (L[k]?.getD (0, 0)).1
def pOf (L : List (Int × Int)) (k : Nat) : Int := (L[k]?.getD (0, 0)).2
def flat (L : List (Int × Int)) : List Value := L.flatMap fun t => [.int .i64 t.1, .int .i64 t.2]
theorem length_flat (L : List (Int × Int)) : (flat L).length = L.length * 2 := by
  induction L with
  | nil => rfl
  | cons t l ih => simp only [flat, List.flatMap_cons, List.length_append, List.length_cons, List.length_nil] at ih ⊢; omega
theorem flat_at (L : List (Int × Int)) : ∀ k, k < L.length → (flat L)[k * 2]? = some (.int .i64 (uOf L k)) ∧ (flat L)[k * 2 + 1]? = some (.int .i64 (pOf L k)) := by
  induction L with
  | nil => intro k hk; simp at hk
  | cons t l ih =>
    intro k hk
    have e : flat (t :: l) = .int .i64 t.1 :: .int .i64 t.2 :: flat l := rfl
    rw [e]
    rcases k with _ | k
    · exact ⟨rfl, rfl⟩
    · obtain ⟨a, b⟩ := ih k (by simpa using hk)
      rw [show (k + 1) * 2 = k * 2 + 1 + 1 by omega]
      simp only [List.getElem?_cons_succ]
      exact ⟨a, b⟩
theorem RdT.lit (W : World) (L : List (Int × Int)) (h : L.length ≤ 1000) (t : TypeId) (fr : Nat × Nat := (0, 0)) : RdT (W.alloc (.cells (flat L).toArray t fr)) (W.heap.size + 1) (some ⟨W.heap.size, 0, none⟩) L.length (uOf L) (pOf L) L.length := by
  refine ⟨Nat.le_refl _, by unfold maxLen; omega, fun hp => ⟨W.heap.size, 0, rfl, by omega, fun k hk => ?_⟩⟩
  obtain ⟨a, b⟩ := flat_at L k hk
  constructor
  · rw [cell_of_row _ _ _ _ _ _ (heap_alloc_new W _)]; simpa using a
  · rw [cell_of_row _ _ _ _ _ _ (heap_alloc_new W _)]; simpa using b
theorem RdT.nil (w : World) (B : Nat) (u p : Nat → Int) : RdT w B none 0 u p 0 := ⟨Nat.le_refl _, by unfold maxLen; omega, fun h => by omega⟩

/-- The example's tiers. -/
def kT : List (Int × Int) := [(10, 5), (100, 3), (0, 1)]
set_option maxHeartbeats 400000 in
theorem known_any (w : World) : Calls Try.prog 18 #[] w fun e w' => e = .returned (.slice (some ⟨w.heap.size, 0, none⟩) 3 3) ∧ w' = w.alloc (.cells (flat kT).toArray 27 (0, 0)) := by
  go_enter Try.func18, Try.ntmps18
  go_wp2_with fail
  go_ret
  exact ⟨rfl, rfl⟩
theorem known_rd (w : World) : RdT (w.alloc (.cells (flat kT).toArray 27 (0, 0))) (w.heap.size + 1) (some ⟨w.heap.size, 0, none⟩) 3 (uOf kT) (pOf kT) 3 := RdT.lit w kT (by decide) _
theorem kT_ok : okB (uOf kT) (pOf kT) 3 = true := by decide
theorem kT_spans : spL 12 (uOf kT) (List.finRange 3) = [10, 2, 0] := by decide
/-- Price of the example's tiers. -/
theorem known_price (n v : Int) (h0 : 0 ≤ n) (h1 : n ≤ 9223372036854775807) (hv : cst n (uOf kT) (pOf kT) 3 = v) (hi : isn v = true) (w : World) :
    Calls Try.prog 8 #[.slice (some ⟨w.heap.size, 0, none⟩) 3 3, .int .i64 n] (w.alloc (.cells (flat kT).toArray 27 (0, 0))) fun e w' => e = .returned (.tuple #[.int .i64 v, .int .i64 0]) ∧ Below w.heap.size w w' := by
  have C := Price_yes (some ⟨w.heap.size, 0, none⟩) 3 3 (uOf kT) (pOf kT) n (w.alloc (.cells (flat kT).toArray 27 (0, 0))) (w.heap.size + 1) (known_rd w) (by simp) (okB_iff.1 kT_ok) h0 h1
  rw [hv, na_t hi, ne_t hi] at C
  exact C.mono fun e w' ⟨a, b⟩ => ⟨a, ((Below.refl _ _).alloc (Nat.le_refl _) _).trans (b.mono (by simp))⟩

set_option maxHeartbeats 1000000 in
theorem goes_any (w : World) : Calls Try.prog 12 #[] w fun e w' => e = .returned (.bool true) ∧ Below w.heap.size w w' := by
  have CK := Lib.hid (fun W => known_any W)
  have C1 := Lib.hid (fun W => known_price 12 56 (by omega) (by omega) (by decide) (by decide) W)
  have C2 := Lib.hid (fun W => known_price 1000 1220 (by omega) (by omega) (by decide) (by decide) W)
  have C3 := Lib.hid (fun W => Spans_yes (some ⟨W.heap.size, 0, none⟩) 3 3 (uOf kT) (pOf kT) 12 (W.alloc (.cells (flat kT).toArray 27 (0, 0))) (W.heap.size + 1) (known_rd W) (by simp) (okB_iff.1 kT_ok) (by omega) (by omega))
  rw [kT_spans] at C3
  have C4 := Lib.hid (fun W => Check_any none 0 0 (uOf kT) (pOf kT) W W.heap.size (RdT.nil W _ _ _) (Nat.le_refl _))
  rw [show okB (uOf kT) (pOf kT) 0 = false by decide] at C4
  have B0 := Lib.hid (Below.refl w.heap.size w)
  go_enter Try.func12, Try.ntmps12
  go_wp2_with fail
  refine (CK.out _).mono ?_
  rintro e w' ⟨rfl, rfl⟩
  go_wp2_with fail
  refine (C1.out _).mono ?_
  rintro e w1 ⟨rfl, hb⟩
  have B1 := Lib.hid (B0.out.trans (hb.mono B0.out.size)); clear hb
  go_wp2_with fail
  refine (CK.out _).mono ?_
  rintro e w' ⟨rfl, rfl⟩
  go_wp2_with fail
  refine (C2.out _).mono ?_
  rintro e w2 ⟨rfl, hb⟩
  have B2 := Lib.hid (B1.out.trans (hb.mono B1.out.size)); clear hb
  go_wp2_with fail
  refine (CK.out _).mono ?_
  rintro e w' ⟨rfl, rfl⟩
  go_wp2_with fail
  refine (C3.out _).mono ?_
  rintro e w3 ⟨v, rfl, ho, hb⟩
  have B3 := Lib.hid ((B2.out.alloc B2.out.size _).trans (hb.mono (Nat.le_trans B2.out.size (by simp)))); clear hb
  obtain ⟨A, c, rfl, hr, _⟩ := ho.form
  obtain ⟨b, o, rfl, hb, hc⟩ := hr.2.2.2 (by simp)
  have hc3 : 3 ≤ c := hr.1
  have d0 := hc 0 (by simp)
  have d1 := hc 1 (by simp)
  have d2 := hc 2 (by simp)
  simp only [List.getElem_cons_zero, List.getElem_cons_succ, Nat.add_zero] at d0 d1 d2
  clear ho hr hc
  go_wp2_with fail
  refine (C4.out _).mono ?_
  rintro e w4 ⟨rfl, hb4⟩
  have B4 := Lib.hid (B3.out.trans (hb4.mono B3.out.size)); clear hb4
  go_wp2_with fail
  go_ret
  exact ⟨rfl, B4.out⟩
end Go.Proofs.Ythaleikmdoijbaa.Ti
