namespace Go.Proofs.Ytnaoodaadeimbaa.Ti
set_option linter.unusedVariables false
set_option linter.unusedSimpArgs false
/-! Tiers as data: u their Uptos, p their Prices, m how many. No program. -/

/-- What the tier ahead ends at. -/
def prv (u : Nat → Int) (k : Nat) : Int := if k = 0 then 0 else u (k - 1)
theorem prv_zero (u : Nat → Int) : prv u 0 = 0 := rfl
theorem prv_succ (u : Nat → Int) (k : Nat) : prv u (k + 1) = u k := by unfold prv; simp
def riseB (u : Nat → Int) (m : Nat) : Bool := decide (∀ k, k < m → prv u k < u k ∧ u k ≤ 1099511627776)
def prcB (p : Nat → Int) (m : Nat) : Bool := decide (∀ k, k < m → 0 ≤ p k ∧ p k ≤ 1125899906842624)
/-- Tiers that may be. -/
structure Ok (u p : Nat → Int) (m : Nat) : Prop where
  m1 : 1 ≤ m
  m4 : m ≤ 4
  rise : ∀ k, k < m - 1 → prv u k < u k ∧ u k ≤ 1099511627776
  last : u (m - 1) = 0
  prc : ∀ k, k < m → 0 ≤ p k ∧ p k ≤ 1125899906842624
def okB (u p : Nat → Int) (m : Nat) : Bool := decide (1 ≤ m ∧ m ≤ 4) && ((riseB u (m - 1) && decide (u (m - 1) = 0)) && prcB p m)
theorem okB_iff {u p : Nat → Int} {m : Nat} : okB u p m = true ↔ Ok u p m := by
  unfold okB riseB prcB
  simp only [Bool.and_eq_true, decide_eq_true_eq]
  exact ⟨fun ⟨⟨a, b⟩, ⟨c, d⟩, e⟩ => ⟨a, b, c, d, e⟩, fun h => ⟨⟨h.m1, h.m4⟩, ⟨h.rise, h.last⟩, h.prc⟩⟩
theorem okB_not {u p : Nat → Int} {m : Nat} (h : okB u p m = false) : ¬ Ok u p m := fun k => by rw [okB_iff.2 k] at h; cases h

/-- Where the units of a tier that ends at x end, of n. -/
def en (n x : Int) : Int := if x = 0 then n else if n ≤ x then n else x
/-- How many units are priced ahead of tier k. -/
def ahd (n : Int) (u : Nat → Int) (k : Nat) : Int := if k = 0 then 0 else en n (u (k - 1))
theorem ahd_zero (n : Int) (u : Nat → Int) : ahd n u 0 = 0 := rfl
theorem ahd_succ (n : Int) (u : Nat → Int) (k : Nat) : ahd n u (k + 1) = en n (u k) := by unfold ahd; simp
def spn (n : Int) (u : Nat → Int) (k : Nat) : Int := en n (u k) - ahd n u k
/-- What the first k tiers' units cost. -/
def cst (n : Int) (u p : Nat → Int) : Nat → Int
  | 0 => 0
  | k + 1 => cst n u p k + p k * spn n u k
/-- Tier k prices the unit of number n, if no tier ahead does. -/
def Hit (n : Int) (u : Nat → Int) (k : Nat) : Prop := u k = 0 ∨ n ≤ u k
instance (n : Int) (u : Nat → Int) (k : Nat) : Decidable (Hit n u k) := inferInstanceAs (Decidable (_ ∨ _))
/-- The price of the unit of number n, looked for from tier k on, r tiers being left. -/
def att (u p : Nat → Int) (n : Int) : Nat → Nat → Int
  | _, 0 => 0
  | k, r + 1 => if Hit n u k then p k else att u p n (k + 1) r

section
variable {u p : Nat → Int} {m : Nat}
theorem Ok.pos (h : Ok u p m) {k : Nat} (hk : k < m - 1) : 0 < u k := by
  induction k with
  | zero => have := (h.rise 0 hk).1; rwa [prv_zero] at this
  | succ k ih => have := (h.rise (k + 1) hk).1; rw [prv_succ] at this; have := ih (by omega); omega
theorem Ok.prv0 (h : Ok u p m) {k : Nat} (hk : k < m) : 0 ≤ prv u k := by
  rcases k with _ | k
  · rw [prv_zero]; omega
  · rw [prv_succ]; have := h.pos (k := k) (by omega); omega
theorem Ok.zero (h : Ok u p m) {k : Nat} (hk : k < m) (h0 : u k = 0) : k = m - 1 := by
  rcases Nat.lt_or_ge k (m - 1) with x | x
  · have := h.pos x; omega
  · omega
theorem Ok.bd (h : Ok u p m) {k : Nat} (hk : k < m) : 0 ≤ u k ∧ u k ≤ 1099511627776 := by
  rcases Nat.lt_or_ge k (m - 1) with x | x
  · have := h.pos x; have := (h.rise k x).2; omega
  · rw [show k = m - 1 by omega, h.last]; omega
/-- Uptos ahead are less. -/
theorem Ok.le (h : Ok u p m) {j k : Nat} (hjk : j < k) (hk : k < m) : u j ≤ prv u k := by
  induction k with
  | zero => omega
  | succ k ih =>
    rw [prv_succ]
    rcases Nat.lt_or_eq_of_le (Nat.le_of_lt_succ hjk) with x | rfl
    · have := ih x (by omega); have := (h.rise k (by omega)).1; omega
    · omega
theorem Ok.ahd_eq (h : Ok u p m) {n : Int} (hn : 0 ≤ n) {k : Nat} (hk : k < m) : ahd n u k = if n ≤ prv u k then n else prv u k := by
  rcases k with _ | k
  · rw [prv_zero, ahd_zero]; split <;> omega
  · rw [ahd_succ, prv_succ]; unfold en
    have := h.pos (k := k) (by omega)
    rw [if_neg (by omega)]
theorem Ok.ahd_bd (h : Ok u p m) {n : Int} (hn : 0 ≤ n) {k : Nat} (hk : k ≤ m) : 0 ≤ ahd n u k ∧ ahd n u k ≤ n := by
  rcases k with _ | k
  · rw [ahd_zero]; omega
  · rw [ahd_succ]; unfold en
    have := h.bd (k := k) (by omega)
    split
    · omega
    · split <;> omega
theorem Ok.spn_bd (h : Ok u p m) {n : Int} (hn : 0 ≤ n) {k : Nat} (hk : k < m) : 0 ≤ spn n u k ∧ spn n u k ≤ n := by
  have h1 := h.ahd_eq hn hk
  have h2 := h.prv0 hk
  have h4 := h.bd hk
  unfold spn
  rcases Nat.lt_or_ge k (m - 1) with x | x
  · have h3 := (h.rise k x).1
    rw [h1]; unfold en
    rw [if_neg (by omega)]
    split <;> split <;> omega
  · rw [show u k = 0 by rw [show k = m - 1 by omega, h.last], h1]; unfold en
    rw [if_pos rfl]; split <;> omega
theorem Ok.all (h : Ok u p m) (n : Int) : ahd n u m = n := by
  obtain ⟨k, rfl⟩ : ∃ k, m = k + 1 := ⟨m - 1, by have := h.m1; omega⟩
  have := h.last
  rw [Nat.add_sub_cancel] at this
  rw [ahd_succ, this]; unfold en; rw [if_pos rfl]
theorem Ok.part (h : Ok u p m) {n : Int} (hn : 0 ≤ n) {k : Nat} (hk : k < m) : 0 ≤ p k * spn n u k := Int.mul_nonneg (h.prc k hk).1 (h.spn_bd hn hk).1
theorem Ok.cst_le (h : Ok u p m) {n : Int} (hn : 0 ≤ n) {k : Nat} (hk : k ≤ m) : ∀ j, j ≤ k → cst n u p j ≤ cst n u p k := by
  induction k with
  | zero => intro j hj; rw [show j = 0 by omega]; omega
  | succ k ih =>
    intro j hj
    rcases Nat.lt_or_eq_of_le hj with x | rfl
    · have := ih (by omega) j (by omega)
      have := h.part hn (k := k) (by omega)
      show _ ≤ cst n u p k + p k * spn n u k
      omega
    · omega
theorem Ok.cst0 (h : Ok u p m) {n : Int} (hn : 0 ≤ n) {k : Nat} (hk : k ≤ m) : 0 ≤ cst n u p k := h.cst_le hn hk 0 (by omega)
theorem Ok.part_le (h : Ok u p m) {n : Int} (hn : 0 ≤ n) {k : Nat} (hk : k < m) : p k * spn n u k ≤ cst n u p m := by
  have a := h.cst_le hn (Nat.le_refl m) (k + 1) (by omega)
  have b := h.cst0 hn (k := k) (by omega)
  have : cst n u p (k + 1) = cst n u p k + p k * spn n u k := rfl
  omega
theorem att_hit {n : Int} {j : Nat} : ∀ r k, k ≤ j → j < k + r → (∀ i, k ≤ i → i < j → ¬ Hit n u i) → Hit n u j → att u p n k r = p j := by
  intro r
  induction r with
  | zero => intro k h1 h2; omega
  | succ r ih =>
    intro k h1 h2 h3 h4
    unfold att
    rcases Nat.lt_or_eq_of_le h1 with x | rfl
    · rw [if_neg (h3 k (by omega) x)]
      exact ih (k + 1) x (by omega) (fun i a b => h3 i (by omega) b) h4
    · rw [if_pos h4]
/-- The last unit of a tier that prices any. -/
theorem Ok.att_end (h : Ok u p m) {n : Int} (hn : 0 ≤ n) {k : Nat} (hk : k < m) (hd : ahd n u k < n) : att u p (en n (u k)) 0 m = p k := by
  have h1 := h.ahd_eq hn hk
  have hp := h.prv0 hk
  have h5 : ¬ n ≤ prv u k := by intro c; rw [if_pos c] at h1; omega
  have hb := h.bd hk
  refine att_hit m 0 (by omega) (by omega) ?_ ?_
  · intro i _ hi
    have a := h.le hi hk
    have b := h.pos (k := i) (by omega)
    unfold Hit en
    rcases Nat.lt_or_ge k (m - 1) with x | x
    · have h3 := (h.rise k x).1
      rw [if_neg (by omega)]
      split <;> omega
    · rw [show u k = 0 by rw [show k = m - 1 by omega, h.last], if_pos rfl]; omega
  · unfold Hit en
    split
    · exact .inl ‹_›
    · split <;> omega
theorem en_next (n x : Int) (hx : 0 ≤ x) : en (n + 1) x = en n x + if x = 0 ∨ n + 1 ≤ x then 1 else 0 := by
  unfold en
  by_cases h : x = 0
  · rw [if_pos h, if_pos h, if_pos (.inl h)]
  · rw [if_neg h, if_neg h]
    by_cases a : n + 1 ≤ x
    · rw [if_pos a, if_pos (by omega), if_pos (.inr a)]
    · rw [if_neg a, if_neg (show ¬ (x = 0 ∨ n + 1 ≤ x) by omega)]
      by_cases b : n ≤ x
      · rw [if_pos b]; omega
      · rw [if_neg b]; omega
/-- One unit more: what it costs. -/
theorem Ok.next (h : Ok u p m) {n : Int} (hn : 0 ≤ n) : cst (n + 1) u p m = cst n u p m + att u p (n + 1) 0 m := by
  have key : ∀ k, k ≤ m → ((∀ j, j < k → ¬ Hit (n + 1) u j) ∧ cst (n + 1) u p k = cst n u p k) ∨ (∃ j, j < k ∧ (∀ i, i < j → ¬ Hit (n + 1) u i) ∧ Hit (n + 1) u j ∧ (∀ i, j ≤ i → i < k → Hit (n + 1) u i) ∧ cst (n + 1) u p k = cst n u p k + p j) := by
    intro k
    induction k with
    | zero => intro _; exact .inl ⟨fun j hj => by omega, rfl⟩
    | succ k ih =>
      intro hk
      have hb := h.bd (k := k) (by omega)
      have e1 : (Hit (n + 1) u k → en (n + 1) (u k) = en n (u k) + 1) ∧ (¬ Hit (n + 1) u k → en (n + 1) (u k) = en n (u k)) := by
        have := en_next n (u k) hb.1
        unfold Hit
        exact ⟨fun c => by rw [this, if_pos c], fun c => by rw [this, if_neg c]; omega⟩
      have ea : ahd (n + 1) u k = ahd n u k + if k ≠ 0 ∧ Hit (n + 1) u (k - 1) then 1 else 0 := by
        rcases k with _ | k
        · rw [ahd_zero, ahd_zero, if_neg (by simp)]; rfl
        · rw [ahd_succ, ahd_succ, en_next n (u k) (h.bd (k := k) (by omega)).1]
          simp [Hit]
      show _ ∨ (∃ j, _ ∧ _ ∧ _ ∧ _ ∧ cst (n + 1) u p k + p k * spn (n + 1) u k = cst n u p k + p k * spn n u k + p j)
      have ec : cst (n + 1) u p (k + 1) = cst (n + 1) u p k + p k * spn (n + 1) u k := rfl
      have ed : cst n u p (k + 1) = cst n u p k + p k * spn n u k := rfl
      rcases ih (by omega) with ⟨i1, i2⟩ | ⟨j, j1, j2, j3, j4, j5⟩
      · have ez : ahd (n + 1) u k = ahd n u k := by
          rw [ea, if_neg (by intro c; exact i1 (k - 1) (by omega) c.2)]; omega
        by_cases hh : Hit (n + 1) u k
        · refine .inr ⟨k, by omega, i1, hh, fun i a b => by rw [show i = k by omega]; exact hh, ?_⟩
          have es : spn (n + 1) u k = spn n u k + 1 := by
            unfold spn; rw [ez, e1.1 hh]; omega
          rw [i2, es, Int.mul_add]; omega
        · refine .inl ⟨fun j hj => ?_, ?_⟩
          · rcases Nat.lt_or_eq_of_le (Nat.le_of_lt_succ hj) with x | rfl
            · exact i1 j x
            · exact hh
          · have es : spn (n + 1) u k = spn n u k := by
              unfold spn; rw [ez, e1.2 hh]
            rw [ec, ed, i2, es]
      · have hh : Hit (n + 1) u k := by
          rcases Nat.lt_or_ge k (m - 1) with x | x
          · have a := j4 (k - 1) (by omega) (by omega)
            have b := (h.rise k x).1
            have c := h.pos (k := k - 1) (by omega)
            have d : prv u k = u (k - 1) := by unfold prv; rw [if_neg (by omega)]
            unfold Hit at a ⊢; omega
          · exact .inl (by rw [show k = m - 1 by omega, h.last])
        refine .inr ⟨j, by omega, j2, j3, fun i a b => ?_, ?_⟩
        · rcases Nat.lt_or_eq_of_le (Nat.le_of_lt_succ b) with x | rfl
          · exact j4 i a x
          · exact hh
        · have es : spn (n + 1) u k = spn n u k := by
            unfold spn; rw [ea, e1.1 hh, if_pos ⟨by omega, j4 (k - 1) (by omega) (by omega)⟩]; omega
          rw [j5, es]; omega
  rcases key m (Nat.le_refl m) with ⟨i1, _⟩ | ⟨j, j1, j2, j3, _, j5⟩
  · exact absurd (.inl h.last) (i1 (m - 1) (by have := h.m1; omega))
  · rw [j5, att_hit (j := j) m 0 (by omega) (by omega) (fun i _ => j2 i) j3]
theorem Ok.cst_nought (h : Ok u p m) : ∀ k, k ≤ m → cst 0 u p k = 0 := by
  intro k
  induction k with
  | zero => intro _; rfl
  | succ k ih =>
    intro hk
    have a := h.spn_bd (n := 0) (by omega) (k := k) (by omega)
    have : spn 0 u k = 0 := by omega
    show cst 0 u p k + p k * spn 0 u k = 0
    rw [ih (by omega), this]; omega
/-- Beyond what there is, tiers price nothing. -/
theorem Ok.full (h : Ok u p m) {n : Int} (hn : 0 ≤ n) {k : Nat} (hd : n ≤ ahd n u k) : ∀ j, k ≤ j → j ≤ m → cst n u p j = cst n u p k ∧ n ≤ ahd n u j := by
  intro j
  induction j with
  | zero => intro a b; rw [show k = 0 by omega] at hd ⊢; exact ⟨rfl, hd⟩
  | succ j ih =>
    intro a b
    rcases Nat.lt_or_eq_of_le a with x | rfl
    · obtain ⟨c, d⟩ := ih (by omega) (by omega)
      have s := h.spn_bd hn (k := j) (by omega)
      have q := h.ahd_bd hn (k := j + 1) b
      have q1 := h.ahd_bd hn (k := j) (by omega)
      have e : spn n u j = ahd n u (j + 1) - ahd n u j := by rw [ahd_succ]; rfl
      have : spn n u j = 0 := by omega
      refine ⟨?_, by omega⟩
      show cst n u p j + p j * spn n u j = _
      rw [this, c]; omega
    · exact ⟨rfl, hd⟩
end
end Go.Proofs.Ytnaoodaadeimbaa.Ti
