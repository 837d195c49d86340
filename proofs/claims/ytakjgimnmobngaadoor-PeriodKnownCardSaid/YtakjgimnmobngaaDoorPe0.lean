import Derived.Test.YtakjgimnmobngaaDoorCi0
namespace Go.Proofs.YtakjgimnmobngaaDoor.Ci
/-! Times, shifts, months of days as data: no program. -/

/-- The number of a month's first day. -/
def fst (q : Int) : Int := ny (q / 12) + cum (q / 12) (q % 12).toNat
theorem fst_ym {y m : Int} (h3 : 1 ≤ m) (h4 : m ≤ 12) : fst (12 * y + m - 1) = num y m 1 := by
  unfold fst num
  rw [show (12 * y + m - 1) / 12 = y by omega, show (12 * y + m - 1) % 12 = m - 1 by omega]; omega
theorem fst_succ {q : Int} (h1 : 12 ≤ q) (h2 : q ≤ 119999) : fst (q + 1) = fst q + lenM q := by
  have e := lenM_in h1 h2
  rw [e]
  unfold fst
  by_cases h : q % 12 = 11
  · rw [show (q + 1) / 12 = q / 12 + 1 by omega, show ((q + 1) % 12).toNat = 0 by omega, show (q % 12).toNat = 11 by omega, h]
    have a := ny_succ (q / 12); have b := cum_12 (q / 12)
    have c : cum (q / 12) 12 = cum (q / 12) 11 + long (q / 12) (11 + 1) := rfl
    have d : cum (q / 12 + 1) 0 = 0 := rfl
    omega
  · rw [show (q + 1) / 12 = q / 12 by omega, show ((q + 1) % 12).toNat = (q % 12).toNat + 1 by omega, cum_succ]
    rw [show (((q % 12).toNat : Nat) : Int) = q % 12 by omega]; omega
theorem lenM_lo {q : Int} (h1 : 12 ≤ q) (h2 : q ≤ 119999) : 28 ≤ lenM q := by
  rw [lenM_in h1 h2]; exact (long_bd _ _).1
theorem fst_add {q : Int} (h1 : 12 ≤ q) (k : Nat) (h2 : q + k ≤ 119999) : fst q + lenM q ≤ fst (q + k + 1) := by
  induction k with
  | zero => rw [← fst_succ h1 (by omega)]; simp
  | succ k ih =>
    have a := ih (by omega)
    have b := fst_succ (q := q + k + 1) (by omega) (by omega)
    have c := lenM_lo (q := q + k + 1) (by omega) (by omega)
    rw [show q + ((k + 1 : Nat) : Int) + 1 = q + k + 1 + 1 by omega]; omega
theorem fst_lt {q q' : Int} (h1 : 12 ≤ q) (h : q < q') (h2 : q' ≤ 120000) : fst q + lenM q ≤ fst q' := by
  have := fst_add h1 (q' - q - 1).toNat (by omega)
  rw [show q + ((q' - q - 1).toNat : Int) + 1 = q' by omega] at this; exact this
theorem fst_bd {q : Int} (h1 : 12 ≤ q) (h2 : q ≤ 119999) : -719528 ≤ fst q ∧ fst q ≤ 2933300 := by
  have a := ny_bd (y := q / 12) (by omega) (by omega)
  have b := cum_bd (q / 12) (k := (q % 12).toNat) (by omega)
  unfold fst; omega
/-- q is the number of the month of day z. -/
structure IsM (q z : Int) : Prop where
  lo : 12 ≤ q
  hi : q ≤ 119999
  le : fst q ≤ z
  lt : z < fst q + lenM q
theorem IsM.mono {q q' z z' : Int} (h : IsM q z) (h' : IsM q' z') (hz : z ≤ z') : q ≤ q' := by
  rcases Int.lt_or_le q' q with k | k
  · have a := fst_lt h'.lo k (by have := h.hi; omega)
    have b := h.le; have c := h'.lt; omega
  · exact k
theorem IsM.uniq {q q' z : Int} (h : IsM q z) (h' : IsM q' z) : q = q' := by
  have a := h.mono h' (Int.le_refl _); have b := h'.mono h (Int.le_refl _); omega
theorem isM_of {y m d z : Int} (h : vldB y m d = true) (hn : num y m d = z) : IsM (12 * y + m - 1) z := by
  obtain ⟨h1, h2, h3, h4, h5, h6⟩ := vld_of h
  have a := fst_ym (y := y) h3 h4
  have b := lenM_ym h1 h2 h3 h4
  have c : num y m d = num y m 1 + d - 1 := by unfold num; omega
  exact ⟨by omega, by omega, by omega, by omega⟩
theorem isM_has {z : Int} (h1 : -719162 ≤ z) (h2 : z ≤ 2932896) : ∃ q, IsM q z := by
  obtain ⟨y, m, d, h, hn⟩ := num_has h1 h2
  exact ⟨_, isM_of h hn⟩
/-- The month of a day from -1 on (times have no other) has a next one, and lies behind the year 1969's eleventh. -/
theorem IsM.next {q z : Int} (h : IsM q z) (h2 : z ≤ 1590729) : q + 1 ≤ 119999 := by
  have e : fst 119988 = 2932532 := by decide
  rcases Int.lt_or_le q 119988 with k | k
  · omega
  · exfalso
    rcases Int.lt_or_eq_of_le k with k | rfl
    · have a := fst_lt (q := 119988) (by omega) k (by have := h.hi; omega)
      have b := lenM_lo (q := 119988) (by omega) (by omega)
      have := h.le; omega
    · have := h.le; omega

def shB (s : Int) : Bool := decide (-50400 ≤ s ∧ s ≤ 50400 ∧ s % 900 = 0)
theorem sh_mk {s : Int} (h : -50400 ≤ s ∧ s ≤ 50400 ∧ s % 900 = 0) : shB s = true := by simpa [shB] using h
theorem sh_of {s : Int} (h : shB s = true) : -50400 ≤ s ∧ s ≤ 50400 ∧ s % 900 = 0 := by simpa [shB] using h
theorem sh_no {s : Int} (h : shB s = false) : ¬ (-50400 ≤ s ∧ s ≤ 50400 ∧ s % 900 = 0) := by
  intro k; rw [sh_mk k] at h; cases h
def dayN (t s : Int) : Int := (t + s) / 86400
theorem dayN_bd {t s : Int} (h1 : 0 ≤ t) (h2 : t ≤ 137438953472) (h : shB s = true) : -1 ≤ dayN t s ∧ dayN t s ≤ 1590729 := by
  obtain ⟨a, b, _⟩ := sh_of h
  unfold dayN; omega
end Go.Proofs.YtakjgimnmobngaaDoor.Ci
