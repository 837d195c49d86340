import Derived.Lib.ItoaNum
import Derived.Lib.Atoi
namespace Go.Proofs.YtakjgimnmobngaaDoor.Ci
/-! Dates as data: no program. -/

def leapB (y : Int) : Bool := y % 4 == 0 && (y % 100 != 0 || y % 400 == 0)
theorem leap_iff (y : Int) : leapB y = true ↔ (y % 4 = 0 ∧ (y % 100 ≠ 0 ∨ y % 400 = 0)) := by
  simp [leapB]
/-- How many days month m (1 to 12) of year y has. -/
def long (y m : Int) : Int := if m = 2 then (if leapB y = true then 29 else 28) else if m = 4 ∨ m = 6 ∨ m = 9 ∨ m = 11 then 30 else 31
theorem long_bd (y m : Int) : 28 ≤ long y m ∧ long y m ≤ 31 := by unfold long; repeat' split <;> omega
/-- How many days month number q has; 0: there is none. -/
def lenM (q : Int) : Int := if 12 ≤ q ∧ q ≤ 119999 then long (q / 12) (q % 12 + 1) else 0
theorem lenM_bd (q : Int) : 0 ≤ lenM q ∧ lenM q ≤ 31 := by unfold lenM; have := long_bd (q / 12) (q % 12 + 1); split <;> omega
theorem lenM_in {q : Int} (h1 : 12 ≤ q) (h2 : q ≤ 119999) : lenM q = long (q / 12) (q % 12 + 1) := by unfold lenM; rw [if_pos ⟨h1, h2⟩]
theorem lenM_out {q : Int} (h : q < 12 ∨ 119999 < q) : lenM q = 0 := by unfold lenM; rw [if_neg (by omega)]
theorem lenM_ym {y m : Int} (h1 : 1 ≤ y) (h2 : y ≤ 9999) (h3 : 1 ≤ m) (h4 : m ≤ 12) : lenM (12 * y + m - 1) = long y m := by
  rw [lenM_in (by omega) (by omega), show (12 * y + m - 1) / 12 = y by omega, show (12 * y + m - 1) % 12 + 1 = m by omega]
def vldB (y m d : Int) : Bool := decide (1 ≤ y ∧ y ≤ 9999 ∧ 1 ≤ m ∧ m ≤ 12 ∧ 1 ≤ d ∧ d ≤ long y m)
theorem vld_mk {y m d : Int} (h : 1 ≤ y ∧ y ≤ 9999 ∧ 1 ≤ m ∧ m ≤ 12 ∧ 1 ≤ d ∧ d ≤ long y m) : vldB y m d = true := by simpa [vldB] using h
theorem vld_of {y m d : Int} (h : vldB y m d = true) : 1 ≤ y ∧ y ≤ 9999 ∧ 1 ≤ m ∧ m ≤ 12 ∧ 1 ≤ d ∧ d ≤ long y m := by simpa [vldB] using h
theorem vld_no {y m d : Int} (h : vldB y m d = false) : ¬ (1 ≤ y ∧ y ≤ 9999 ∧ 1 ≤ m ∧ m ≤ 12 ∧ 1 ≤ d ∧ d ≤ long y m) := by
  intro k; rw [vld_mk k] at h; cases h
/-- The number of the first day of a year. -/
def ny (y : Int) : Int := 365 * (y - 1) - 719162 + (y - 1) / 4 - (y - 1) / 100 + (y - 1) / 400
def days (y : Int) : Int := if leapB y = true then 366 else 365
theorem days_bd (y : Int) : 365 ≤ days y ∧ days y ≤ 366 := by unfold days; split <;> omega
theorem ny_succ (y : Int) : ny (y + 1) = ny y + days y := by
  unfold ny days
  have h := leap_iff y
  by_cases hl : leapB y = true
  · rw [if_pos hl]; rw [hl] at h; have := h.1 rfl; omega
  · rw [if_neg hl]; have : ¬ (y % 4 = 0 ∧ (y % 100 ≠ 0 ∨ y % 400 = 0)) := fun k => hl (h.2 k)
    omega
theorem ny_add (y : Int) (k : Nat) : ny y + 365 * k ≤ ny (y + k) ∧ ny (y + k) ≤ ny y + 366 * k := by
  induction k with
  | zero => simp
  | succ k ih =>
    have h := ny_succ (y + k); have d := days_bd (y + k)
    rw [show y + ((k + 1 : Nat) : Int) = y + k + 1 by omega, h]; omega
theorem ny_lt {a b : Int} (h : a < b) : ny a + 365 ≤ ny b := by
  have := (ny_add a (b - a).toNat).1
  rw [show a + ((b - a).toNat : Int) = b by omega] at this; omega
theorem ny_le {a b : Int} (h : a ≤ b) : ny a ≤ ny b := by
  rcases Int.lt_or_eq_of_le h with h | rfl
  · have := ny_lt h; omega
  · exact Int.le_refl _
theorem ny_1 : ny 1 = -719162 := by decide
theorem ny_0 : ny 0 = -719528 := by decide
theorem ny_1970 : ny 1970 = 0 := by decide
theorem ny_10000 : ny 10000 = 2932897 := by decide
theorem ny_bd {y : Int} (h1 : 0 ≤ y) (h2 : y ≤ 10000) : -719528 ≤ ny y ∧ ny y ≤ 2932897 := by
  have a := ny_le h1; have b := ny_le h2; rw [ny_0] at a; rw [ny_10000] at b; omega
/-- Days of the first k months of year y. -/
def cum (y : Int) : Nat → Int
  | 0 => 0
  | k + 1 => cum y k + long y (k + 1)
theorem cum_succ (y : Int) (k : Nat) : cum y (k + 1) = cum y k + long y (k + 1) := rfl
theorem cum_12 (y : Int) : cum y 12 = days y := by
  simp only [cum, days, long]
  by_cases h : leapB y = true <;> simp [h]
theorem cum_add (y : Int) (k j : Nat) : cum y k + 28 * j ≤ cum y (k + j) ∧ cum y (k + j) ≤ cum y k + 31 * j := by
  induction j with
  | zero => simp
  | succ j ih =>
    have h := long_bd y ((k + j : Nat) + 1)
    rw [show k + (j + 1) = k + j + 1 by omega, cum_succ]; omega
theorem cum_lt (y : Int) {a b : Nat} (h : a < b) : cum y a + long y (a + 1) ≤ cum y b := by
  have := (cum_add y (a + 1) (b - (a + 1))).1
  rw [show a + 1 + (b - (a + 1)) = b by omega, cum_succ] at this; omega
theorem cum_bd (y : Int) {k : Nat} (h : k ≤ 12) : 0 ≤ cum y k ∧ cum y k ≤ 372 := by
  have := cum_add y 0 k; simp [cum] at this; omega
theorem cum_le12 (y : Int) {k : Nat} (h : k < 12) : cum y k + long y (k + 1) ≤ days y := by
  have := cum_lt y h; rw [cum_12] at this; exact this
/-- The number of a date. -/
def num (y m d : Int) : Int := ny y + cum y (m - 1).toNat + d - 1
theorem num_lo {y m d : Int} (h : vldB y m d = true) : ny y ≤ num y m d ∧ num y m d < ny (y + 1) := by
  obtain ⟨_, _, _, _, _, _⟩ := vld_of h
  have a := cum_le12 y (k := (m - 1).toNat) (by omega)
  have b := cum_bd y (k := (m - 1).toNat) (by omega)
  rw [show (((m - 1).toNat : Nat) : Int) + 1 = m by omega] at a
  have := ny_succ y
  unfold num; omega
theorem num_bd {y m d : Int} (h : vldB y m d = true) : -719162 ≤ num y m d ∧ num y m d ≤ 2932896 := by
  have a := num_lo h; obtain ⟨h1, h2, _⟩ := vld_of h
  have b := ny_le h1; have c := ny_le (a := y + 1) (b := 10000) (by omega)
  rw [ny_1] at b; rw [ny_10000] at c; omega
/-- Of one number there is one date. -/
theorem num_inj {y m d y' m' d' : Int} (h : vldB y m d = true) (h' : vldB y' m' d' = true) (e : num y m d = num y' m' d') : y = y' ∧ m = m' ∧ d = d' := by
  have a := num_lo h; have b := num_lo h'
  have hy : y = y' := by
    rcases Int.lt_trichotomy y y' with k | k | k
    · have := ny_le (a := y + 1) (b := y') (by omega); omega
    · exact k
    · have := ny_le (a := y' + 1) (b := y) (by omega); omega
  subst hy
  obtain ⟨_, _, m1, m2, d1, d2⟩ := vld_of h; obtain ⟨_, _, m3, m4, d3, d4⟩ := vld_of h'
  unfold num at e
  have hm : m = m' := by
    rcases Int.lt_trichotomy m m' with k | k | k
    · have := cum_lt y (a := (m - 1).toNat) (b := (m' - 1).toNat) (by omega)
      rw [show (((m - 1).toNat : Nat) : Int) + 1 = m by omega] at this; omega
    · exact k
    · have := cum_lt y (a := (m' - 1).toNat) (b := (m - 1).toNat) (by omega)
      rw [show (((m' - 1).toNat : Nat) : Int) + 1 = m' by omega] at this; omega
  subst hm
  exact ⟨rfl, rfl, by omega⟩
/-- A day of a year, month by month. -/
theorem num_at {y z : Int} {k : Nat} (h1 : 1 ≤ y) (h2 : y ≤ 9999) (hk : k < 12) (l : 0 ≤ z - ny y - cum y k) (g : z - ny y - cum y k < long y (k + 1)) :
    vldB y (k + 1) (z - ny y - cum y k + 1) = true ∧ num y (k + 1) (z - ny y - cum y k + 1) = z := by
  refine ⟨vld_mk ⟨h1, h2, by omega, by omega, by omega, by omega⟩, ?_⟩
  unfold num; rw [show ((k : Int) + 1 - 1).toNat = k by omega]; omega
/-- There is a date of each number. -/
theorem num_has {z : Int} (h1 : -719162 ≤ z) (h2 : z ≤ 2932896) : ∃ y m d, vldB y m d = true ∧ num y m d = z := by
  have hy : ∀ n : Nat, n ≤ 9999 → ny (n + 1) ≤ z ∨ ∃ y : Int, 1 ≤ y ∧ y ≤ n ∧ ny y ≤ z ∧ z < ny (y + 1) := by
    intro n; induction n with
    | zero => intro _; left; have := ny_1; simp only [Int.natCast_zero, Int.zero_add]; omega
    | succ n ih =>
      intro hn
      rcases ih (by omega) with h | ⟨y, a, b, c, e⟩
      · by_cases k : ny ((n + 1 : Nat) + 1) ≤ z
        · exact .inl k
        · exact .inr ⟨(n : Int) + 1, by omega, by omega, h, by have := k; simp only [Int.natCast_add, Int.natCast_one] at this; omega⟩
      · exact .inr ⟨y, a, by omega, c, e⟩
  rcases hy 9999 (Nat.le_refl _) with h | ⟨y, a, b, c, e⟩
  · have := ny_10000; simp at h; omega
  have hs := ny_succ y; have h12 := cum_12 y
  have hm : ∀ n : Nat, n ≤ 12 → cum y n ≤ z - ny y ∨ ∃ k, k < n ∧ cum y k ≤ z - ny y ∧ z - ny y < cum y (k + 1) := by
    intro n; induction n with
    | zero => intro _; left; simp [cum]; omega
    | succ n ih =>
      intro hn
      rcases ih (by omega) with h | ⟨k, q, c, e⟩
      · by_cases k : cum y (n + 1) ≤ z - ny y
        · exact .inl k
        · exact .inr ⟨n, by omega, h, by omega⟩
      · exact .inr ⟨k, by omega, c, e⟩
  rcases hm 12 (Nat.le_refl _) with h | ⟨k, q, c', e'⟩
  · omega
  rw [cum_succ] at e'
  have r := num_at a (by omega) q (z := z) (by omega) (by omega)
  exact ⟨_, _, _, r.1, r.2⟩
theorem num_first {y m : Int} (h1 : 1 ≤ y) (h2 : y ≤ 9999) (h3 : 1 ≤ m) (h4 : m ≤ 12) : vldB y m 1 = true := vld_mk ⟨h1, h2, h3, h4, by omega, by have := long_bd y m; omega⟩
end Go.Proofs.YtakjgimnmobngaaDoor.Ci
