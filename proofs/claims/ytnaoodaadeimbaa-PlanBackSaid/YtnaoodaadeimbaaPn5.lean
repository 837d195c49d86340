import Derived.Test.YtnaoodaadeimbaaPn2
namespace Go.Proofs.Ytnaoodaadeimbaa.Pl
set_option linter.unusedVariables false
set_option linter.unusedSimpArgs false
open Go.RowKit Mem Ti Mo
/-! What a reader of a plan's bytes comes to: no program. -/
/-- The reader when k numbers were asked for. -/
def itr (s : St) : Nat → St
  | 0 => s
  | k + 1 => (itr s k).after 8
/-- Number k that it answers. -/
def rnm (s : St) (k : Nat) : Int := wrap64 ((itr s k).num 8 : Int)
theorem itr_bad {s : St} (h : s.bad = true) (k : Nat) : itr s k = s := by
  induction k with
  | zero => rfl
  | succ k ih => show (itr s k).after 8 = s; rw [ih]; unfold St.after; rw [if_pos h]
theorem itr_ok (l : List UInt8) (k : Nat) (h : 8 * k ≤ l.length) : itr ⟨l, false⟩ k = ⟨l.drop (8 * k), false⟩ := by
  induction k with
  | zero => rfl
  | succ k ih =>
    show (itr ⟨l, false⟩ k).after 8 = _
    rw [ih (by omega)]
    unfold St.after
    simp only [Bool.false_eq_true, if_false]
    rw [if_neg (by rw [List.length_drop]; omega), List.drop_drop, show 8 * (k + 1) = 8 * k + 8 by omega]
theorem itr_short (l : List UInt8) (k : Nat) (h : l.length < 8 * k) : (itr ⟨l, false⟩ k).bad = true := by
  induction k with
  | zero => omega
  | succ k ih =>
    show ((itr ⟨l, false⟩ k).after 8).bad = true
    by_cases hk : l.length < 8 * k
    · have := ih hk; unfold St.after; rw [if_pos this]; exact this
    · rw [itr_ok l k (by omega)]
      unfold St.after
      simp only [Bool.false_eq_true, if_false]
      rw [if_pos (by rw [List.length_drop]; omega)]
theorem num_na (l : List UInt8) (k : Nat) (h : 8 * (k + 1) ≤ l.length) : (⟨l.drop (8 * k), false⟩ : St).num 8 = na l k := by
  unfold St.num na
  simp only [Bool.false_eq_true, if_false]
  rw [if_neg (by rw [List.length_drop]; omega)]
theorem wrap_sg {x : Nat} (h : x < 18446744073709551616) : wrap64 (x : Int) = sg x := by unfold wrap64 sg; split <;> omega
theorem rnm_ok (l : List UInt8) (k : Nat) (h : 8 * (k + 1) ≤ l.length) : rnm ⟨l, false⟩ k = sg (na l k) := by
  unfold rnm
  rw [itr_ok l k (by omega), num_na l k h, wrap_sg (na_lt l k)]
theorem rnm_bd (s : St) (k : Nat) : -9223372036854775808 ≤ rnm s k ∧ rnm s k ≤ 9223372036854775807 := by unfold rnm wrap64; omega
theorem rnm_drop (l : List UInt8) (j k : Nat) (h : 8 * (j + k + 1) ≤ l.length) : rnm ⟨l.drop (8 * j), false⟩ k = sg (na l (j + k)) := by
  rw [rnm_ok _ k (by rw [List.length_drop]; omega)]
  unfold na
  rw [List.drop_drop, show 8 * j + 8 * k = 8 * (j + k) by omega]
/-- What has been written when some places are over. -/
def wrt (s : St) (f0 : Nat → Int) {m : Nat} (pre : List (Fin m)) : Nat × (Nat → Int) := pre.foldl (fun q x => (q.1 + 1, fun j => if j = x.1 then rnm s q.1 else q.2 j)) (0, f0)
theorem wrt_snoc0 (s : St) (f0 : Nat → Int) {m : Nat} (pre : List (Fin m)) (x : Fin m) : wrt s f0 (pre ++ [x]) = ((wrt s f0 pre).1 + 1, fun j => if j = x.1 then rnm s (wrt s f0 pre).1 else (wrt s f0 pre).2 j) := by
  unfold wrt; rw [List.foldl_append]; rfl
theorem foldl_fst (s : St) {m : Nat} (pre : List (Fin m)) : ∀ q : Nat × (Nat → Int), (pre.foldl (fun (q : Nat × (Nat → Int)) x => (q.1 + 1, fun j => if j = x.1 then rnm s q.1 else q.2 j)) q).1 = q.1 + pre.length := by
  induction pre with
  | nil => intro q; rfl
  | cons x pre ih => intro q; rw [List.foldl_cons, ih]; simp; omega
theorem wrt_fst (s : St) (f0 : Nat → Int) {m : Nat} (pre : List (Fin m)) : (wrt s f0 pre).1 = pre.length := by unfold wrt; rw [foldl_fst]; omega
theorem wrt_snoc (s : St) (f0 : Nat → Int) {m : Nat} (pre : List (Fin m)) (x : Fin m) : (wrt s f0 (pre ++ [x])).2 = fun j => if j = x.1 then rnm s pre.length else (wrt s f0 pre).2 j := by
  rw [wrt_snoc0, wrt_fst]
theorem wrt_upto (s : St) (f0 : Nat → Int) (m k : Nat) (hk : k ≤ m) (j : Nat) : (wrt s f0 (upto m k)).2 j = if j < k then rnm s j else f0 j := by
  induction k with
  | zero => rfl
  | succ k ih =>
    rw [upto_succ (by omega), wrt_snoc, length_upto (by omega)]
    show (if j = k then _ else (wrt s f0 (upto m k)).2 j) = _
    rw [ih (by omega)]
    by_cases h : j = k
    · subst h; rw [if_pos rfl, if_pos (by omega)]
    · rw [if_neg h]
      by_cases h2 : j < k
      · rw [if_pos h2, if_pos (by omega)]
      · rw [if_neg h2, if_neg (by omega)]
theorem wrt_all (s : St) (f0 : Nat → Int) (m j : Nat) (hj : j < m) : (wrt s f0 (List.finRange m)).2 j = rnm s j := by
  rw [← upto_all, wrt_upto s f0 m m (Nat.le_refl m) j, if_pos hj]
/-- Bytes whose length and count agree. -/
def Fit (l : List UInt8) : Prop := l.length = 56 + 16 * na l 6 ∧ na l 6 ≤ 4
/-- The reader behind the count; how many tiers; the reader at the end. -/
def s7 (l : List UInt8) : St := (itr ⟨l, false⟩ 6).countAfter 4
def cnt (l : List UInt8) : Nat := ((itr ⟨l, false⟩ 6).count 4).toNat
def sF (l : List UInt8) : St := itr (s7 l) (2 * cnt l)
theorem cnt_eq (l : List UInt8) : (itr ⟨l, false⟩ 6).count 4 = (cnt l : Int) ∧ cnt l ≤ 4 := by
  unfold cnt St.count
  split <;> omega
theorem cnt_s7 (l : List UInt8) (h : 56 ≤ l.length) (h4 : na l 6 ≤ 4) : cnt l = na l 6 ∧ s7 l = ⟨l.drop 56, false⟩ := by
  have e := itr_ok l 6 (by omega)
  have en : (itr ⟨l, false⟩ 6).num 8 = na l 6 := by rw [e]; exact num_na l 6 (by omega)
  constructor
  · unfold cnt St.count; rw [en, if_neg (by omega)]; omega
  · unfold s7 St.countAfter
    rw [en, if_neg (by rw [e]; simp; omega), e]
    unfold St.after
    simp only [Bool.false_eq_true, if_false]
    rw [if_neg (by rw [List.length_drop]; omega), List.drop_drop]
theorem fit_done {l : List UInt8} (h : Fit l) : cnt l = na l 6 ∧ s7 l = ⟨l.drop 56, false⟩ ∧ (sF l).done = 0 := by
  obtain ⟨h1, h2⟩ := h
  obtain ⟨a, b⟩ := cnt_s7 l (by omega) h2
  refine ⟨a, b, ?_⟩
  unfold sF
  rw [b, a, itr_ok _ _ (by rw [List.length_drop]; omega)]
  unfold St.done
  rw [if_neg]
  simp only [Bool.false_eq_true, false_or, ne_eq, Decidable.not_not, List.drop_drop, List.drop_eq_nil_iff]
  omega
theorem done_fit {l : List UInt8} (h : (sF l).done = 0) : Fit l := by
  have hd : (sF l).bad = false ∧ (sF l).l = [] := by
    unfold St.done at h
    by_cases hc : (sF l).bad = true ∨ (sF l).l ≠ []
    · rw [if_pos hc] at h; omega
    · simp only [not_or, Bool.not_eq_true, ne_eq, Decidable.not_not] at hc; exact hc
  obtain ⟨h1, h2⟩ := hd
  have h7 : (s7 l).bad = false := by
    rcases Bool.eq_false_or_eq_true (s7 l).bad with hb | hb
    · have := itr_bad hb (2 * cnt l); unfold sF at h1; rw [this, hb] at h1; cases h1
    · exact hb
  have hc : ¬ ((itr ⟨l, false⟩ 6).bad = true ∨ (itr ⟨l, false⟩ 6).l.length < 8 ∨ (4 : Int) < 0 ∨ 4 < ((itr ⟨l, false⟩ 6).num 8 : Int)) := by
    intro c
    unfold s7 St.countAfter at h7
    rw [if_pos c] at h7
    cases h7
  have h48 : 48 ≤ l.length := by
    by_cases hk : l.length < 8 * 6
    · exact absurd (.inl (itr_short l 6 hk)) hc
    · omega
  have e := itr_ok l 6 (by omega)
  have h56 : 56 ≤ l.length := by
    by_cases hk : l.length < 56
    · exact absurd (.inr (.inl (by rw [e]; simp; omega))) hc
    · omega
  have en : (itr ⟨l, false⟩ 6).num 8 = na l 6 := by rw [e]; exact num_na l 6 (by omega)
  have h4 : na l 6 ≤ 4 := by
    by_cases hk : na l 6 ≤ 4
    · exact hk
    · exact absurd (.inr (.inr (.inr (by rw [en]; omega)))) hc
  obtain ⟨a, b⟩ := cnt_s7 l h56 h4
  have hlen : 16 * na l 6 ≤ l.length - 56 := by
    by_cases hk : 16 * na l 6 ≤ l.length - 56
    · exact hk
    · have := itr_short (l.drop 56) (2 * na l 6) (by rw [List.length_drop]; omega)
      unfold sF at h1; rw [b, a, this] at h1; cases h1
  refine ⟨?_, h4⟩
  unfold sF at h2
  rw [b, a, itr_ok _ _ (by rw [List.length_drop]; omega)] at h2
  simp only [List.drop_drop, List.drop_eq_nil_iff] at h2
  omega
theorem okG_iff (l : List UInt8) : OkG l ↔ Fit l ∧ na l 0 ≤ 4294967295 ∧ May (rd l) := by
  constructor
  · intro h
    obtain ⟨a, b, c, d⟩ := h.len
    exact ⟨⟨by omega, by omega⟩, h.2.1, h.1⟩
  · rintro ⟨⟨h1, h2⟩, h3, h4⟩
    have hn : (rd l).n = na l 6 := by show (l.length - 56) / 16 = _; omega
    exact ⟨h4, h3, bytes_rd (by rw [hn]; exact h1) hn.symm⟩
theorem sg_id {x : Nat} (h : x < 18446744073709551616) : (0 ≤ sg x ∧ sg x ≤ 4294967295) ↔ x ≤ 4294967295 := by unfold sg; split <;> omega
end Go.Proofs.Ytnaoodaadeimbaa.Pl
