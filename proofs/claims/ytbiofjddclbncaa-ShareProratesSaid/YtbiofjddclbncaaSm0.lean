import Derived.Test.YtbiofjddclbncaaSr0
namespace Go.Proofs.Ytbiofjddclbncaa.Sr
set_option linter.unusedVariables false
/-! The library's stable sorting as data: no program. S k is what stands at place k. -/

/-- From a up to b the same ones stand, in another order; elsewhere all is as it was. -/
structure Pm (a b : Nat) (S T : Nat → Nat) : Prop where
  out : ∀ k, (k < a ∨ b ≤ k) → T k = S k
  of : ∀ k, a ≤ k → k < b → ∃ j, a ≤ j ∧ j < b ∧ T k = S j
  has : ∀ j, a ≤ j → j < b → ∃ k, a ≤ k ∧ k < b ∧ T k = S j
theorem Pm.refl (a b : Nat) (S : Nat → Nat) : Pm a b S S := ⟨fun _ _ => rfl, fun k h1 h2 => ⟨k, h1, h2, rfl⟩, fun k h1 h2 => ⟨k, h1, h2, rfl⟩⟩
theorem Pm.trans {a b : Nat} {S T U : Nat → Nat} (h : Pm a b S T) (g : Pm a b T U) : Pm a b S U :=
  ⟨fun k hk => (g.out k hk).trans (h.out k hk), fun k h1 h2 => by
    obtain ⟨j, j1, j2, e⟩ := g.of k h1 h2
    obtain ⟨i, i1, i2, e2⟩ := h.of j j1 j2
    exact ⟨i, i1, i2, e.trans e2⟩, fun j h1 h2 => by
    obtain ⟨k, k1, k2, e⟩ := h.has j h1 h2
    obtain ⟨i, i1, i2, e2⟩ := g.has k k1 k2
    exact ⟨i, i1, i2, e2.trans e⟩⟩
theorem Pm.wide {a b c d : Nat} {S T : Nat → Nat} (h : Pm a b S T) (h1 : c ≤ a) (h2 : b ≤ d) : Pm c d S T :=
  ⟨fun k hk => h.out k (by omega), fun k k1 k2 => by
    by_cases e : a ≤ k ∧ k < b
    · obtain ⟨j, j1, j2, e⟩ := h.of k e.1 e.2
      exact ⟨j, by omega, by omega, e⟩
    · exact ⟨k, k1, k2, h.out k (by omega)⟩, fun k k1 k2 => by
    by_cases e : a ≤ k ∧ k < b
    · obtain ⟨j, j1, j2, e⟩ := h.has k e.1 e.2
      exact ⟨j, by omega, by omega, e⟩
    · exact ⟨k, k1, k2, h.out k (by omega)⟩⟩
/-- Two change places. -/
def swp (S : Nat → Nat) (i j : Nat) (k : Nat) : Nat := if k = i then S j else if k = j then S i else S k
/-- What stood at i has gone down to j, all between one up. -/
def dwn (S : Nat → Nat) (i j : Nat) (k : Nat) : Nat := if k = j then S i else if j < k ∧ k ≤ i then S (k - 1) else S k
/-- What stood at a has gone up to k, all between one down. -/
def upw (S : Nat → Nat) (a j : Nat) (k : Nat) : Nat := if k = j then S a else if a ≤ k ∧ k < j then S (k + 1) else S k
theorem dwn_self (S : Nat → Nat) (i : Nat) : dwn S i i = S := by
  funext k; unfold dwn; split
  · subst_vars; rfl
  · rw [if_neg (by omega)]
theorem upw_self (S : Nat → Nat) (i : Nat) : upw S i i = S := by
  funext k; unfold upw; split
  · subst_vars; rfl
  · rw [if_neg (by omega)]
theorem dwn_step (S : Nat → Nat) {i j : Nat} (h : j + 1 ≤ i) : swp (dwn S i (j + 1)) (j + 1) j = dwn S i j := by
  funext k
  unfold swp dwn
  by_cases h1 : k = j + 1
  · rw [if_pos h1, if_neg (by omega), if_neg (by omega), if_neg (by omega), if_pos (by omega)]; congr 1; omega
  · rw [if_neg h1]
    by_cases h2 : k = j
    · rw [if_pos h2, if_pos rfl, if_pos h2]
    · rw [if_neg h2, if_neg h1, if_neg h2]
      by_cases h3 : j + 1 < k ∧ k ≤ i
      · rw [if_pos h3, if_pos (by omega)]
      · rw [if_neg h3, if_neg (by omega)]
theorem upw_step (S : Nat → Nat) {a j : Nat} (h : a ≤ j) : swp (upw S a j) j (j + 1) = upw S a (j + 1) := by
  funext k
  unfold swp upw
  by_cases h1 : k = j
  · rw [if_pos h1, if_neg (by omega), if_neg (by omega), if_neg (by omega), if_pos (by omega), h1]
  · rw [if_neg h1]
    by_cases h2 : k = j + 1
    · rw [if_pos h2, if_pos rfl, if_pos h2]
    · rw [if_neg h2, if_neg h1, if_neg h2]
      by_cases h3 : a ≤ k ∧ k < j
      · rw [if_pos h3, if_pos (by omega)]
      · rw [if_neg h3, if_neg (by omega)]
theorem dwn_pm (S : Nat → Nat) {i j : Nat} (h : j ≤ i) : Pm j (i + 1) S (dwn S i j) := by
  refine ⟨fun k hk => ?_, fun k k1 k2 => ?_, fun k k1 k2 => ?_⟩
  · unfold dwn; rw [if_neg (by omega), if_neg (by omega)]
  · unfold dwn
    by_cases e : k = j
    · exact ⟨i, h, by omega, by rw [if_pos e]⟩
    · exact ⟨k - 1, by omega, by omega, by rw [if_neg e, if_pos (by omega)]⟩
  · unfold dwn
    by_cases e : k = i
    · exact ⟨j, by omega, by omega, by rw [if_pos rfl, e]⟩
    · exact ⟨k + 1, by omega, by omega, by rw [if_neg (by omega), if_pos (by omega), Nat.add_sub_cancel]⟩
theorem upw_pm (S : Nat → Nat) {a j : Nat} (h : a ≤ j) : Pm a (j + 1) S (upw S a j) := by
  refine ⟨fun k hk => ?_, fun k k1 k2 => ?_, fun k k1 k2 => ?_⟩
  · unfold upw; rw [if_neg (by omega), if_neg (by omega)]
  · unfold upw
    by_cases e : k = j
    · exact ⟨a, by omega, by omega, by rw [if_pos e]⟩
    · exact ⟨k + 1, by omega, by omega, by rw [if_neg e, if_pos (by omega)]⟩
  · unfold upw
    by_cases e : k = a
    · exact ⟨j, by omega, by omega, by rw [if_pos rfl, e]⟩
    · exact ⟨k - 1, by omega, by omega, by rw [if_neg (by omega), if_pos (by omega)]; congr 1; omega⟩
/-- Two parts of so many change places. -/
def swr (S : Nat → Nat) (p q n : Nat) (x : Nat) : Nat := if p ≤ x ∧ x < p + n then S (x + (q - p)) else if q ≤ x ∧ x < q + n then S (x - (q - p)) else S x
theorem swr_zero (S : Nat → Nat) (p q : Nat) : swr S p q 0 = S := by
  funext x; unfold swr; rw [if_neg (by omega), if_neg (by omega)]
theorem swr_step (S : Nat → Nat) {p q n : Nat} (h : p + n + 1 ≤ q) : swp (swr S p q n) (p + n) (q + n) = swr S p q (n + 1) := by
  funext x
  unfold swp swr
  repeat' split
  all_goals first | rfl | omega | (congr 1; omega)
/-- The part from a up to m, and that from m up to b, change places. -/
def rot (S : Nat → Nat) (a m b : Nat) (x : Nat) : Nat := if a ≤ x ∧ x < a + (b - m) then S (x + (m - a)) else if a + (b - m) ≤ x ∧ x < b then S (x - (b - m)) else S x
theorem rot_left (T : Nat → Nat) {m i j : Nat} (hm : i ≤ m) (h : j < i) : rot (swr T (m - i) m j) (m - (i - j)) m (m + j) = rot T (m - i) m (m + j) := by
  funext x
  unfold rot swr
  repeat' split
  all_goals first | rfl | omega | (congr 1; omega)
theorem rot_right (T : Nat → Nat) {m i j : Nat} (hm : i ≤ m) (h : i < j) : rot (swr T (m - i) (m + j - i) i) (m - i) m (m + (j - i)) = rot T (m - i) m (m + j) := by
  funext x
  unfold rot swr
  repeat' split
  all_goals first | rfl | omega | (congr 1; omega)
theorem rot_end (T : Nat → Nat) {m i : Nat} (hm : i ≤ m) : swr T (m - i) m i = rot T (m - i) m (m + i) := by
  funext x
  unfold rot swr
  repeat' split
  all_goals first | rfl | omega | (congr 1; omega)
theorem rot_pm (S : Nat → Nat) {a m b : Nat} (h1 : a ≤ m) (h2 : m ≤ b) : Pm a b S (rot S a m b) := by
  refine ⟨fun k hk => ?_, fun k k1 k2 => ?_, fun k k1 k2 => ?_⟩
  · unfold rot; rw [if_neg (by omega), if_neg (by omega)]
  · unfold rot
    by_cases e : k < a + (b - m)
    · exact ⟨k + (m - a), by omega, by omega, by rw [if_pos ⟨k1, e⟩]⟩
    · exact ⟨k - (b - m), by omega, by omega, by rw [if_neg (by omega), if_pos (by omega)]⟩
  · unfold rot
    by_cases e : k < m
    · exact ⟨k + (b - m), by omega, by omega, by rw [if_neg (by omega), if_pos (by omega)]; congr 1; omega⟩
    · exact ⟨k - (m - a), by omega, by omega, by rw [if_pos (by omega)]; congr 1; omega⟩

/-- From a up to b all stand in their order. -/
def So (r : Nat → Int) (S : Nat → Nat) (a b : Nat) : Prop := ∀ i j, a ≤ i → i < j → j < b → bef r (S i) (S j)
/-- From a up to m stand lesser ones than from m up to b. -/
def Lw (S : Nat → Nat) (a m b : Nat) : Prop := ∀ i j, a ≤ i → i < m → m ≤ j → j < b → S i < S j
variable {r : Nat → Int} {S T U : Nat → Nat} {a m b : Nat}
theorem So.sub (h : So r S a b) {c d : Nat} (h1 : a ≤ c) (h2 : d ≤ b) : So r S c d := fun i j i1 i2 i3 => h i j (by omega) i2 (by omega)
theorem So.small (h : b ≤ a + 1) : So r S a b := fun i j i1 i2 i3 => by omega
theorem So.congr (h : So r S a b) (e : ∀ k, a ≤ k → k < b → T k = S k) : So r T a b := fun i j i1 i2 i3 => by
  rw [e i i1 (by omega), e j (by omega) i3]; exact h i j i1 i2 i3
/-- A test of the sorting: what stands behind, and is greater, comes ahead just if its rest is greater. -/
theorem bef_of_lt {x y : Nat} (h : x < y) : bef r y x ↔ r x < r y := by unfold bef; omega
theorem bef_not {x y : Nat} (h : x < y) (g : ¬ r x < r y) : bef r x y := by unfold bef; omega

/-- What stands at m goes in among those ahead of it. -/
theorem dwn_so (h : So r S a m) {i : Nat} (h1 : a ≤ i) (h2 : i ≤ m) (hl : ∀ k, a ≤ k → k < i → bef r (S k) (S m)) (hr : ∀ k, i ≤ k → k < m → bef r (S m) (S k)) : So r (dwn S m i) a (m + 1) := by
  intro x y x1 x2 x3
  unfold dwn
  by_cases ex : x = i
  · rw [if_pos ex, if_neg (show ¬ y = i by omega), if_pos (by omega)]; exact hr _ (by omega) (by omega)
  · rw [if_neg ex]
    by_cases ey : y = i
    · rw [if_pos ey, if_neg (by omega)]; exact hl _ x1 (by omega)
    · rw [if_neg ey]
      by_cases e1 : i < x ∧ x ≤ m
      · rw [if_pos e1, if_pos (by omega)]; exact h _ _ (by omega) (by omega) (by omega)
      · rw [if_neg e1]
        by_cases e2 : i < y ∧ y ≤ m
        · rw [if_pos e2]
          by_cases e3 : x = y - 1
          · omega
          · exact h _ _ x1 (by omega) (by omega)
        · rw [if_neg e2]; exact h _ _ x1 x2 (by omega)
/-- What stands at a goes in among those behind it, up to j. -/
theorem upw_so (h : So r S (a + 1) b) {j : Nat} (h1 : a ≤ j) (h2 : j < b) (hl : ∀ k, a < k → k ≤ j → bef r (S k) (S a)) (hr : ∀ k, j < k → k < b → bef r (S a) (S k)) : So r (upw S a j) a b := by
  intro x y x1 x2 x3
  unfold upw
  by_cases ex : x = j
  · rw [if_pos ex, if_neg (show ¬ y = j by omega), if_neg (by omega)]; exact hr _ (by omega) (by omega)
  · rw [if_neg ex]
    by_cases ey : y = j
    · rw [if_pos ey, if_pos (by omega)]; exact hl _ (by omega) (by omega)
    · rw [if_neg ey]
      by_cases e1 : a ≤ x ∧ x < j
      · rw [if_pos e1]
        by_cases e2 : a ≤ y ∧ y < j
        · rw [if_pos e2]; exact h _ _ (by omega) (by omega) (by omega)
        · rw [if_neg e2]; exact h _ _ (by omega) (by omega) x3
      · rw [if_neg e1, if_neg (by omega)]; exact h _ _ (by omega) x2 x3

/-- How far the two parts of a merge have been told apart. -/
structure Mrg (r : Nat → Int) (S : Nat → Nat) (a m b s e : Nat) : Prop where
  s0 : a ≤ s
  s1 : s ≤ m
  e0 : m ≤ e
  e1 : e ≤ b
  l : s = a ∨ e = b ∨ bef r (S (s - 1)) (S e)
  r : s = m ∨ e = m ∨ bef r (S (e - 1)) (S s)
theorem rot_at1 {s e x : Nat} (h1 : a ≤ s) (h2 : s ≤ m) (h3 : m ≤ e) (hx : x < s) : rot S s m e x = S x := by unfold rot; rw [if_neg (by omega), if_neg (by omega)]
theorem rot_at2 {s e x : Nat} (h1 : s ≤ m) (h2 : m ≤ e) (h3 : s ≤ x) (h4 : x < s + (e - m)) : rot S s m e x = S (x + (m - s)) := by unfold rot; rw [if_pos ⟨h3, h4⟩]
theorem rot_at3 {s e x : Nat} (h1 : s ≤ m) (h2 : m ≤ e) (h3 : s + (e - m) ≤ x) (h4 : x < e) : rot S s m e x = S (x - (e - m)) := by unfold rot; rw [if_neg (by omega), if_pos ⟨h3, h4⟩]
theorem rot_at4 {s e x : Nat} (h1 : s ≤ m) (h2 : m ≤ e) (h4 : e ≤ x) : rot S s m e x = S x := by unfold rot; rw [if_neg (by omega), if_neg (by omega)]
/-- What a merge leaves to the two merges within. -/
structure Cut (r : Nat → Int) (T : Nat → Nat) (a s d e b : Nat) : Prop where
  a1 : So r T a s
  a2 : So r T s d
  al : Lw T a s d
  b1 : So r T d e
  b2 : So r T e b
  bl : Lw T d e b
  c : ∀ i j, a ≤ i → i < d → d ≤ j → j < b → bef r (T i) (T j)
theorem Mrg.cut {s e : Nat} (h : Mrg r S a m b s e) (h1 : So r S a m) (h2 : So r S m b) (hl : Lw S a m b) : Cut r (rot S s m e) a s (s + (e - m)) e b := by
  obtain ⟨s0, s1, e0, e1, l, rr⟩ := h
  have L : ∀ i j, a ≤ i → i < s → e ≤ j → j < b → bef r (S i) (S j) := fun i j i1 i2 j1 j2 => by
    have q : bef r (S (s - 1)) (S e) := by rcases l with l | l | l; omega; omega; exact l
    have q1 : bef r (S i) (S e) := by
      by_cases c : i = s - 1
      · rw [c]; exact q
      · exact bef_trans (h1 i (s - 1) i1 (by omega) (by omega)) q
    by_cases c : j = e
    · rw [c]; exact q1
    · exact bef_trans q1 (h2 e j (by omega) (by omega) j2)
  have R : ∀ i j, m ≤ i → i < e → s ≤ j → j < m → bef r (S i) (S j) := fun i j i1 i2 j1 j2 => by
    have q : bef r (S (e - 1)) (S s) := by rcases rr with l | l | l; omega; omega; exact l
    have q1 : bef r (S i) (S s) := by
      by_cases c : i = e - 1
      · rw [c]; exact q
      · exact bef_trans (h2 i (e - 1) i1 (by omega) (by omega)) q
    by_cases c : j = s
    · rw [c]; exact q1
    · exact bef_trans q1 (h1 s j (by omega) (by omega) j2)
  refine ⟨?_, ?_, ?_, ?_, ?_, ?_, ?_⟩
  · exact (h1.sub (Nat.le_refl _) s1).congr fun k k1 k2 => rot_at1 s0 s1 e0 k2
  · intro i j i1 i2 i3
    rw [rot_at2 s1 e0 i1 (by omega), rot_at2 s1 e0 (by omega) i3]
    exact h2 _ _ (by omega) (by omega) (by omega)
  · intro i j i1 i2 j1 j2
    rw [rot_at1 s0 s1 e0 i2, rot_at2 s1 e0 j1 j2]
    exact hl _ _ i1 (by omega) (by omega) (by omega)
  · intro i j i1 i2 i3
    rw [rot_at3 s1 e0 i1 (by omega), rot_at3 s1 e0 (by omega) i3]
    exact h1 _ _ (by omega) (by omega) (by omega)
  · intro i j i1 i2 i3
    rw [rot_at4 s1 e0 i1, rot_at4 s1 e0 (by omega)]
    exact h2 _ _ (by omega) (by omega) (by omega)
  · intro i j i1 i2 j1 j2
    rw [rot_at3 s1 e0 i1 i2, rot_at4 s1 e0 j1]
    exact hl _ _ (by omega) (by omega) (by omega) j2
  · intro i j i1 i2 j1 j2
    by_cases ci : i < s
    · rw [rot_at1 s0 s1 e0 ci]
      by_cases cj : j < e
      · rw [rot_at3 s1 e0 j1 cj]; exact h1 _ _ i1 (by omega) (by omega)
      · rw [rot_at4 s1 e0 (by omega)]; exact L _ _ i1 ci (by omega) j2
    · rw [rot_at2 s1 e0 (by omega) i2]
      by_cases cj : j < e
      · rw [rot_at3 s1 e0 j1 cj]; exact R _ _ (by omega) (by omega) (by omega) (by omega)
      · rw [rot_at4 s1 e0 (by omega)]; exact h2 _ _ (by omega) (by omega) (by omega)
/-- Both merges within are done. -/
theorem Cut.done {s d e : Nat} (h : Cut r T a s d e b) (hd : a ≤ d) (hb : d ≤ b) {T1 T2 : Nat → Nat} (p1 : Pm a d T T1) (o1 : So r T1 a d) (p2 : Pm d b T1 T2) (o2 : So r T2 d b) : Pm a b T T2 ∧ So r T2 a b := by
  refine ⟨(p1.wide (Nat.le_refl _) hb).trans (p2.wide hd (Nat.le_refl _)), fun i j i1 i2 i3 => ?_⟩
  rcases Nat.lt_or_ge j d with c | c
  · rw [p2.out i (.inl (by omega)), p2.out j (.inl c)]; exact o1 i j i1 i2 c
  · rcases Nat.lt_or_ge i d with c2 | c2
    · obtain ⟨i', x1, x2, ex⟩ := p1.of i i1 c2
      obtain ⟨j', y1, y2, ey⟩ := p2.of j c i3
      rw [p2.out i (.inl c2), ex, ey, p1.out j' (.inr y1)]
      exact h.c i' j' x1 x2 y1 y2
    · exact o2 i j c2 i2 i3
theorem Cut.left {s d e : Nat} (h : Cut r T a s d e b) (c : ¬ (a < s ∧ s < d)) (hs : a ≤ s) (hd : s ≤ d) : So r T a d := by
  by_cases e : a < s
  · have : s = d := by omega
    subst this; exact h.a1
  · have : a = s := by omega
    subst this; exact h.a2
theorem Cut.right {s d e : Nat} (h : Cut r T a s d e b) (c : ¬ (d < e ∧ e < b)) (hs : d ≤ e) (hd : e ≤ b) : So r T d b := by
  by_cases x : d < e
  · have : e = b := by omega
    subst this; exact h.b1
  · have : d = e := by omega
    subst this; exact h.b2
end Go.Proofs.Ytbiofjddclbncaa.Sr
