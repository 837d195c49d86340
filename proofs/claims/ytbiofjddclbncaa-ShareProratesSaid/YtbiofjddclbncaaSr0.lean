namespace Go.Proofs.Ytbiofjddclbncaa.Sr
set_option linter.unusedVariables false
set_option linter.unusedSimpArgs false
/-! Whose turn it is among those that are left: no program. r tells the rests. -/

/-- j comes ahead of i: its rest is greater, or it is the first of like ones. -/
def bef (r : Nat → Int) (j i : Nat) : Prop := r i < r j ∨ (r i = r j ∧ j < i)
instance (r : Nat → Int) (j i : Nat) : Decidable (bef r j i) := inferInstanceAs (Decidable (_ ∨ _))
theorem bef_irrefl (r : Nat → Int) (i : Nat) : ¬ bef r i i := by unfold bef; omega
theorem bef_asymm {r : Nat → Int} {i j : Nat} (h : bef r i j) : ¬ bef r j i := by unfold bef at *; omega
theorem bef_trans {r : Nat → Int} {i j k : Nat} (h : bef r i j) (g : bef r j k) : bef r i k := by unfold bef at *; omega
theorem bef_tri (r : Nat → Int) {i j : Nat} (h : i ≠ j) : bef r i j ∨ bef r j i := by unfold bef; omega
/-- All n of them, in their order. -/
structure Srt (r : Nat → Int) (n : Nat) (S : List Nat) : Prop where
  pw : S.Pairwise (bef r)
  mem : ∀ i, i ∈ S ↔ i < n
theorem pw_ext {r : Nat → Int} {S T : List Nat} (h1 : S.Pairwise (bef r)) (h2 : T.Pairwise (bef r)) (h : ∀ i, i ∈ S ↔ i ∈ T) : S = T := by
  induction S generalizing T with
  | nil =>
    cases T with
    | nil => rfl
    | cons y m => have := (h y).2 (List.mem_cons_self ..); simp at this
  | cons x l ih =>
    cases T with
    | nil => have := (h x).1 (List.mem_cons_self ..); simp at this
    | cons y m =>
      obtain ⟨a, b⟩ := List.pairwise_cons.1 h1
      obtain ⟨c, d⟩ := List.pairwise_cons.1 h2
      have e : x = y := by
        rcases List.mem_cons.1 ((h x).1 (List.mem_cons_self ..)) with e | h3
        · exact e
        · rcases List.mem_cons.1 ((h y).2 (List.mem_cons_self ..)) with e | h4
          · exact e.symm
          · exact absurd (a y h4) (bef_asymm (c x h3))
      subst e
      rw [ih b d fun z => ?_]
      constructor
      · intro hz
        rcases List.mem_cons.1 ((h z).1 (List.mem_cons_of_mem _ hz)) with e | h3
        · have := a z hz; rw [e] at this; exact absurd this (bef_irrefl r x)
        · exact h3
      · intro hz
        rcases List.mem_cons.1 ((h z).2 (List.mem_cons_of_mem _ hz)) with e | h3
        · have := c z hz; rw [e] at this; exact absurd this (bef_irrefl r x)
        · exact h3
theorem Srt.unique {r : Nat → Int} {n : Nat} {S T : List Nat} (h : Srt r n S) (g : Srt r n T) : S = T := pw_ext h.pw g.pw fun i => (h.mem i).trans (g.mem i).symm
/-- One more laid in its place. -/
def ins (r : Nat → Int) (x : Nat) : List Nat → List Nat
  | [] => [x]
  | y :: l => if bef r x y then x :: y :: l else y :: ins r x l
theorem mem_ins (r : Nat → Int) (x : Nat) (l : List Nat) (i : Nat) : i ∈ ins r x l ↔ i = x ∨ i ∈ l := by
  induction l with
  | nil => simp [ins]
  | cons y l ih =>
    unfold ins
    split
    · simp
    · rw [List.mem_cons, ih, List.mem_cons]
      constructor
      · rintro (h | h | h)
        · exact .inr (.inl h)
        · exact .inl h
        · exact .inr (.inr h)
      · rintro (h | h | h)
        · exact .inr (.inl h)
        · exact .inl h
        · exact .inr (.inr h)
theorem pw_ins {r : Nat → Int} {x : Nat} {l : List Nat} (h : l.Pairwise (bef r)) (hx : x ∉ l) : (ins r x l).Pairwise (bef r) := by
  induction l with
  | nil => exact List.pairwise_singleton _ _
  | cons y l ih =>
    obtain ⟨a, b⟩ := List.pairwise_cons.1 h
    unfold ins
    split
    · rename_i hxy
      exact List.pairwise_cons.2 ⟨fun z hz => (List.mem_cons.1 hz).elim (fun e => e ▸ hxy) (fun e => bef_trans hxy (a z e)), h⟩
    · rename_i hxy
      have hne : x ≠ y := fun e => hx (e ▸ List.mem_cons_self ..)
      have hyx : bef r y x := (bef_tri r hne).resolve_left hxy
      refine List.pairwise_cons.2 ⟨fun z hz => ?_, ih b fun e => hx (List.mem_cons_of_mem _ e)⟩
      rcases (mem_ins r x l z).1 hz with rfl | h
      · exact hyx
      · exact a z h
def srt (r : Nat → Int) : Nat → List Nat
  | 0 => []
  | n + 1 => ins r n (srt r n)
theorem srt_is (r : Nat → Int) (n : Nat) : Srt r n (srt r n) := by
  induction n with
  | zero => exact ⟨List.Pairwise.nil, fun i => by simp [srt]⟩
  | succ n ih =>
    refine ⟨pw_ins ih.pw fun h => by have := (ih.mem n).1 h; omega, fun i => ?_⟩
    show i ∈ ins r n (srt r n) ↔ _
    rw [mem_ins, ih.mem]; omega
theorem len_ins (r : Nat → Int) (x : Nat) (l : List Nat) : (ins r x l).length = l.length + 1 := by
  induction l with
  | nil => rfl
  | cons y l ih => unfold ins; split <;> simp [ih]
theorem srt_len (r : Nat → Int) (n : Nat) : (srt r n).length = n := by
  induction n with
  | zero => rfl
  | succ n ih => show (ins r n (srt r n)).length = _; rw [len_ins, ih]
theorem Srt.len {r : Nat → Int} {n : Nat} {S : List Nat} (h : Srt r n S) : S.length = n := by rw [h.unique (srt_is r n), srt_len]
/-- The first t have had their unit. -/
def had (r : Nat → Int) (n t i : Nat) : Prop := i ∈ (srt r n).take t
instance (r : Nat → Int) (n t i : Nat) : Decidable (had r n t i) := inferInstanceAs (Decidable (_ ∈ _))
/-- Whose turn it is behind t units. -/
def nxt (r : Nat → Int) (n t : Nat) : Nat := (srt r n)[t]?.getD 0
theorem had_zero (r : Nat → Int) (n i : Nat) : ¬ had r n 0 i := by simp [had]
theorem nxt_at {r : Nat → Int} {n t : Nat} (ht : t < n) : (srt r n)[t]? = some (nxt r n t) := by
  unfold nxt; rw [List.getElem?_eq_getElem (by rw [srt_len]; exact ht)]; rfl
theorem had_succ {r : Nat → Int} {n t : Nat} (ht : t < n) (i : Nat) : had r n (t + 1) i ↔ had r n t i ∨ i = nxt r n t := by
  unfold had
  rw [List.take_add_one, nxt_at ht]
  simp
theorem nxt_lt {r : Nat → Int} {n t : Nat} (ht : t < n) : nxt r n t < n := ((srt_is r n).mem _).1 (List.mem_of_getElem? (nxt_at ht))
theorem pw_split {r : Nat → Int} {n t : Nat} (ht : t < n) : srt r n = (srt r n).take t ++ nxt r n t :: (srt r n).drop (t + 1) := by
  have hl : t < (srt r n).length := by rw [srt_len]; exact ht
  have e : nxt r n t = (srt r n)[t] := by unfold nxt; rw [List.getElem?_eq_getElem hl]; rfl
  rw [e, List.getElem_cons_drop, List.take_append_drop]
/-- It has had none yet, and comes ahead of all others that have had none. -/
theorem nxt_first {r : Nat → Int} {n t : Nat} (ht : t < n) : ¬ had r n t (nxt r n t) ∧ ∀ j, j < n → ¬ had r n t j → j ≠ nxt r n t → bef r (nxt r n t) j := by
  have hp := (srt_is r n).pw
  rw [pw_split ht] at hp
  obtain ⟨h1, h2, h3⟩ := List.pairwise_append.1 hp
  obtain ⟨h4, h5⟩ := List.pairwise_cons.1 h2
  refine ⟨fun h => bef_irrefl r _ (h3 _ h _ (List.mem_cons_self ..)), fun j hj hn hne => ?_⟩
  have hm := ((srt_is r n).mem j).2 hj
  rw [pw_split ht] at hm
  rcases List.mem_append.1 hm with h | h
  · exact absurd h hn
  · rcases List.mem_cons.1 h with h | h
    · exact absurd h hne
    · exact h4 j h
/-- A search from the first on: b is the best of those ahead of k that have had none (b = -1: none of them is left). -/
def Best (r : Nat → Int) (n t k : Nat) (b : Int) : Prop :=
  (b = -1 ∧ ∀ j, j < k → had r n t j) ∨ (∃ q : Nat, b = q ∧ q < k ∧ ¬ had r n t q ∧ ∀ j, j < k → ¬ had r n t j → j ≠ q → bef r q j)
theorem Best.zero (r : Nat → Int) (n t : Nat) : Best r n t 0 (-1) := .inl ⟨rfl, fun j hj => by omega⟩
theorem Best.skip {r : Nat → Int} {n t k : Nat} {b : Int} (h : Best r n t k b) (hk : had r n t k) : Best r n t (k + 1) b := by
  rcases h with ⟨h1, h2⟩ | ⟨q, h1, h2, h3, h4⟩
  · exact .inl ⟨h1, fun j hj => by rcases Nat.lt_or_eq_of_le (Nat.le_of_lt_succ hj) with h | rfl; exact h2 j h; exact hk⟩
  · exact .inr ⟨q, h1, by omega, h3, fun j hj hn hne => by rcases Nat.lt_or_eq_of_le (Nat.le_of_lt_succ hj) with h | rfl; exact h4 j h hn hne; exact absurd hk hn⟩
theorem Best.fst {r : Nat → Int} {n t k : Nat} (h : Best r n t k (-1)) (hk : ¬ had r n t k) : Best r n t (k + 1) k := by
  rcases h with ⟨_, h2⟩ | ⟨q, h1, _⟩
  · exact .inr ⟨k, rfl, by omega, hk, fun j hj hn hne => absurd (h2 j (by omega)) hn⟩
  · omega
theorem Best.more {r : Nat → Int} {n t k q : Nat} (h : Best r n t k q) (hk : ¬ had r n t k) (hr : r q < r k) : Best r n t (k + 1) k := by
  rcases h with ⟨h1, _⟩ | ⟨q', h1, h2, h3, h4⟩
  · omega
  · obtain rfl : q = q' := by omega
    refine .inr ⟨k, rfl, by omega, hk, fun j hj hn hne => ?_⟩
    by_cases e : j = q
    · subst e; exact .inl hr
    · exact bef_trans (.inl hr) (h4 j (by omega) hn e)
theorem Best.less {r : Nat → Int} {n t k q : Nat} (h : Best r n t k q) (hr : r k ≤ r q) : Best r n t (k + 1) q := by
  rcases h with ⟨h1, _⟩ | ⟨q', h1, h2, h3, h4⟩
  · omega
  · obtain rfl : q = q' := by omega
    refine .inr ⟨q, rfl, by omega, h3, fun j hj hn hne => ?_⟩
    rcases Nat.lt_or_eq_of_le (Nat.le_of_lt_succ hj) with h | rfl
    · exact h4 j h hn hne
    · unfold bef; omega
/-- At the end of the search it is whose turn it is. -/
theorem Best.done {r : Nat → Int} {n t : Nat} {b : Int} (h : Best r n t n b) (ht : t < n) : b = (nxt r n t : Int) := by
  obtain ⟨f1, f2⟩ := nxt_first (r := r) ht
  have f0 := nxt_lt (r := r) ht
  rcases h with ⟨_, h2⟩ | ⟨q, rfl, h2, h3, h4⟩
  · exact absurd (h2 _ f0) f1
  · by_cases e : q = nxt r n t
    · rw [e]
    · exact absurd (f2 q h2 h3 e) (bef_asymm (h4 _ f0 f1 (fun h => e h.symm)))
/-- A share: the whole part, and a unit if its turn has come. -/
def shr (q : Nat → Int) (r : Nat → Int) (n t i : Nat) : Int := q i + if had r n t i then 1 else 0
end Go.Proofs.Ytbiofjddclbncaa.Sr
