import Derived.Test.YtcjokkjepgfinaaGreatDoorQG9
namespace Go.Proofs.YtcjokkjepgfinaaGreatDoor.Tr
set_option linter.unusedVariables false
set_option linter.unusedSimpArgs false
def Ones (L : List It) : Prop := ∀ x ∈ L, x.2 = [1]
theorem put_mem {L : List It} (k : By) (ho : Ord L) (h1 : Ones L) (x : It) : x ∈ putK L k [1] ↔ x = (k, [1]) ∨ x ∈ L := by
  induction L with
  | nil => show x ∈ [(k, ([1] : By))] ↔ _; simp
  | cons y l ih =>
    have ho2 := (Ord.cons_iff.1 ho).2
    have ih := ih ho2 fun z hz => h1 z (List.mem_cons_of_mem _ hz)
    rw [putK_cons]
    split
    · rw [List.mem_cons, ih, List.mem_cons]
      constructor
      · rintro (h | h | h)
        · exact .inr (.inl h)
        · exact .inl h
        · exact .inr (.inr h)
      · rintro (h | h | h)
        · exact .inr (.inl h)
        · exact .inl h
        · exact .inr (.inr h)
    · split
      · rename_i e
        have : y = (k, [1]) := by rw [← e, ← h1 y (List.mem_cons_self ..)]
        rw [List.mem_cons, List.mem_cons, this]
        constructor
        · rintro (h | h)
          · exact .inl h
          · exact .inr (.inr h)
        · rintro (h | h | h)
          · exact .inl h
          · exact .inl h
          · exact .inr h
      · rw [List.mem_cons]
theorem put_ones {L : List It} (k : By) (ho : Ord L) (h1 : Ones L) : Ones (putK L k [1]) := fun x hx => by
  rcases (put_mem k ho h1 x).1 hx with rfl | h
  · rfl
  · exact h1 x h
theorem put_len (L : List It) (k v : By) : (putK L k v).length ≤ L.length + 1 := by
  unfold putK
  simp only [List.length_append, List.length_take, List.length_cons, List.length_drop]
  omega
theorem put_len_le (L : List It) (k v : By) : L.length ≤ (putK L k v).length := by
  have := has_le L k
  unfold putK
  simp only [List.length_append, List.length_take, List.length_cons, List.length_drop]
  cases hasK L k <;> simp at this ⊢ <;> omega
theorem put_ord {L : List It} (k v : By) (ho : Ord L) : Ord (putK L k v) := by
  induction L with
  | nil => show Ord [(k, v)]; exact Ord.cons_iff.2 ⟨fun _ h => by simp at h, List.Pairwise.nil⟩
  | cons y l ih =>
    obtain ⟨a, b⟩ := Ord.cons_iff.1 ho
    have key : ∀ (l : List It) (z : It), z ∈ putK l k v → z.1 = k ∨ z ∈ l := by
      intro l z hz
      unfold putK at hz
      rcases List.mem_append.1 hz with h | h
      · exact .inr (List.mem_of_mem_take h)
      · rcases List.mem_cons.1 h with rfl | h
        · exact .inl rfl
        · exact .inr (List.mem_of_mem_drop h)
    rw [putK_cons]
    split
    · refine Ord.cons_iff.2 ⟨fun z hz => ?_, ih b⟩
      rcases key l z hz with h | h
      · rw [h]; assumption
      · exact a z h
    · split
      · rename_i e
        refine Ord.cons_iff.2 ⟨fun z hz => ?_, b⟩
        show blt k z.1 = true
        rw [← e]; exact a z hz
      · rename_i h1 h2
        have h3 : blt k y.1 = true := by
          rcases le_of_not (by simpa using h1) with h | h
          · exact h
          · exact absurd h.symm h2
        refine Ord.cons_iff.2 ⟨fun z hz => ?_, ho⟩
        rcases List.mem_cons.1 hz with rfl | h
        · exact h3
        · exact blt_trans h3 (a z h)
theorem ord_ext {L M : List It} (h1 : Ord L) (h2 : Ord M) (h : ∀ x, x ∈ L ↔ x ∈ M) : L = M := by
  induction L generalizing M with
  | nil =>
    cases M with
    | nil => rfl
    | cons y m => have := (h y).2 (List.mem_cons_self ..); simp at this
  | cons x l ih =>
    cases M with
    | nil => have := (h x).1 (List.mem_cons_self ..); simp at this
    | cons y m =>
      obtain ⟨a, b⟩ := Ord.cons_iff.1 h1
      obtain ⟨c, d⟩ := Ord.cons_iff.1 h2
      have e : x = y := by
        rcases List.mem_cons.1 ((h x).1 (List.mem_cons_self ..)) with e | h3
        · exact e
        · rcases List.mem_cons.1 ((h y).2 (List.mem_cons_self ..)) with e | h4
          · exact e.symm
          · have p := c x h3
            have q := blt_asymm (a y h4)
            rw [p] at q; cases q
      subst e
      rw [ih b d fun z => ?_]
      constructor
      · intro hz
        rcases List.mem_cons.1 ((h z).1 (List.mem_cons_of_mem _ hz)) with e | h3
        · have := a z hz; rw [e, blt_irrefl] at this; cases this
        · exact h3
      · intro hz
        rcases List.mem_cons.1 ((h z).2 (List.mem_cons_of_mem _ hz)) with e | h3
        · have := c z hz; rw [e, blt_irrefl] at this; cases this
        · exact h3
def puts (ks : List By) : List It := ks.foldl (fun L k => putK L k [1]) []
theorem puts_snoc (ks : List By) (k : By) : puts (ks ++ [k]) = putK (puts ks) k [1] := by simp [puts]
theorem puts_all (ks : List By) : ∀ n, n = ks.length → Ord (puts ks) ∧ Ones (puts ks) ∧ (puts ks).length ≤ n ∧ ∀ x, x ∈ puts ks ↔ ∃ k ∈ ks, x = (k, [1]) := by
  intro n
  induction n generalizing ks with
  | zero =>
    intro h
    have : ks = [] := List.eq_nil_of_length_eq_zero h.symm
    subst this
    exact ⟨List.Pairwise.nil, fun x hx => by simp [puts] at hx, by simp [puts], fun x => by simp [puts]⟩
  | succ n ih =>
    intro h
    have hne : ks ≠ [] := by intro e; rw [e] at h; simp at h
    obtain ⟨l, k, rfl⟩ : ∃ l k, ks = l ++ [k] := ⟨ks.dropLast, ks.getLast hne, (List.dropLast_concat_getLast hne).symm⟩
    obtain ⟨a, b, c, d⟩ := ih l (by simp at h; omega)
    rw [puts_snoc]
    refine ⟨put_ord k _ a, put_ones k a b, by have := put_len (puts l) k [1]; omega, fun x => ?_⟩
    rw [put_mem k a b x, d x]
    constructor
    · rintro (rfl | ⟨q, hq, rfl⟩)
      · exact ⟨k, by simp, rfl⟩
      · exact ⟨q, by simp [hq], rfl⟩
    · rintro ⟨q, hq, rfl⟩
      rcases List.mem_append.1 hq with h | h
      · exact .inr ⟨q, h, rfl⟩
      · simp at h; subst h; exact .inl rfl
theorem puts_reverse (ks : List By) : puts ks.reverse = puts ks := by
  obtain ⟨a, _, _, d⟩ := puts_all ks _ rfl
  obtain ⟨a', _, _, d'⟩ := puts_all ks.reverse _ rfl
  refine ord_ext a' a fun x => ?_
  rw [d x, d' x]
  simp
def keyB (long n : Nat) : By := List.replicate (long % 200) 0 ++ [UInt8.ofNat (n / 256), UInt8.ofNat n]
theorem keyB_len (long n : Nat) : (keyB long n).length = long % 200 + 2 := by simp [keyB]
end Go.Proofs.YtcjokkjepgfinaaGreatDoor.Tr
