import Derived.Test.YtbiofjddclbncaaSm6
namespace Go.Proofs.Ytbiofjddclbncaa.Sr
set_option linter.unusedVariables false
set_option linter.unusedSimpArgs false
open Go.RowKit Mem Mo

theorem symMerge_any (g n c bx rb ro c2 : Nat) (r : Nat → Int) (hn : n ≤ c) (hn1 : n ≤ 1000) : ∀ (N a m b : Nat) (S : Nat → Nat) (W : World), b - a < N → RowAt W g n S → Cs W g n bx rb ro c2 r → a < m → m < b → b ≤ n → So r S a m → So r S m b → Lw S a m b → (∀ k, k < n → S k < n) →
    Calls Try.prog 46 #[.slice (some ⟨g, 0, none⟩) n c, .int .i64 a, .int .i64 m, .int .i64 b, .func (.func 32) #[] #[.pointer (some ⟨bx, 0, none⟩)]] W fun e w' => e = .returned (.tuple #[]) ∧ ∃ T, RowAt w' g n T ∧ Pm a b S T ∧ So r T a b ∧ Ex g W w' := by
  intro N
  induction N with
  | zero => intro a m b S W h; omega
  | succ N ih =>
    intro a m b S W h hR hC ham hmb hb hs1 hs2 hl hv
    by_cases e1 : m = a + 1
    · exact sym1 g n c a m b bx rb ro c2 r S W hR hC e1 hmb hb hn hn1 hs2 hl hv
    · by_cases e2 : b = m + 1
      · exact sym2 g n c a m b bx rb ro c2 r S W hR hC (by omega) e2 hb hn hn1 hs1 hl hv
      · exact sym3 g n c a m b bx rb ro c2 r S W hR hC (by omega) (by omega) hb hn hn1 hs1 hs2 hl hv (fun a' m' b' T V hlt => ih a' m' b' T V (by omega))

/-- Below a all parts of p are in order, from a on all parts of q. -/
structure Mid (r : Nat → Int) (n q p a : Nat) (T : Nat → Nat) : Prop where
  v : ∀ x, x < n → T x < n ∧ T x / p = x / p
  u : ∀ x, x < n → a ≤ x → T x / q = x / q
  has : ∀ y, y < n → ∃ x, x < n ∧ T x = y
  o : ∀ i j, i < j → j < n → j < a → i / p = j / p → bef r (T i) (T j)
  w : ∀ i j, i < j → j < n → a ≤ i → i / q = j / q → bef r (T i) (T j)
def QP (q p : Nat) : Prop := (q = 1 ∧ p = 20) ∨ (q = 20 ∧ p = 40) ∨ (q = 40 ∧ p = 80) ∨ (q = 80 ∧ p = 160)
theorem Mid.step {r : Nat → Int} {n q p a b : Nat} {T U : Nat → Nat} (hq : QP q p) (h : Mid r n q p a T) (ha : a % p = 0) (hab : a ≤ b) (hb : b ≤ n) (hp : b ≤ a + p) (hm : Pm a b T U) (hs : So r U a b) : Mid r n q p b U := by
  have key : ∀ x, x < n → ∃ y, y < n ∧ U x = T y ∧ ((a ≤ x ∧ x < b ∧ a ≤ y ∧ y < b) ∨ (y = x ∧ (x < a ∨ b ≤ x))) := fun x hx => by
    by_cases e : a ≤ x ∧ x < b
    · obtain ⟨y, y1, y2, y3⟩ := hm.of x e.1 e.2
      exact ⟨y, by omega, y3, .inl ⟨e.1, e.2, y1, y2⟩⟩
    · exact ⟨x, hx, hm.out x (by omega), .inr ⟨rfl, by omega⟩⟩
  refine ⟨fun x hx => ?_, fun x hx hax => ?_, fun y hy => ?_, fun i j hij hj hjb hd => ?_, fun i j hij hj hbi hd => ?_⟩
  · obtain ⟨y, y1, y2, y3⟩ := key x hx
    obtain ⟨v1, v2⟩ := h.v y y1
    rw [y2]
    refine ⟨v1, ?_⟩
    rcases hq with ⟨rfl, rfl⟩ | ⟨rfl, rfl⟩ | ⟨rfl, rfl⟩ | ⟨rfl, rfl⟩ <;> omega
  · obtain ⟨y, y1, y2, y3⟩ := key x hx
    rcases y3 with y3 | ⟨rfl, y4⟩
    · omega
    · rw [y2]
      by_cases c : a ≤ y
      · exact h.u y hx c
      · have : b = a ∨ b < a := by omega
        omega
  · obtain ⟨x, hx, e⟩ := h.has y hy
    by_cases c : a ≤ x ∧ x < b
    · obtain ⟨k, k1, k2, k3⟩ := hm.has x c.1 c.2
      exact ⟨k, by omega, k3.trans e⟩
    · exact ⟨x, hx, (hm.out x (by omega)).trans e⟩
  · by_cases c : j < a
    · rw [hm.out i (.inl (by omega)), hm.out j (.inl c)]; exact h.o i j hij hj c hd
    · have : a ≤ i := by rcases hq with ⟨rfl, rfl⟩ | ⟨rfl, rfl⟩ | ⟨rfl, rfl⟩ | ⟨rfl, rfl⟩ <;> omega
      exact hs i j this hij hjb
  · by_cases c : a ≤ i
    · rw [hm.out i (.inr hbi), hm.out j (.inr (by omega))]; exact h.w i j hij hj c hd
    · omega
theorem Mid.begin (r : Nat → Int) (n : Nat) : Mid r n 1 20 0 (fun k => k) :=
  ⟨fun x hx => ⟨hx, rfl⟩, fun x hx _ => rfl, fun y hy => ⟨y, hy, rfl⟩, fun i j hij hj h => by omega, fun i j hij hj _ hd => by omega⟩
theorem Mid.next {r : Nat → Int} {n q p p2 : Nat} {T : Nat → Nat} (hq : QP p p2) (h : Mid r n q p n T) : Mid r n p p2 0 T :=
  ⟨fun x hx => by
    obtain ⟨v1, v2⟩ := h.v x hx
    refine ⟨v1, ?_⟩
    rcases hq with ⟨rfl, rfl⟩ | ⟨rfl, rfl⟩ | ⟨rfl, rfl⟩ | ⟨rfl, rfl⟩ <;> omega, fun x hx _ => (h.v x hx).2, h.has, fun i j hij hj h => by omega, fun i j hij hj _ hd => h.o i j hij hj hj hd⟩
theorem Mid.asc {r : Nat → Int} {n a b : Nat} {T : Nat → Nat} (h : Mid r n 1 20 a T) (hb : b ≤ n) : ∀ i j, a ≤ i → i < j → j < b → T i < T j := fun i j i1 i2 i3 => by
  have h1 := h.u i (by omega) i1
  have h2 := h.u j (by omega) (by omega)
  omega
theorem Mid.halves {r : Nat → Int} {n q p a b : Nat} {T : Nat → Nat} (hq : QP q p) (hq1 : q ≠ 1) (h : Mid r n q p a T) (ha : a % p = 0) (hb : b ≤ n) (hp : b ≤ a + p) : So r T a (min (a + q) b) ∧ So r T (a + q) b ∧ Lw T a (a + q) b := by
  refine ⟨fun i j i1 i2 i3 => h.w i j i2 (by omega) i1 ?_, fun i j i1 i2 i3 => h.w i j i2 (by omega) (by omega) ?_, fun i j i1 i2 j1 j2 => ?_⟩
  · rcases hq with ⟨rfl, rfl⟩ | ⟨rfl, rfl⟩ | ⟨rfl, rfl⟩ | ⟨rfl, rfl⟩ <;> omega
  · rcases hq with ⟨rfl, rfl⟩ | ⟨rfl, rfl⟩ | ⟨rfl, rfl⟩ | ⟨rfl, rfl⟩ <;> omega
  · have h1 := h.u i (by omega) i1
    have h2 := h.u j (by omega) (by omega)
    rcases hq with ⟨rfl, rfl⟩ | ⟨rfl, rfl⟩ | ⟨rfl, rfl⟩ | ⟨rfl, rfl⟩ <;> omega
theorem Mid.tail {r : Nat → Int} {n q p a : Nat} {T : Nat → Nat} (hq : QP q p) (hq1 : q ≠ 1) (h : Mid r n q p a T) (ha : a % p = 0) (han : a ≤ n) (hn : n ≤ a + q) : Mid r n q p n T := by
  have hp : n ≤ a + p := by rcases hq with ⟨rfl, rfl⟩ | ⟨rfl, rfl⟩ | ⟨rfl, rfl⟩ | ⟨rfl, rfl⟩ <;> omega
  have hh := (h.halves hq hq1 ha (Nat.le_refl n) hp).1
  rw [show min (a + q) n = n by omega] at hh
  exact h.step hq ha han (Nat.le_refl _) hp (Pm.refl _ _ _) hh
/-- All in order. -/
theorem Mid.srt {r : Nat → Int} {n q p : Nat} {T : Nat → Nat} (h : Mid r n q p n T) (hn : n ≤ p) : (List.range n).map T = srt r n := by
  refine Srt.unique (r := r) (n := n) ⟨?_, fun i => ?_⟩ (srt_is r n)
  · rw [List.pairwise_map, List.pairwise_iff_getElem]
    intro i j hi hj hij
    simp only [List.length_range] at hi hj
    simp only [List.getElem_range]
    refine h.o i j hij hj hj ?_
    rw [Nat.div_eq_of_lt (by omega), Nat.div_eq_of_lt (by omega)]
  · simp only [List.mem_map, List.mem_range]
    constructor
    · rintro ⟨x, hx, rfl⟩; exact (h.v x hx).1
    · intro hi; obtain ⟨x, hx, e⟩ := h.has i hi; exact ⟨x, hx, e⟩
end Go.Proofs.Ytbiofjddclbncaa.Sr
