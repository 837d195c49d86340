import Derived.WalkKit
set_option linter.unusedVariables false
set_option linter.unusedSimpArgs false
namespace Go.Proofs.YtcjokkjepgfinaaGreatDoor.Tr
abbrev By := List UInt8
abbrev blt (a b : By) : Bool := Op.bytesLess a b
theorem blt_irrefl (a : By) : blt a a = false := by
  induction a with
  | nil => rfl
  | cons x a ih => simp [blt, Op.bytesLess] at ih ⊢; exact ih
theorem blt_cons (x y : UInt8) (a b : By) : blt (x :: a) (y :: b) = true ↔ x < y ∨ x = y ∧ blt a b = true := by
  simp [blt, Op.bytesLess]
theorem blt_nil (a : By) : blt a [] = false := by cases a <;> rfl
theorem blt_trans : ∀ {a b c : By}, blt a b = true → blt b c = true → blt a c = true
  | _, [], _, h, _ => by rw [blt_nil] at h; cases h
  | _, _ :: _, [], _, h => by rw [blt_nil] at h; cases h
  | [], _ :: _, _ :: _, _, _ => rfl
  | x :: a, y :: b, z :: c, h, k => by
    rw [blt_cons] at h k ⊢
    rcases h with h | ⟨rfl, h⟩ <;> rcases k with k | ⟨rfl, k⟩
    · exact .inl (UInt8.lt_trans h k)
    · exact .inl h
    · exact .inl k
    · exact .inr ⟨rfl, blt_trans h k⟩
theorem blt_asymm {a b : By} (h : blt a b = true) : blt b a = false := by
  rcases e : blt b a with _ | _
  · rfl
  · have := blt_trans h e
    rw [blt_irrefl] at this; cases this
theorem blt_tri : ∀ (a b : By), blt a b = true ∨ a = b ∨ blt b a = true
  | [], [] => .inr (.inl rfl)
  | [], _ :: _ => .inl rfl
  | _ :: _, [] => .inr (.inr rfl)
  | x :: a, y :: b => by
    rw [blt_cons, blt_cons]
    have hxy : x < y ∨ x = y ∨ y < x := by
      rcases Nat.lt_trichotomy x.toNat y.toNat with h | h | h
      · exact .inl h
      · exact .inr (.inl (UInt8.toNat_inj.1 h))
      · exact .inr (.inr h)
    rcases hxy with h | rfl | h
    · exact .inl (.inl h)
    · rcases blt_tri a b with h | rfl | h
      · exact .inl (.inr ⟨rfl, h⟩)
      · exact .inr (.inl rfl)
      · exact .inr (.inr (.inr ⟨rfl, h⟩))
    · exact .inr (.inr (.inl h))
theorem blt_ne {a b : By} (h : blt a b = true) : a ≠ b := fun e => by rw [e, blt_irrefl] at h; cases h
theorem le_of_not {a b : By} (h : blt b a = false) : blt a b = true ∨ a = b := by
  rcases blt_tri a b with h' | h' | h'
  · exact .inl h'
  · exact .inr h'
  · rw [h'] at h; cases h
theorem not_blt_trans {a b c : By} (h : blt b a = false) (k : blt c b = false) : blt c a = false := by
  rcases le_of_not h with h1 | rfl
  · rcases le_of_not k with h2 | rfl
    · exact blt_asymm (blt_trans h1 h2)
    · exact blt_asymm h1
  · exact k
theorem blt_of_lt_le {a b c : By} (h : blt a b = true) (k : blt c b = false) : blt a c = true := by
  rcases le_of_not k with h2 | rfl
  · exact blt_trans h h2
  · exact h
theorem blt_of_le_lt {a b c : By} (h : blt b a = false) (k : blt b c = true) : blt a c = true := by
  rcases le_of_not h with h2 | rfl
  · exact blt_trans h2 k
  · exact k
abbrev It := By × By
def Ord {α : Type} (l : List (By × α)) : Prop := l.Pairwise fun a b => blt a.1 b.1 = true
theorem Ord.cons_iff {α : Type} {x : By × α} {l : List (By × α)} : Ord (x :: l) ↔ (∀ y ∈ l, blt x.1 y.1 = true) ∧ Ord l := List.pairwise_cons
theorem Ord.app_iff {α : Type} {l k : List (By × α)} : Ord (l ++ k) ↔ Ord l ∧ Ord k ∧ ∀ x ∈ l, ∀ y ∈ k, blt x.1 y.1 = true := List.pairwise_append
def lows {α : Type} (l : List (By × α)) (key : By) : Nat := (l.takeWhile fun x => blt x.1 key).length
theorem lows_le {α : Type} (l : List (By × α)) (key : By) : lows l key ≤ l.length := by
  unfold lows
  induction l with
  | nil => simp
  | cons x l ih => rw [List.takeWhile_cons]; split <;> simp <;> omega
theorem lows_lt {α : Type} {l : List (By × α)} {key : By} {i : Nat} (hi : i < lows l key) : ∃ x, l[i]? = some x ∧ blt x.1 key = true := by
  induction l generalizing i with
  | nil => simp [lows] at hi
  | cons x l ih =>
    unfold lows at hi
    rw [List.takeWhile_cons] at hi
    split at hi
    · rename_i hx
      cases i with
      | zero => exact ⟨x, rfl, hx⟩
      | succ i => exact ih (by simpa [lows] using hi)
    · simp at hi
theorem lows_at {α : Type} {l : List (By × α)} {key : By} {x : By × α} (h : l[lows l key]? = some x) : blt x.1 key = false := by
  induction l with
  | nil => simp at h
  | cons y l ih =>
    unfold lows at h
    rw [List.takeWhile_cons] at h
    split at h
    · exact ih (by simpa [lows] using h)
    · rename_i hy
      simp at h; subst h; simpa using hy
theorem lows_ge {α : Type} {l : List (By × α)} (ho : Ord l) {key : By} {i : Nat} (hi : lows l key ≤ i) {x : By × α} (h : l[i]? = some x) : blt x.1 key = false := by
  have hlt : i < l.length := (List.getElem?_eq_some_iff.1 h).1
  rcases Nat.eq_or_lt_of_le hi with e | e
  · subst e; exact lows_at h
  · obtain ⟨y, hy⟩ : ∃ y, l[lows l key]? = some y := ⟨_, List.getElem?_eq_getElem (by omega)⟩
    have h1 := lows_at hy
    have h2 : blt y.1 x.1 = true := by
      have := List.pairwise_iff_getElem.1 ho (lows l key) i (by omega) hlt e
      rw [List.getElem?_eq_getElem (by omega)] at hy h
      injection hy with hy; injection h with h
      rw [← hy, ← h]; exact this
    rcases hx : blt x.1 key with _ | _
    · rfl
    · rw [blt_trans h2 hx] at h1; cases h1
theorem lows_eq {α : Type} {l : List (By × α)} {key : By} {i : Nat} (hi : i ≤ l.length) (h1 : ∀ j x, j < i → l[j]? = some x → blt x.1 key = true) (h2 : ∀ x, l[i]? = some x → blt x.1 key = false) : lows l key = i := by
  rcases Nat.lt_trichotomy (lows l key) i with h | h | h
  · obtain ⟨y, hy⟩ : ∃ y, l[lows l key]? = some y := ⟨_, List.getElem?_eq_getElem (by omega)⟩
    have := lows_at hy
    rw [h1 _ _ h hy] at this; cases this
  · exact h
  · obtain ⟨x, hx, hb⟩ := lows_lt h
    rw [h2 _ hx] at hb; cases hb
def hasK {α : Type} (l : List (By × α)) (key : By) : Bool := match l[lows l key]? with
  | some x => x.1 == key
  | none => false
def getK (l : List It) (key : By) : Option By := match l[lows l key]? with
  | some x => if x.1 = key then some x.2 else none
  | none => none
def putK (l : List It) (key v : By) : List It := l.take (lows l key) ++ (key, v) :: l.drop (lows l key + (hasK l key).toNat)
def delK (l : List It) (key : By) : List It := l.take (lows l key) ++ l.drop (lows l key + (hasK l key).toNat)
theorem lows_app_ge {α : Type} {l k : List (By × α)} {key : By} (h : ∀ x ∈ l, blt x.1 key = true) : lows (l ++ k) key = l.length + lows k key := by
  induction l with
  | nil => simp [lows]
  | cons x l ih =>
    have hx := h x (by simp)
    have := ih (fun y hy => h y (by simp [hy]))
    unfold lows at this ⊢
    rw [List.cons_append, List.takeWhile_cons, if_pos hx, List.length_cons, this, List.length_cons]; omega
theorem lows_app_lt {α : Type} {l k : List (By × α)} {key : By} (h : ∀ x ∈ k, blt x.1 key = false) : lows (l ++ k) key = lows l key := by
  induction l with
  | nil =>
    cases k with
    | nil => rfl
    | cons x k => unfold lows; rw [List.nil_append, List.takeWhile_cons, if_neg (by rw [h x (by simp)]; simp)]; rfl
  | cons x l ih =>
    unfold lows at ih ⊢
    rw [List.cons_append, List.takeWhile_cons, List.takeWhile_cons]
    split
    · rw [List.length_cons, List.length_cons, ih]
    · rfl
section
variable {a b c : List It} {key : By}
theorem mid_facts (ha : ∀ x ∈ a, blt x.1 key = true) (hc : ∀ x ∈ c, blt key x.1 = true) :
    lows (a ++ (b ++ c)) key = a.length + lows b key ∧ hasK (a ++ (b ++ c)) key = hasK b key ∧ getK (a ++ (b ++ c)) key = getK b key := by
  have e : lows (a ++ (b ++ c)) key = a.length + lows b key := by
    rw [lows_app_ge ha, lows_app_lt fun x hx => blt_asymm (hc x hx)]
  have e2 : (a ++ (b ++ c))[a.length + lows b key]? = (b ++ c)[lows b key]? := by
    rw [List.getElem?_append_right (by omega)]; congr 1; omega
  have hle := lows_le b key
  refine ⟨e, ?_, ?_⟩
  · unfold hasK
    rw [e, e2]
    rcases Nat.lt_or_ge (lows b key) b.length with h | h
    · rw [List.getElem?_append_left h]
    · rw [List.getElem?_append_right h, List.getElem?_eq_none (l := b) h]
      rcases hx : c[lows b key - b.length]? with _ | x
      · rfl
      · simp only; have := blt_ne (hc x (List.mem_of_getElem? hx))
        simp; exact fun e => this e.symm
  · unfold getK
    rw [e, e2]
    rcases Nat.lt_or_ge (lows b key) b.length with h | h
    · rw [List.getElem?_append_left h]
    · rw [List.getElem?_append_right h, List.getElem?_eq_none (l := b) h]
      rcases hx : c[lows b key - b.length]? with _ | x
      · rfl
      · simp only; have := blt_ne (hc x (List.mem_of_getElem? hx))
        rw [if_neg (fun e => this e.symm)]
theorem has_le {α : Type} (l : List (By × α)) (key : By) : lows l key + (hasK l key).toNat ≤ l.length := by
  have := lows_le l key
  unfold hasK
  rcases h : l[lows l key]? with _ | x
  · simpa
  · have := (List.getElem?_eq_some_iff.1 h).1
    have := Bool.toNat_le (x.1 == key)
    simp only; omega
theorem mid_put (ha : ∀ x ∈ a, blt x.1 key = true) (hc : ∀ x ∈ c, blt key x.1 = true) (v : By) : putK (a ++ (b ++ c)) key v = a ++ (putK b key v ++ c) := by
  obtain ⟨e1, e2, _⟩ := mid_facts (b := b) ha hc
  have := has_le b key
  unfold putK
  rw [e1, e2, List.take_length_add_append, Nat.add_assoc, List.drop_length_add_append, List.take_append_of_le_length (lows_le b key), List.drop_append_of_le_length (by omega)]
  simp
theorem mid_del (ha : ∀ x ∈ a, blt x.1 key = true) (hc : ∀ x ∈ c, blt key x.1 = true) : delK (a ++ (b ++ c)) key = a ++ (delK b key ++ c) := by
  obtain ⟨e1, e2, _⟩ := mid_facts (b := b) ha hc
  have := has_le b key
  unfold delK
  rw [e1, e2, List.take_length_add_append, Nat.add_assoc, List.drop_length_add_append, List.take_append_of_le_length (lows_le b key), List.drop_append_of_le_length (by omega)]
  simp
end
def isz (x : It) : Nat := 4 + x.1.length + x.2.length
def isum (l : List It) : Nat := (l.map isz).sum
theorem isum_nil : isum [] = 0 := rfl
theorem isum_cons (x : It) (l : List It) : isum (x :: l) = isz x + isum l := by simp [isum]
theorem isum_app (l k : List It) : isum (l ++ k) = isum l + isum k := by simp [isum]
theorem isum_take_drop (l : List It) (i : Nat) : isum (l.take i) + isum (l.drop i) = isum l := by rw [← isum_app, List.take_append_drop]
theorem isum_take_succ (l : List It) (i : Nat) (h : i < l.length) : isum (l.take (i + 1)) = isum (l.take i) + isz l[i] := by
  rw [List.take_succ_eq_append_getElem h, isum_app, isum_cons, isum_nil]; omega
theorem isz_pos (x : It) : 4 ≤ isz x := by unfold isz; omega
theorem len_le_isum (l : List It) : 4 * l.length ≤ isum l := by
  induction l with
  | nil => simp [isum]
  | cons x l ih => rw [isum_cons, List.length_cons]; have := isz_pos x; omega
def midFrom (all : Nat) : List It → Nat → Nat
  | [], _ => 0
  | x :: l, left => if left + isz x < all - left then 1 + midFrom all l (left + isz x) else 0
def mid (l : List It) : Nat := midFrom (isum l) l 0
theorem midFrom_spec (all m : Nat) (l : List It) (left : Nat) (hm : ∀ x ∈ l, isz x ≤ m) (ha : left + isum l = all) (hl : 2 * left < all + m) (h0 : 0 < l.length) :
    midFrom all l left < l.length ∧ all ≤ 2 * (left + isum (l.take (midFrom all l left))) + m ∧ 2 * (left + isum (l.take (midFrom all l left))) < all + m := by
  induction l generalizing left with
  | nil => simp at h0
  | cons x l ih =>
    have hx := hm x (by simp)
    rw [isum_cons] at ha
    unfold midFrom
    split
    · rename_i h
      cases l with
      | nil => rw [isum_nil] at ha; omega
      | cons y l =>
        have := ih (left + isz x) (fun z hz => hm z (by simp [hz])) (by omega) (by omega) (by simp)
        rw [Nat.add_comm 1, List.take_succ_cons, isum_cons, List.length_cons]
        omega
    · simp only [List.take_zero, isum_nil, List.length_cons]; omega
theorem mid_spec (m : Nat) (l : List It) (hm : ∀ x ∈ l, isz x ≤ m) (h0 : 0 < l.length) (hp : 0 < m) :
    mid l < l.length ∧ isum l ≤ 2 * isum (l.take (mid l)) + m ∧ 2 * isum (l.take (mid l)) < isum l + m := by
  have := midFrom_spec (isum l) m l 0 hm (by omega) (by omega) h0
  unfold mid
  simpa using this
def Kid : Nat → Type
  | 0 => By
  | k + 1 => Option Nat × List (By × Kid k)
abbrev Its (k : Nat) := List (By × Kid k)
abbrev T (k : Nat) := Kid (k + 1)
def pg {k : Nat} (t : T k) : Option Nat := t.1
def sub {k : Nat} (t : T k) : Its k := t.2
def mkT {k : Nat} (p : Option Nat) (l : Its k) : T k := (p, l)
theorem pg_mk {k : Nat} (p : Option Nat) (l : Its k) : pg (mkT p l) = p := rfl
theorem sub_mk {k : Nat} (p : Option Nat) (l : Its k) : sub (mkT p l) = l := rfl
def be2 (n : Nat) : By := [UInt8.ofNat (n / 256), UInt8.ofNat n]
def dig : Option Nat → By
  | none => [0, 0]
  | some p => be2 p
theorem length_dig (o : Option Nat) : (dig o).length = 2 := by cases o <;> rfl
def rst : (k : Nat) → Kid k → By
  | 0, v => v
  | _ + 1, t => dig (pg t)
def it {k : Nat} (x : By × Kid k) : It := (x.1, rst k x.2)
def its {k : Nat} (l : Its k) : List It := l.map it
theorem its_length {k : Nat} (l : Its k) : (its l).length = l.length := by simp [its]
theorem its_app {k : Nat} (l m : Its k) : its (l ++ m) = its l ++ its m := by simp [its]
theorem its_take {k : Nat} (l : Its k) (i : Nat) : its (l.take i) = (its l).take i := by simp [its, List.map_take]
theorem its_drop {k : Nat} (l : Its k) (i : Nat) : its (l.drop i) = (its l).drop i := by simp [its, List.map_drop]
def nsz {k : Nat} (l : Its k) : Nat := 1 + isum (its l)
def itB (x : It) : By := be2 x.1.length ++ (be2 x.2.length ++ (x.1 ++ x.2))
def itsB (l : List It) : By := (l.map itB).flatten
def told (k : Nat) (l : Its k) : By := UInt8.ofNat k :: itsB (its l)
theorem length_itB (x : It) : (itB x).length = isz x := by simp [itB, isz, be2]; omega
theorem length_itsB (l : List It) : (itsB l).length = isum l := by
  induction l with
  | nil => rfl
  | cons x l ih => rw [show itsB (x :: l) = itB x ++ itsB l by simp [itsB], List.length_append, length_itB, ih, isum_cons]
theorem length_told (k : Nat) (l : Its k) : (told k l).length = nsz l := by unfold told nsz; rw [List.length_cons, length_itsB]; omega
def nxt {α : Type} (hi : By) : List (By × α) → By
  | [] => hi
  | x :: _ => x.1
def ends (key hi : By) : Bool := hi.isEmpty || blt key hi
def inS (lo hi key : By) : Bool := !blt key lo && ends key hi
def may (k : Nat) (x : It) : Bool := if k = 0 then 1 ≤ x.1.length && x.1.length ≤ 256 && x.2.length ≤ 1024 else x.1.length ≤ 256 && x.2.length == 2
structure Right (k : Nat) (lo hi : By) (l : Its k) : Prop where
  ne : l ≠ []
  may : ∀ x ∈ l, may k (it x) = true
  has : ∀ x ∈ l, inS lo hi x.1 = true
  ord : Ord l
  two : 0 < k → 1 < l.length ∧ ∀ x, l[0]? = some x → x.1 = lo
def Kids {α : Type} (P : By → By → α → Prop) (hi : By) : List (By × α) → Prop
  | [] => True
  | x :: l => P x.1 (nxt hi l) x.2 ∧ Kids P hi l
theorem nxt_app {α : Type} (hi : By) (a b : List (By × α)) : nxt hi (a ++ b) = nxt (nxt hi b) a := by cases a <;> rfl
theorem Kids.cons {α : Type} {P : By → By → α → Prop} {hi : By} {x : By × α} {l : List (By × α)} : Kids P hi (x :: l) ↔ P x.1 (nxt hi l) x.2 ∧ Kids P hi l := Iff.rfl
theorem Kids.app {α : Type} {P : By → By → α → Prop} {hi : By} (a b : List (By × α)) : Kids P hi (a ++ b) ↔ Kids P (nxt hi b) a ∧ Kids P hi b := by
  induction a with
  | nil => simp [Kids]
  | cons x a ih => rw [List.cons_append, Kids.cons, Kids.cons, ih, nxt_app]; exact and_assoc.symm
theorem Kids.mono {α : Type} {P Q : By → By → α → Prop} (h : ∀ lo hi x, P lo hi x → Q lo hi x) {hi : By} {l : List (By × α)} (hk : Kids P hi l) : Kids Q hi l := by
  induction l with
  | nil => trivial
  | cons x l ih => exact ⟨h _ _ _ hk.1, ih hk.2⟩
def Ok : (k : Nat) → (min : Nat) → (lo hi : By) → Its k → Prop
  | 0, m, lo, hi, l => Right 0 lo hi l ∧ m ≤ nsz l ∧ nsz l ≤ 4011
  | k + 1, m, lo, hi, l => (Right (k + 1) lo hi l ∧ m ≤ nsz l ∧ nsz l ≤ 4011) ∧ Kids (fun lo hi (t : T k) => Ok k 1337 lo hi (sub t)) hi l
theorem Ok.here {k m : Nat} {lo hi : By} {l : Its k} (h : Ok k m lo hi l) : Right k lo hi l ∧ m ≤ nsz l ∧ nsz l ≤ 4011 := by
  cases k with
  | zero => exact h
  | succ k => exact h.1
def prs : (k : Nat) → Its k → List It
  | 0, l => l
  | k + 1, l => (l.map fun (x : By × T k) => prs k (sub x.2)).flatten
theorem flat_app {α β : Type} (f : α → List β) (l m : List α) : ((l ++ m).map f).flatten = (l.map f).flatten ++ (m.map f).flatten := by rw [List.map_append, List.flatten_append]
theorem prs_app {k : Nat} (l m : Its k) : prs k (l ++ m) = prs k l ++ prs k m := by
  cases k with
  | zero => rfl
  | succ k => exact flat_app (fun (x : By × T k) => prs k (sub x.2)) l m
theorem prs_cons {k : Nat} (x : By × T k) (m : Its (k + 1)) : prs (k + 1) (x :: m) = prs k (sub x.2) ++ prs (k + 1) m := rfl
theorem prs_nil (k : Nat) : prs k [] = [] := by cases k <;> rfl
theorem inS_iff {lo hi key : By} : inS lo hi key = true ↔ blt key lo = false ∧ (hi = [] ∨ blt key hi = true) := by
  unfold inS ends; simp
theorem kids_prs {α : Type} {P : By → By → α → Prop} {f : α → List It} (hP : ∀ lo hi x, P lo hi x → (∀ y ∈ f x, inS lo hi y.1 = true) ∧ Ord (f x)) {lo hi : By} {l : List (By × α)}
    (hk : Kids P hi l) (ho : Ord l) (hs : ∀ x ∈ l, inS lo hi x.1 = true) (hne : ∀ x ∈ l, hi = [] ∨ x.1 ≠ [] ∨ True) :
    (∀ y ∈ (l.map fun x => f x.2).flatten, inS lo hi y.1 = true ∧ ∀ x, l[0]? = some x → blt y.1 x.1 = false) ∧ Ord (l.map fun x => f x.2).flatten := by
  induction l generalizing lo with
  | nil => exact ⟨by simp, List.Pairwise.nil⟩
  | cons x l ih =>
    obtain ⟨h1, h2⟩ := hk
    obtain ⟨ox, ol⟩ := Ord.cons_iff.1 ho
    have hx := hs x (by simp)
    obtain ⟨p1, p2⟩ := hP _ _ _ h1
    have ih := ih (lo := lo) h2 ol (fun y hy => hs y (by simp [hy])) (fun y hy => .inr (.inr trivial))
    have hnx : ∀ y ∈ f x.2, blt y.1 x.1 = false ∧ inS lo hi y.1 = true ∧ ∀ z, l[0]? = some z → blt y.1 z.1 = true := fun y hy => by
      have h := inS_iff.1 (p1 y hy)
      refine ⟨h.1, ?_, fun z hz => ?_⟩
      · rw [inS_iff] at hx ⊢
        refine ⟨not_blt_trans hx.1 h.1, ?_⟩
        cases l with
        | nil => exact h.2
        | cons z l =>
          have hz := inS_iff.1 (hs z (by simp))
          have hxz := ox z (by simp)
          have hy2 : blt y.1 z.1 = true := h.2.resolve_left fun e => by
            have e : z.1 = [] := e
            rw [e, blt_nil] at hxz; cases hxz
          rcases hz.2 with e | e
          · exact .inl e
          · exact .inr (blt_trans hy2 e)
      · cases l with
        | nil => simp at hz
        | cons z' l =>
          simp at hz; subst hz
          have hxz := ox z' (by simp)
          exact h.2.resolve_left fun e => by
            have e : z'.1 = [] := e
            rw [e, blt_nil] at hxz; cases hxz
    rw [List.map_cons, List.flatten_cons]
    refine ⟨fun y hy => ?_, Ord.app_iff.2 ⟨p2, ih.2, fun a ha b hb => ?_⟩⟩
    · rcases List.mem_append.1 hy with hy | hy
      · exact ⟨(hnx y hy).2.1, fun z hz => by simp at hz; subst hz; exact (hnx y hy).1⟩
      · refine ⟨(ih.1 y hy).1, fun z hz => ?_⟩
        simp at hz; subst hz
        cases l with
        | nil => simp at hy
        | cons z' l =>
          exact blt_asymm (blt_of_lt_le (ox z' (by simp)) ((ih.1 y hy).2 z' rfl))
    · cases l with
      | nil => simp at hb
      | cons z l => exact blt_of_lt_le ((hnx a ha).2.2 z rfl) ((ih.1 b hb).2 z rfl)
theorem ok_prs {k m : Nat} {lo hi : By} {l : Its k} (h : Ok k m lo hi l) : (∀ y ∈ prs k l, inS lo hi y.1 = true) ∧ Ord (prs k l) := by
  induction k generalizing m lo hi with
  | zero => exact ⟨fun y hy => h.1.has y hy, h.1.ord⟩
  | succ k ih =>
    have := kids_prs (f := fun (t : T k) => prs k (sub t)) (fun lo hi x hx => ih hx) h.2 h.1.1.ord h.1.1.has (fun _ _ => .inr (.inr trivial))
    exact ⟨fun y hy => (this.1 y hy).1, this.2⟩
theorem kids_part {k : Nat} {lo hi : By} {a b : Its (k + 1)} {x : By × T k} {key : By} (hk : Kids (fun lo hi (t : T k) => Ok k 1337 lo hi (sub t)) hi (a ++ x :: b)) (ho : Ord (a ++ x :: b)) (hs : ∀ y ∈ a ++ x :: b, inS lo hi y.1 = true) (hkey : inS x.1 (nxt hi b) key = true) :
    (∀ y ∈ prs (k + 1) a, blt y.1 key = true) ∧ (∀ y ∈ prs (k + 1) b, blt key y.1 = true) ∧ prs (k + 1) (a ++ x :: b) = prs (k + 1) a ++ (prs k (sub x.2) ++ prs (k + 1) b) := by
  have hP : ∀ lo hi (t : T k), Ok k 1337 lo hi (sub t) → (∀ y ∈ prs k (sub t), inS lo hi y.1 = true) ∧ Ord (prs k (sub t)) := fun lo hi t ht => ok_prs ht
  obtain ⟨ka, kb⟩ := (Kids.app a (x :: b)).1 hk
  obtain ⟨oa, ob, oab⟩ := Ord.app_iff.1 ho
  obtain ⟨ox, ob⟩ := Ord.cons_iff.1 ob
  have hkey := inS_iff.1 hkey
  refine ⟨fun y hy => ?_, fun y hy => ?_, (prs_app a (x :: b)).trans (by rw [prs_cons])⟩
  · have ha : ∀ y ∈ a, inS lo x.1 y.1 = true := fun y hy => by
      have := inS_iff.1 (hs y (by simp [hy]))
      exact inS_iff.2 ⟨this.1, .inr (oab y hy x (by simp))⟩
    have := (kids_prs (f := fun (t : T k) => prs k (sub t)) hP ka oa ha (fun _ _ => .inr (.inr trivial))).1 y hy
    have h2 := inS_iff.1 this.1
    cases a with
    | nil => cases hy
    | cons z a =>
      have hx : x.1 ≠ [] := fun e => by have := oab z (by simp) x (by simp); rw [e, blt_nil] at this; cases this
      exact blt_of_lt_le (h2.2.resolve_left hx) hkey.1
  · have := (kids_prs (f := fun (t : T k) => prs k (sub t)) hP kb.2 ob (fun y hy => hs y (by simp [hy])) (fun _ _ => .inr (.inr trivial))).1 y hy
    cases b with
    | nil => cases hy
    | cons z b =>
      have hz : z.1 ≠ [] := fun e => by have := ox z (by simp); rw [e, blt_nil] at this; cases this
      exact blt_of_lt_le (hkey.2.resolve_left hz) (this.2 z rfl)
def toward {α : Type} (l : List (By × α)) (key : By) : Nat := if hasK l key then lows l key else lows l key - 1
theorem toward_spec {α : Type} {lo hi : By} {l : List (By × α)} (ho : Ord l) (hs : ∀ y ∈ l, inS lo hi y.1 = true) (hne : l ≠ []) (h0 : ∀ x, l[0]? = some x → x.1 = lo) {key : By} (hkey : inS lo hi key = true) :
    ∃ x, l[toward l key]? = some x ∧ inS x.1 (nxt hi (l.drop (toward l key + 1))) key = true := by
  have hk := inS_iff.1 hkey
  have hpos : 0 < l.length := List.length_pos_iff.2 hne
  unfold toward
  by_cases hh : hasK l key = true
  · rw [if_pos hh]
    unfold hasK at hh
    rcases hx : l[lows l key]? with _ | x
    · rw [hx] at hh; cases hh
    · rw [hx] at hh
      have hh : x.1 = key := by simpa using hh
      refine ⟨x, rfl, inS_iff.2 ⟨by rw [hh]; exact blt_irrefl _, ?_⟩⟩
      rcases hd : l.drop (lows l key + 1) with _ | ⟨z, r⟩
      · exact hk.2
      · have hz : l[lows l key + 1]? = some z := by have := congrArg (·[0]?) hd; simpa using this
        refine .inr ?_
        show blt key z.1 = true
        rw [← hh]
        have hi1 := (List.getElem?_eq_some_iff.1 hx)
        have hi2 := (List.getElem?_eq_some_iff.1 hz)
        have := List.pairwise_iff_getElem.1 ho _ (lows l key + 1) hi1.1 hi2.1 (by omega)
        rw [hi1.2, hi2.2] at this; exact this
  · rw [if_neg hh]
    have hlo : 0 < lows l key := by
      rcases Nat.eq_zero_or_pos (lows l key) with e | e
      · exfalso
        obtain ⟨x, hx⟩ : ∃ x, l[0]? = some x := ⟨_, List.getElem?_eq_getElem hpos⟩
        have h1 := lows_at (l := l) (key := key) (x := x) (by rw [e]; exact hx)
        rw [h0 x hx] at h1
        rcases le_of_not h1 with h | h
        · rw [h] at hk; cases hk.1
        · apply hh
          unfold hasK
          rw [e, hx]
          simp [h0 x hx, h]
      · exact e
    obtain ⟨x, hx, hb⟩ := lows_lt (l := l) (key := key) (i := lows l key - 1) (by omega)
    refine ⟨x, hx, inS_iff.2 ⟨blt_asymm hb, ?_⟩⟩
    rw [Nat.sub_add_cancel hlo]
    rcases hd : l.drop (lows l key) with _ | ⟨z, r⟩
    · exact hk.2
    · have hz : l[lows l key]? = some z := by have := congrArg (·[0]?) hd; simpa using this
      refine .inr ?_
      show blt key z.1 = true
      rcases le_of_not (lows_at hz) with h | h
      · exact h
      · exfalso; apply hh
        unfold hasK
        rw [hz]; simp [h]
def keyAt {α : Type} (l : List (By × α)) (i : Nat) : By := match l[i]? with
  | some x => x.1
  | none => []
def KidsOk : (k : Nat) → By → Its k → Prop
  | 0, _, _ => True
  | k + 1, hi, l => Kids (fun lo hi (t : T k) => Ok k 1337 lo hi (sub t)) hi l
theorem ok_iff {k m : Nat} {lo hi : By} {l : Its k} : Ok k m lo hi l ↔ (Right k lo hi l ∧ m ≤ nsz l ∧ nsz l ≤ 4011) ∧ KidsOk k hi l := by
  cases k with
  | zero => exact ⟨fun h => ⟨h, trivial⟩, fun h => h.1⟩
  | succ k => exact Iff.rfl
theorem KidsOk.app {k : Nat} {hi : By} (a b : Its k) : KidsOk k hi (a ++ b) ↔ KidsOk k (nxt hi b) a ∧ KidsOk k hi b := by
  cases k with
  | zero => exact ⟨fun _ => ⟨trivial, trivial⟩, fun _ => trivial⟩
  | succ k => exact Kids.app a b
theorem KidsOk.leaf (hi hi' : By) (k : Nat) (l : Its k) (h : KidsOk k hi l) (e : 0 < k → hi = hi') : KidsOk k hi' l := by
  cases k with
  | zero => trivial
  | succ k => rw [← e (by omega)]; exact h
structure Near (k : Nat) (lo hi : By) (l : Its k) : Prop where
  may : ∀ x ∈ l, may k (it x) = true
  has : ∀ x ∈ l, inS lo hi x.1 = true
  ord : Ord l
  first : 0 < k → ∃ x, l[0]? = some x ∧ x.1 = lo
  kids : KidsOk k hi l
theorem Ok.near {k m : Nat} {lo hi : By} {l : Its k} (h : Ok k m lo hi l) : Near k lo hi l := by
  obtain ⟨⟨r, _, _⟩, hk⟩ := ok_iff.1 h
  refine ⟨r.may, r.has, r.ord, fun h0 => ?_, hk⟩
  obtain ⟨h1, h2⟩ := r.two h0
  exact ⟨_, List.getElem?_eq_getElem (by omega), h2 _ (List.getElem?_eq_getElem (by omega))⟩
theorem may_key {k : Nat} {x : It} (h : may k x = true) : x.1.length ≤ 256 := by
  unfold may at h
  split at h <;> simp only [Bool.and_eq_true, decide_eq_true_eq] at h
  · exact h.1.2
  · exact h.1
theorem may_size {k : Nat} {x : By × Kid k} (h : may k (it x) = true) : isz (it x) ≤ 1284 ∧ (0 < k → isz (it x) ≤ 262) := by
  unfold may at h
  unfold isz
  by_cases e : k = 0
  · rw [if_pos e] at h
    simp at h
    omega
  · rw [if_neg e] at h
    simp at h
    omega
theorem isum_le {l : List It} {m : Nat} (h : ∀ x ∈ l, isz x ≤ m) : isum l ≤ m * l.length := by
  induction l with
  | nil => simp [isum]
  | cons x l ih =>
    rw [isum_cons, List.length_cons, Nat.mul_add, Nat.mul_one]
    have := ih fun y hy => h y (by simp [hy])
    have := h x (by simp)
    omega
theorem mem_its {k : Nat} {l : Its k} {m : Nat} (h : ∀ x ∈ l, isz (it x) ≤ m) : ∀ x ∈ its l, isz x ≤ m := fun x hx => by
  unfold its at hx
  obtain ⟨y, hy, rfl⟩ := List.mem_map.1 hx
  exact h y hy
theorem Near.ok {k m : Nat} {lo hi : By} {l : Its k} (h : Near k lo hi l) (hm : m ≤ nsz l) (h2 : nsz l ≤ 4011) (h1 : l ≠ []) (hl : 0 < k → 1 < l.length) : Ok k m lo hi l :=
  ok_iff.2 ⟨⟨⟨h1, h.may, h.has, h.ord, fun h0 => ⟨hl h0, fun x hx => by
    obtain ⟨y, hy, e⟩ := h.first h0
    rw [hy] at hx; injection hx with hx; rw [← hx]; exact e⟩⟩, hm, h2⟩, h.kids⟩
theorem Near.big {k : Nat} {lo hi : By} {l : Its k} (h : Near k lo hi l) (hm : 1337 ≤ nsz l) : l ≠ [] ∧ 1 < l.length := by
  have h1 := isum_le (mem_its fun x hx => (may_size (h.may x hx)).1)
  unfold nsz at hm
  rw [its_length] at h1
  have h2 : 1 < l.length := by
    rcases Nat.lt_or_ge 1 l.length with h | h
    · exact h
    · have := Nat.mul_le_mul_left 1284 h
      omega
  exact ⟨fun e => by rw [e] at h2; simp at h2, h2⟩
theorem Near.ok1 {k : Nat} {lo hi : By} {l : Its k} (h : Near k lo hi l) (hm : 1337 ≤ nsz l) (h2 : nsz l ≤ 4011) : Ok k 1337 lo hi l :=
  h.ok hm h2 (h.big hm).1 fun _ => (h.big hm).2
theorem Near.empty {k : Nat} {lo hi : By} {l : Its k} (h : Near k lo hi l) (e : l = []) : k = 0 := by
  rcases Nat.eq_zero_or_pos k with h0 | h0
  · exact h0
  · obtain ⟨x, hx, _⟩ := h.first h0
    rw [e] at hx; cases hx
def parts {k : Nat} (l : Its k) (key : By) : Its (k + 1) :=
  if nsz l ≤ 4011 then [(key, mkT none l)] else [(key, mkT none (l.take (mid (its l)))), (keyAt l (mid (its l)), mkT none (l.drop (mid (its l))))]
theorem keyAt_of {α : Type} {l : List (By × α)} {i : Nat} {x : By × α} (h : l[i]? = some x) : keyAt l i = x.1 := by unfold keyAt; rw [h]
theorem Near.take {k : Nat} {lo hi : By} {l : Its k} (h : Near k lo hi l) {i : Nat} {x : By × Kid k} (hx : l[i]? = some x) (hi0 : 0 < i) : Near k lo x.1 (l.take i) := by
  have e := List.take_append_drop i l
  have hd : l.drop i = x :: l.drop (i + 1) := by
    have h1 := List.getElem?_eq_some_iff.1 hx
    rw [List.drop_eq_getElem_cons h1.1, h1.2]
  have ho := h.ord
  rw [← e] at ho
  obtain ⟨o1, o2, o3⟩ := Ord.app_iff.1 ho
  refine ⟨fun y hy => h.may y (List.mem_of_mem_take hy), fun y hy => ?_, o1, fun h0 => ?_, ?_⟩
  · exact inS_iff.2 ⟨(inS_iff.1 (h.has y (List.mem_of_mem_take hy))).1, .inr (o3 y hy x (by rw [hd]; simp))⟩
  · obtain ⟨y, hy, e⟩ := h.first h0
    exact ⟨y, by rw [List.getElem?_take_of_lt hi0]; exact hy, e⟩
  · have hk := h.kids
    rw [← e, hd] at hk
    exact ((KidsOk.app _ _).1 hk).1
theorem Near.drop {k : Nat} {lo hi : By} {l : Its k} (h : Near k lo hi l) {i : Nat} {x : By × Kid k} (hx : l[i]? = some x) : Near k x.1 hi (l.drop i) := by
  have e := List.take_append_drop i l
  have hd : l.drop i = x :: l.drop (i + 1) := by
    have h1 := List.getElem?_eq_some_iff.1 hx
    rw [List.drop_eq_getElem_cons h1.1, h1.2]
  have ho := h.ord
  rw [← e] at ho
  obtain ⟨o1, o2, o3⟩ := Ord.app_iff.1 ho
  refine ⟨fun y hy => h.may y (List.mem_of_mem_drop hy), fun y hy => ?_, o2, fun h0 => ⟨x, by rw [hd]; rfl, rfl⟩, ?_⟩
  · refine inS_iff.2 ⟨?_, (inS_iff.1 (h.has y (List.mem_of_mem_drop hy))).2⟩
    rw [hd] at hy o2
    rcases List.mem_cons.1 hy with rfl | hy
    · exact blt_irrefl _
    · exact blt_asymm ((Ord.cons_iff.1 o2).1 y hy)
  · have hk := h.kids
    rw [← e] at hk
    exact ((KidsOk.app _ _).1 hk).2
structure Sect (k : Nat) (lo hi : By) (m : Its (k + 1)) : Prop where
  may : ∀ x ∈ m, may (k + 1) (it x) = true
  has : ∀ x ∈ m, inS lo hi x.1 = true
  ord : Ord m
  first : ∃ x m', m = x :: m' ∧ x.1 = lo
  kids : KidsOk (k + 1) hi m
theorem may_new {k : Nat} {key : By} (t : T k) (h : key.length ≤ 256) : may (k + 1) (it (k := k + 1) (key, t)) = true := by
  unfold may
  rw [if_neg (by omega)]
  simp [it, rst, length_dig, h]
theorem parts_sect {k : Nat} {lo hi : By} {l : Its k} (h : Near k lo hi l) (h1 : 1337 ≤ nsz l) (h2 : nsz l ≤ 5400) (hlo : lo.length ≤ 256) (hlh : hi = [] ∨ blt lo hi = true) :
    Sect k lo hi (parts l lo) ∧ prs (k + 1) (parts l lo) = prs k l ∧ isum (its (parts l lo)) ≤ 6 + lo.length + 262 ∧ (parts l lo).length ≤ 2 := by
  have hself : inS lo hi lo = true := inS_iff.2 ⟨blt_irrefl _, hlh⟩
  unfold parts
  by_cases hs : nsz l ≤ 4011
  · rw [if_pos hs]
    refine ⟨⟨fun x hx => ?_, fun x hx => ?_, List.pairwise_singleton _ _, ⟨_, _, rfl, rfl⟩, ?_⟩, ?_, ?_, by simp⟩
    · simp at hx; subst hx; exact may_new _ hlo
    · simp at hx; subst hx; exact hself
    · exact ⟨h.ok1 h1 hs, trivial⟩
    · rw [prs_cons, prs_nil, sub_mk, List.append_nil]
    · simp [its, isum, isz, it, rst, length_dig, pg_mk]; omega
  · rw [if_neg hs]
    have hmay := fun x hx => (may_size (h.may x hx)).1
    obtain ⟨m1, m2, m3⟩ := mid_spec 1284 (its l) (mem_its hmay) (by rw [its_length]; have := (h.big h1).2; omega) (by omega)
    generalize hi0 : mid (its l) = i at m1 m2 m3
    rw [its_length] at m1
    have hsum := isum_take_drop (its l) i
    rw [← its_take] at hsum m2 m3
    rw [← its_drop] at hsum
    unfold nsz at h1 h2 hs
    obtain ⟨x, hx⟩ : ∃ x, l[i]? = some x := ⟨_, List.getElem?_eq_getElem m1⟩
    have hpos : 0 < i := by
      rcases Nat.eq_zero_or_pos i with e | e
      · subst e; rw [List.take_zero] at m2; rw [show its (k := k) [] = [] from rfl, isum_nil] at m2; omega
      · exact e
    have ht := h.take hx hpos
    have hd := h.drop hx
    have hkx := keyAt_of hx
    have hxm : x ∈ l := List.mem_of_getElem? hx
    have hxl : x.1.length ≤ 256 := may_key (h.may x hxm)
    have hox : blt lo x.1 = true := by
      obtain ⟨y, hy⟩ : ∃ y, l[0]? = some y := ⟨_, List.getElem?_eq_getElem (by omega)⟩
      have h3 := (inS_iff.1 (h.has y (List.mem_of_getElem? hy))).1
      have e1 := List.getElem?_eq_some_iff.1 hx
      have e2 := List.getElem?_eq_some_iff.1 hy
      have := List.pairwise_iff_getElem.1 h.ord 0 i e2.1 e1.1 hpos
      rw [e1.2, e2.2] at this
      exact blt_of_le_lt h3 this
    rw [hkx]
    refine ⟨⟨fun y hy => ?_, fun y hy => ?_, ?_, ⟨_, _, rfl, rfl⟩, ?_⟩, ?_, ?_, by simp⟩
    · simp at hy; rcases hy with rfl | rfl
      · exact may_new _ hlo
      · exact may_new _ hxl
    · simp at hy; rcases hy with rfl | rfl
      · exact hself
      · exact h.has x hxm
    · refine Ord.cons_iff.2 ⟨fun y hy => ?_, List.pairwise_singleton _ _⟩
      simp at hy; subst hy; exact hox
    · refine ⟨ht.ok1 (l := l.take i) ?_ ?_, hd.ok1 (l := l.drop i) ?_ ?_, trivial⟩ <;> (unfold nsz; omega)
    · rw [prs_cons, prs_cons, prs_nil, sub_mk, sub_mk, List.append_nil, ← prs_app, List.take_append_drop]
    · simp [its, isum, isz, it, rst, length_dig, pg_mk]; omega
theorem Near.join {k : Nat} {lo m hi : By} {p q : Its k} (hp : Near k lo m p) (hq : Near k m hi q) (hm : m ≠ []) (hlm : blt m lo = false) (hmh : hi = [] ∨ blt m hi = true) : Near k lo hi (p ++ q) := by
  refine ⟨fun x hx => ?_, fun x hx => ?_, Ord.app_iff.2 ⟨hp.ord, hq.ord, fun x hx y hy => ?_⟩, fun h0 => ?_, (KidsOk.app p q).2 ⟨?_, hq.kids⟩⟩
  · exact (List.mem_append.1 hx).elim (hp.may x) (hq.may x)
  · rcases List.mem_append.1 hx with hx | hx
    · have h := inS_iff.1 (hp.has x hx)
      exact inS_iff.2 ⟨h.1, hmh.imp_right fun e => blt_trans (h.2.resolve_left hm) e⟩
    · have h := inS_iff.1 (hq.has x hx)
      exact inS_iff.2 ⟨not_blt_trans hlm h.1, h.2⟩
  · exact blt_of_lt_le ((inS_iff.1 (hp.has x hx)).2.resolve_left hm) (inS_iff.1 (hq.has y hy)).1
  · obtain ⟨x, hx, e⟩ := hp.first h0
    exact ⟨x, by rw [List.getElem?_append_left (List.getElem?_eq_some_iff.1 hx).1]; exact hx, e⟩
  · refine KidsOk.leaf m _ k p hp.kids fun h0 => ?_
    obtain ⟨x, hx, e⟩ := hq.first h0
    cases q with
    | nil => cases hx
    | cons y q => simp at hx; subst hx; exact e.symm
theorem Near.splice {k : Nat} {lo hi : By} {a c b m : Its (k + 1)} {x : By × T k} {c' : Its (k + 1)} (h : Near (k + 1) lo hi (a ++ (c ++ b))) (hc : c = x :: c') (s : Sect k x.1 (nxt hi b) m) : Near (k + 1) lo hi (a ++ (m ++ b)) := by
  subst hc
  obtain ⟨y, m', rfl, hy⟩ := s.first
  obtain ⟨oa, ocb, oacb⟩ := Ord.app_iff.1 h.ord
  obtain ⟨oc, ob, ocb'⟩ := Ord.app_iff.1 ocb
  have hx := inS_iff.1 (h.has x (by simp))
  have hlast : ∀ z ∈ y :: m', ∀ u ∈ b, blt z.1 u.1 = true := fun z hz u hu => by
    have hz := inS_iff.1 (s.has z hz)
    cases b with
    | nil => cases hu
    | cons v b =>
      have hv : v.1 ≠ [] := fun e => by have := ocb' x (by simp) v (by simp); rw [e, blt_nil] at this; cases this
      have h1 : blt z.1 v.1 = true := hz.2.resolve_left hv
      rcases List.mem_cons.1 hu with rfl | hu
      · exact h1
      · exact blt_trans h1 ((Ord.cons_iff.1 ob).1 u hu)
  refine ⟨fun z hz => ?_, fun z hz => ?_, Ord.app_iff.2 ⟨oa, Ord.app_iff.2 ⟨s.ord, ob, hlast⟩, fun z hz u hu => ?_⟩, fun _ => ?_, ?_⟩
  · rcases List.mem_append.1 hz with hz | hz
    · exact h.may z (by simp [hz])
    · rcases List.mem_append.1 hz with hz | hz
      · exact s.may z hz
      · exact h.may z (List.mem_append.2 (.inr (List.mem_append.2 (.inr hz))))
  · rcases List.mem_append.1 hz with hz | hz
    · exact h.has z (by simp [hz])
    · rcases List.mem_append.1 hz with hz | hz
      · have h1 := inS_iff.1 (s.has z hz)
        refine inS_iff.2 ⟨not_blt_trans hx.1 h1.1, ?_⟩
        cases b with
        | nil => exact h1.2
        | cons v b =>
          have h2 := inS_iff.1 (h.has v (by simp))
          exact h2.2.imp_right fun e => blt_trans (hlast z ‹z ∈ y :: m'› v (by simp)) e
      · exact h.has z (List.mem_append.2 (.inr (List.mem_append.2 (.inr hz))))
  · have hzx := oacb z hz x (by simp)
    rcases List.mem_append.1 hu with hu | hu
    · exact blt_of_lt_le hzx (inS_iff.1 (s.has u hu)).1
    · exact oacb z hz u (List.mem_append.2 (.inr hu))
  · obtain ⟨v, hv, e⟩ := h.first (by omega)
    cases a with
    | nil =>
      simp at hv; subst hv
      exact ⟨y, by simp, hy.trans e⟩
    | cons u a => exact ⟨v, by simpa using hv, e⟩
  · have hk := (KidsOk.app a _).1 h.kids
    have hk2 := (KidsOk.app _ b).1 hk.2
    refine (KidsOk.app a _).2 ⟨?_, (KidsOk.app _ b).2 ⟨s.kids, hk2.2⟩⟩
    rw [show nxt hi (y :: m' ++ b) = nxt hi (x :: c' ++ b) from hy]
    exact hk.1
def kidAt {k : Nat} (l : Its (k + 1)) (i : Nat) : T k := match l[i]? with
  | some x => x.2
  | none => mkT none []
def repl {α : Type} (l : List α) (i old : Nat) (m : List α) : List α := l.take i ++ (m ++ l.drop (i + old))
def hang {k : Nat} (above : Its (k + 1)) (i : Nat) (n : Its k) : Its (k + 1) :=
  if nsz n < 1337 then
    if i + 1 < above.length then repl above i 2 (parts (n ++ sub (kidAt above (i + 1))) (keyAt above i))
    else repl above (i - 1) 2 (parts (sub (kidAt above (i - 1)) ++ n) (keyAt above (i - 1)))
  else repl above i 1 (parts n (keyAt above i))
theorem kidAt_of {k : Nat} {l : Its (k + 1)} {i : Nat} {x : By × T k} (h : l[i]? = some x) : kidAt l i = x.2 := by unfold kidAt; rw [h]
theorem cut_at {α : Type} {l : List α} {i : Nat} {x : α} (h : l[i]? = some x) : l = l.take i ++ x :: l.drop (i + 1) := by
  have h1 := List.getElem?_eq_some_iff.1 h
  rw [← h1.2, ← List.drop_eq_getElem_cons h1.1, List.take_append_drop]
theorem take_len {α : Type} {l : List α} {i : Nat} {x : α} (h : l[i]? = some x) : (l.take i).length = i := by
  have h1 := (List.getElem?_eq_some_iff.1 h).1
  rw [List.length_take]; omega
structure Cut {k : Nat} (l : Its (k + 1)) (i : Nat) (x : By × T k) (a b : Its (k + 1)) : Prop where
  eq : l = a ++ x :: b
  len : a.length = i
theorem Cut.of {k : Nat} {l : Its (k + 1)} {i : Nat} {x : By × T k} (h : l[i]? = some x) : Cut l i x (l.take i) (l.drop (i + 1)) := ⟨cut_at h, take_len h⟩
theorem near_kid {k : Nat} {lo hi : By} {a b : Its (k + 1)} {x : By × T k} (h : Near (k + 1) lo hi (a ++ x :: b)) : Ok k 1337 x.1 (nxt hi b) (sub x.2) := ((KidsOk.app a (x :: b)).1 h.kids).2.1
theorem near_span {k : Nat} {lo hi : By} {a b : Its (k + 1)} {x : By × T k} (h : Near (k + 1) lo hi (a ++ x :: b)) : (nxt hi b = [] ∨ blt x.1 (nxt hi b) = true) ∧ x.1.length ≤ 256 := by
  refine ⟨?_, may_key (h.may x (by simp))⟩
  obtain ⟨_, o, _⟩ := Ord.app_iff.1 h.ord
  cases b with
  | nil => exact (inS_iff.1 (h.has x (by simp))).2
  | cons y b => exact .inr ((Ord.cons_iff.1 o).1 y (by simp))
theorem sum_head {k : Nat} (x : By × T k) (c : Its (k + 1)) : 6 + x.1.length ≤ isum (its (x :: c)) := by
  show 6 + x.1.length ≤ isum (it x :: its c)
  rw [isum_cons]
  have : isz (it x) = 6 + x.1.length := by simp [isz, it, rst, length_dig]; omega
  omega
theorem hang_near {k : Nat} {lo hi : By} {above : Its (k + 1)} {i : Nat} {x : By × T k} (h : Near (k + 1) lo hi above) (hx : above[i]? = some x) (h2 : 1 < above.length) {n : Its k} (hn : Near k x.1 (nxt hi (above.drop (i + 1))) n) (hs : nsz n ≤ 5400) :
    Near (k + 1) lo hi (hang above i n) ∧ nsz (hang above i n) ≤ nsz above + 262 ∧ prs (k + 1) (hang above i n) = prs (k + 1) (above.take i) ++ (prs k n ++ prs (k + 1) (above.drop (i + 1))) := by
  have e := cut_at hx
  have hl := take_len hx
  have hlt := (List.getElem?_eq_some_iff.1 hx).1
  generalize ha : above.take i = a at *
  generalize hb : above.drop (i + 1) = b at *
  unfold hang
  by_cases hsm : nsz n < 1337
  · rw [if_pos hsm]
    by_cases hr : i + 1 < above.length
    · rw [if_pos hr]
      obtain ⟨y, hy⟩ : ∃ y, above[i + 1]? = some y := ⟨_, List.getElem?_eq_getElem hr⟩
      rw [kidAt_of hy, keyAt_of hx]
      obtain ⟨b', rfl⟩ : ∃ b', b = y :: b' := by
        cases b with
        | nil => have := congrArg List.length hb; simp at this; omega
        | cons z b =>
          have : above[i + 1]? = some z := by have := congrArg (·[0]?) hb; simpa using this
          rw [this] at hy; injection hy with hy; exact ⟨b, by rw [hy]⟩
      have hd2 : above.drop (i + 2) = b' := by
        have := congrArg (List.drop 1) hb
        rwa [List.drop_drop] at this
      unfold repl
      rw [ha, hd2]
      have e2 : above = (a ++ [x]) ++ y :: b' := by rw [e]; simp
      have hky := near_kid (e2 ▸ h)
      have hsy := near_span (e2 ▸ h)
      have hsx := near_span (e ▸ h)
      have hxy : blt x.1 y.1 = true := (Ord.cons_iff.1 (Ord.app_iff.1 (e ▸ h.ord)).2.1).1 y (by simp)
      have hyne : y.1 ≠ [] := fun e => by rw [e, blt_nil] at hxy; cases hxy
      have hj : Near k x.1 (nxt hi b') (n ++ sub y.2) := hn.join hky.near hyne (blt_asymm hxy) hsy.1
      have hyb := (ok_iff.1 hky).1.2
      have hsz : nsz (n ++ sub y.2) + 1 = nsz n + nsz (sub y.2) := by unfold nsz; rw [its_app, isum_app]; omega
      have hn1 : 1 ≤ nsz n := by unfold nsz; omega
      have hxb : nxt hi b' = [] ∨ blt x.1 (nxt hi b') = true := hsy.1.imp_right fun e => blt_trans hxy e
      obtain ⟨s1, s2, s3, _⟩ := parts_sect hj (by omega) (by omega) hsx.2 hxb
      refine ⟨?_, ?_, ?_⟩
      · refine Near.splice (c := [x, y]) (x := x) (by rw [e] at h; simpa using h) rfl s1
      · unfold nsz at *
        rw [e, show a ++ x :: y :: b' = a ++ (x :: [y] ++ b') from rfl, its_app, its_app, its_app, its_app, isum_app, isum_app, isum_app, isum_app]
        have := sum_head x [y]
        omega
      · rw [prs_app, prs_app, s2, prs_app, prs_cons]; simp
    · rw [if_neg hr]
      have hi1 : i + 1 = above.length := by omega
      obtain ⟨z, hz⟩ : ∃ z, above[i - 1]? = some z := ⟨_, List.getElem?_eq_getElem (by omega)⟩
      rw [kidAt_of hz, keyAt_of hz]
      have hbn : b = [] := by rw [← hb, List.drop_eq_nil_of_le (by omega)]
      subst hbn
      have e3 := cut_at hz
      rw [Nat.sub_add_cancel (by omega)] at e3
      generalize ha2 : above.take (i - 1) = a' at *
      have hdx : above.drop i = [x] := by
        have := List.getElem?_eq_some_iff.1 hx
        rw [List.drop_eq_getElem_cons this.1, this.2, hb]
      rw [hdx] at e3
      have haz : a = a' ++ [z] := by
        have : a ++ [x] = (a' ++ [z]) ++ [x] := by rw [← e, e3]; simp
        exact List.append_cancel_right this
      unfold repl
      rw [ha2, show i - 1 + 2 = i + 1 by omega, hb]
      have hkz := near_kid (e3 ▸ h)
      have hsz' := near_span (e3 ▸ h)
      have hsx := near_span (e ▸ h)
      have hzx : blt z.1 x.1 = true := (Ord.cons_iff.1 (Ord.app_iff.1 (e3 ▸ h.ord)).2.1).1 x (by simp)
      have hxne : x.1 ≠ [] := fun e => by rw [e, blt_nil] at hzx; cases hzx
      have hj : Near k z.1 hi (sub z.2 ++ n) := Near.join hkz.near hn hxne (blt_asymm hzx) hsx.1
      have hzb := (ok_iff.1 hkz).1.2
      have hsz : nsz (sub z.2 ++ n) + 1 = nsz (sub z.2) + nsz n := by unfold nsz; rw [its_app, isum_app]; omega
      have hn1 : 1 ≤ nsz n := by unfold nsz; omega
      have hzh : hi = [] ∨ blt z.1 hi = true := hsx.1.imp_right fun e => blt_trans hzx e
      obtain ⟨s1, s2, s3, _⟩ := parts_sect hj (by omega) (by omega) hsz'.2 hzh
      refine ⟨?_, ?_, ?_⟩
      · refine Near.splice (c := [z, x]) (b := []) (x := z) (by rw [e3] at h; simpa using h) rfl s1
      · unfold nsz at *
        rw [e3, its_app, its_app, its_app, isum_app, isum_app, isum_app]
        have := sum_head z [x]
        have e0 : isum (its (k := k + 1) []) = 0 := rfl
        omega
      · rw [prs_app, prs_app, s2, prs_app, haz, prs_app, prs_cons, prs_nil]; simp
  · rw [if_neg hsm, keyAt_of hx]
    have hsx := near_span (e ▸ h)
    obtain ⟨s1, s2, s3, _⟩ := parts_sect hn (by omega) hs hsx.2 hsx.1
    unfold repl
    rw [ha, hb]
    refine ⟨Near.splice (c := [x]) (x := x) (by rw [e] at h; simpa using h) rfl s1, ?_, ?_⟩
    · unfold nsz at *
      rw [e, show a ++ x :: b = a ++ (x :: [] ++ b) from rfl, its_app, its_app, its_app, its_app, isum_app, isum_app, isum_app, isum_app]
      have := sum_head x []
      omega
    · rw [prs_app, prs_app, s2]
structure Edit (key : By) (F : List It → List It) : Prop where
  near : ∀ lo hi (l : Its 0), Near 0 lo hi l → inS lo hi key = true → Near 0 lo hi (F l)
  size : ∀ (l : Its 0), nsz (k := 0) (F l) ≤ nsz l + 1284
  mid : ∀ a b c : List It, (∀ x ∈ a, blt x.1 key = true) → (∀ x ∈ c, blt key x.1 = true) → F (a ++ (b ++ c)) = a ++ (F b ++ c)
def chg (key : By) (F : List It → List It) : (k : Nat) → Its k → Its k
  | 0, l => F l
  | k + 1, l => hang l (toward l key) (chg key F k (sub (kidAt l (toward l key))))
theorem chg_near {key : By} {F : List It → List It} (hF : Edit key F) {k m : Nat} {lo hi : By} {l : Its k} (h : Ok k m lo hi l) (hk : inS lo hi key = true) :
    Near k lo hi (chg key F k l) ∧ nsz (chg key F k l) ≤ nsz l + 1284 ∧ prs k (chg key F k l) = F (prs k l) := by
  induction k generalizing m lo hi with
  | zero => exact ⟨hF.near lo hi l h.near hk, hF.size l, rfl⟩
  | succ k ih =>
    have hn := h.near
    have hr := (ok_iff.1 h).1
    obtain ⟨x, hx, hkx⟩ := toward_spec hn.ord hn.has hr.1.ne (hr.1.two (by omega)).2 hk
    have e := cut_at hx
    have hkid := near_kid (e ▸ hn)
    obtain ⟨i1, i2, i3⟩ := ih hkid hkx
    have hsz := (ok_iff.1 hkid).1.2.2
    unfold chg
    rw [kidAt_of hx]
    obtain ⟨g1, g2, g3⟩ := hang_near hn hx (hr.1.two (by omega)).1 i1 (by omega)
    refine ⟨g1, by omega, ?_⟩
    rw [g3, i3]
    have hk' := hn.kids
    have ho' := hn.ord
    have hs' := hn.has
    rw [e] at hk' ho' hs'
    obtain ⟨p1, p2, p3⟩ := kids_part hk' ho' hs' hkx
    rw [show prs (k + 1) l = prs (k + 1) (l.take (toward l key) ++ x :: l.drop (toward l key + 1)) from congrArg _ e, p3, hF.mid _ _ _ p1 p2]
abbrev Nd := (k : Nat) × Its k
def strip : (k : Nat) → Its k → Nd
  | 0, n => ⟨0, n⟩
  | k + 1, n => if n.length = 1 then strip k (sub (kidAt n 0)) else ⟨k + 1, n⟩
def crown (k : Nat) (n : Its k) : Nd := if nsz n ≤ 4011 then strip k n else ⟨k + 1, parts n []⟩
theorem len1 {α : Type} {l : List α} (h : l.length = 1) : ∃ x, l = [x] := by
  match l, h with
  | [x], _ => exact ⟨x, rfl⟩
theorem strip_one {k : Nat} {x : By × T k} : strip (k + 1) [x] = strip k (sub x.2) := if_pos rfl
theorem strip_more {k : Nat} {n : Its k} (h : 0 < k → n.length ≠ 1) : strip k n = ⟨k, n⟩ := by
  cases k with
  | zero => rfl
  | succ k => exact if_neg (h (by omega))
theorem parts_ne0 {k : Nat} (l : Its k) {key : By} : parts l key ≠ [] := by unfold parts; split <;> simp
theorem crown_ok {k : Nat} {n : Its k} (h : Near k [] [] n) (hs : nsz n ≤ 5295) (hne : n ≠ []) :
    Ok (crown k n).1 0 [] [] (crown k n).2 ∧ prs _ (crown k n).2 = prs k n ∧ (crown k n).1 ≤ k + 1 := by
  unfold crown
  by_cases h1 : nsz n ≤ 4011
  · rw [if_pos h1]
    cases k with
    | zero => exact ⟨h.ok (by omega) h1 hne (fun h => absurd h (by omega)), rfl, by simp [strip]⟩
    | succ k =>
      by_cases hl : n.length = 1
      · obtain ⟨x, rfl⟩ := len1 hl
        have hk : Ok k 1337 x.1 [] (sub x.2) := h.kids.1
        obtain ⟨y, hy, e⟩ := h.first (by omega)
        simp at hy; subst hy
        rw [e] at hk
        obtain ⟨⟨r, r1, r2⟩, hkk⟩ := ok_iff.1 hk
        rw [strip_one, strip_more fun h0 => by have := (r.two h0).1; omega]
        exact ⟨ok_iff.2 ⟨⟨r, by omega, r2⟩, hkk⟩, by rw [prs_cons, prs_nil, List.append_nil], by simp only; omega⟩
      · rw [strip_more fun _ => hl]
        refine ⟨h.ok (by omega) h1 hne (fun _ => ?_), rfl, by simp only; omega⟩
        have := List.length_pos_iff.2 hne
        omega
  · rw [if_neg h1]
    obtain ⟨s1, s2, s3, s4⟩ := parts_sect h (by omega) (by omega) (by simp) (.inl rfl)
    have hl2 : 1 < (parts n []).length := by unfold parts; rw [if_neg h1]; simp
    have hnr : Near (k + 1) [] [] (parts n []) := ⟨s1.may, s1.has, s1.ord, fun _ => by
      obtain ⟨x, m', e, e2⟩ := s1.first
      exact ⟨x, by rw [e]; rfl, e2⟩, s1.kids⟩
    refine ⟨hnr.ok (by omega) (by unfold nsz; simp at s3; omega) (parts_ne0 n) (fun _ => hl2), s2, by simp⟩
def cnt (q : Nat) : (k : Nat) → Its k → Nat
  | 0, _ => 0
  | k + 1, l => (l.map fun (x : By × T k) => (if pg x.2 = some q then 1 else 0) + cnt q k (sub x.2)).sum
def cntT (q : Nat) {k : Nat} (t : T k) : Nat := (if pg t = some q then 1 else 0) + cnt q k (sub t)
theorem cnt_cons (q : Nat) {k : Nat} (x : By × T k) (l : Its (k + 1)) : cnt q (k + 1) (x :: l) = cntT q x.2 + cnt q (k + 1) l := rfl
theorem cnt_nil (q k : Nat) : cnt q k [] = 0 := by cases k <;> rfl
theorem cnt_app (q : Nat) {k : Nat} (l m : Its k) : cnt q k (l ++ m) = cnt q k l + cnt q k m := by
  cases k with
  | zero => rfl
  | succ k =>
    induction l with
    | nil => rw [cnt_nil]; simp
    | cons x l ih => rw [List.cons_append, cnt_cons, cnt_cons, ih]; omega
def nds : (k : Nat) → Its k → Nat
  | 0, _ => 1
  | k + 1, l => 1 + (l.map fun (x : By × T k) => nds k (sub x.2)).sum
theorem nds_pos (k : Nat) (l : Its k) : 1 ≤ nds k l := by cases k <;> simp [nds]
theorem nds_ge {k m : Nat} {lo hi : By} {l : Its k} (h : Ok k m lo hi l) : 2 ^ k ≤ nds k l := by
  induction k generalizing m lo hi with
  | zero => simp [nds]
  | succ k ih =>
    obtain ⟨⟨r, _, _⟩, hk⟩ := ok_iff.1 h
    have h2 := (r.two (by omega)).1
    have hall : ∀ (l : Its (k + 1)) (hi : By), KidsOk (k + 1) hi l → l.length * 2 ^ k ≤ (l.map fun (x : By × T k) => nds k (sub x.2)).sum := fun l => by
      induction l with
      | nil => intro hi _; simp
      | cons x l ihl =>
        intro hi hk
        have h1 := ih hk.1
        have h3 := ihl hi hk.2
        rw [List.length_cons, Nat.add_mul, Nat.one_mul, List.map_cons, List.sum_cons]
        omega
    have := hall l hi hk
    have h4 := Nat.mul_le_mul_right (2 ^ k) h2
    show 2 ^ (k + 1) ≤ 1 + _
    rw [Nat.pow_succ]
    omega
theorem nds_le {k : Nat} {lo hi : By} {l : Its k} (h : Ok k 1337 lo hi l) : nds k l + 1 ≤ (prs k l).length ∧ 1336 * (nds k l + 1) ≤ 2 * isum (prs k l) := by
  induction k generalizing lo hi with
  | zero =>
    have hb := h.near.big (ok_iff.1 h).1.2.1
    have hs := (ok_iff.1 h).1.2.1
    unfold nsz at hs
    have e : its (k := 0) l = l := by unfold its; exact List.map_id l
    rw [e] at hs
    have h2 := hb.2
    show 1 + 1 ≤ List.length (α := By × Kid 0) l ∧ 1336 * (1 + 1) ≤ 2 * isum l
    omega
  | succ k ih =>
    obtain ⟨⟨r, _, _⟩, hk⟩ := ok_iff.1 h
    have h2 := (r.two (by omega)).1
    have hall : ∀ (l : Its (k + 1)) (hi : By), KidsOk (k + 1) hi l → (l.map fun (x : By × T k) => nds k (sub x.2)).sum + l.length ≤ (prs (k + 1) l).length ∧ 1336 * ((l.map fun (x : By × T k) => nds k (sub x.2)).sum + l.length) ≤ 2 * isum (prs (k + 1) l) := fun l => by
      induction l with
      | nil => intro hi _; rw [prs_nil]; simp
      | cons x l ihl =>
        intro hi hk
        have h1 := ih hk.1
        have h3 := ihl hi hk.2
        rw [prs_cons, List.length_append, isum_app, List.length_cons, List.map_cons, List.sum_cons]
        omega
    have := hall l hi hk
    show 1 + _ + 1 ≤ _ ∧ 1336 * (1 + _ + 1) ≤ _
    omega
theorem root_nds {k : Nat} {l : Its k} (h : Ok k 0 [] [] l) : nds k l ≤ (prs k l).length ∧ (0 < k → 2672 ≤ isum (prs k l)) := by
  cases k with
  | zero =>
    have := List.length_pos_iff.2 (ok_iff.1 h).1.1.ne
    exact ⟨this, fun h => absurd h (by omega)⟩
  | succ k =>
    obtain ⟨⟨r, _, _⟩, hk⟩ := ok_iff.1 h
    have h2 := (r.two (by omega)).1
    have hall : ∀ (l : Its (k + 1)) (hi : By), KidsOk (k + 1) hi l → (l.map fun (x : By × T k) => nds k (sub x.2)).sum + l.length ≤ (prs (k + 1) l).length ∧ 1336 * ((l.map fun (x : By × T k) => nds k (sub x.2)).sum + l.length) ≤ 2 * isum (prs (k + 1) l) := fun l => by
      induction l with
      | nil => intro hi _; rw [prs_nil]; simp
      | cons x l ihl =>
        intro hi hk
        have h1 := nds_le hk.1
        have h3 := ihl hi hk.2
        rw [prs_cons, List.length_append, isum_app, List.length_cons, List.map_cons, List.sum_cons]
        omega
    have := hall l [] hk
    have hge : ∀ (l : Its (k + 1)), l.length ≤ (l.map fun (x : By × T k) => nds k (sub x.2)).sum := fun l => by
      induction l with
      | nil => simp
      | cons x l ihl => have := nds_pos k (sub x.2); rw [List.length_cons, List.map_cons, List.sum_cons]; omega
    have := hge l
    show 1 + _ ≤ _ ∧ _
    omega
def Old : (k : Nat) → Its k → Prop
  | 0, _ => True
  | k + 1, l => ∀ (x : By × T k), x ∈ l → (∃ p, pg x.2 = some p ∧ p < 65536 ∧ p ≠ 0) ∧ Old k (sub x.2)
def wk : (k : Nat) → Its k → Nat
  | 0, _ => 0
  | k + 1, l => (l.map fun (x : By × T k) => if pg x.2 = none then 1 + wk k (sub x.2) else 0).sum
theorem wk_cons {k : Nat} (x : By × T k) (l : Its (k + 1)) : wk (k + 1) (x :: l) = (if pg x.2 = none then 1 + wk k (sub x.2) else 0) + wk (k + 1) l := rfl
theorem wk_app {k : Nat} (l m : Its k) : wk k (l ++ m) = wk k l + wk k m := by
  cases k with
  | zero => rfl
  | succ k =>
    induction l with
    | nil => simp [wk]
    | cons x l ih => rw [List.cons_append, wk_cons, wk_cons, ih]; omega
theorem Old.wk {k : Nat} {l : Its k} (h : Old k l) : wk k l = 0 := by
  cases k with
  | zero => rfl
  | succ k =>
    induction l with
    | nil => rfl
    | cons x l ih =>
      obtain ⟨⟨p, hp, _⟩, _⟩ := h x (by simp)
      rw [wk_cons, hp, if_neg (by simp), ih (fun y hy => h y (by simp [hy]))]
theorem wk_parts {k : Nat} (l : Its k) (key : By) : wk (k + 1) (parts l key) ≤ 2 + wk k l := by
  unfold parts
  split
  · rw [wk_cons, pg_mk, if_pos rfl, sub_mk]; simp [wk]
  · rw [wk_cons, wk_cons, pg_mk, pg_mk, if_pos rfl, if_pos rfl, sub_mk, sub_mk]
    have := wk_app (l.take (mid (its l))) (l.drop (mid (its l)))
    rw [List.take_append_drop] at this
    simp [wk]; omega
theorem Old.app {k : Nat} {a b : Its k} : Old k (a ++ b) ↔ Old k a ∧ Old k b := by
  cases k with
  | zero => simp [Old]
  | succ k =>
    refine ⟨fun h => ⟨fun x hx => h x (by simp [hx]), fun x hx => h x (by simp [hx])⟩, fun h x hx => ?_⟩
    rcases List.mem_append.1 hx with hx | hx
    · exact h.1 x hx
    · exact h.2 x hx
theorem Old.take {k : Nat} {l : Its k} (h : Old k l) (i : Nat) : Old k (l.take i) := (Old.app.1 ((List.take_append_drop i l).symm ▸ h)).1
theorem Old.drop {k : Nat} {l : Its k} (h : Old k l) (i : Nat) : Old k (l.drop i) := (Old.app.1 ((List.take_append_drop i l).symm ▸ h)).2
theorem Old.kid {k : Nat} {l : Its (k + 1)} (h : Old (k + 1) l) (i : Nat) : Old k (sub (kidAt l i)) := by
  unfold kidAt
  rcases hx : l[i]? with _ | x
  · rw [sub_mk]; cases k with
    | zero => trivial
    | succ k => intro x hx; cases hx
  · exact (h x (List.mem_of_getElem? hx)).2
theorem wk_repl {k : Nat} {l : Its (k + 1)} (h : Old (k + 1) l) (i old : Nat) (m : Its (k + 1)) : wk (k + 1) (repl l i old m) = wk (k + 1) m := by
  unfold repl
  rw [wk_app, wk_app, (h.take i).wk, (h.drop (i + old)).wk]; omega
theorem wk_hang {k : Nat} {l : Its (k + 1)} (h : Old (k + 1) l) (i : Nat) (n : Its k) : wk (k + 1) (hang l i n) ≤ 2 + wk k n := by
  unfold hang
  split
  · split
    · rw [wk_repl h]
      have := wk_parts (n ++ sub (kidAt l (i + 1))) (keyAt l i)
      rw [wk_app, (h.kid _).wk] at this; omega
    · rw [wk_repl h]
      have := wk_parts (sub (kidAt l (i - 1)) ++ n) (keyAt l (i - 1))
      rw [wk_app, (h.kid _).wk] at this; omega
  · rw [wk_repl h]; exact wk_parts _ _
theorem wk_chg {key : By} {F : List It → List It} {k : Nat} {l : Its k} (h : Old k l) : wk k (chg key F k l) ≤ 2 * k := by
  induction k with
  | zero => simp [wk]
  | succ k ih =>
    have := wk_hang h (toward l key) (chg key F k (sub (kidAt l (toward l key))))
    have := ih (h.kid (toward l key))
    unfold chg
    omega
def wanted (n : Nd) : Nat := 1 + wk n.1 n.2
theorem parts_new {k : Nat} (l : Its k) (key : By) : ∀ x ∈ parts l key, pg x.2 = none := by
  unfold parts
  split
  · intro x hx; simp at hx; subst hx; rfl
  · intro x hx; simp at hx; rcases hx with rfl | rfl <;> rfl
theorem parts_ne {k : Nat} (l : Its k) (key : By) : parts l key ≠ [] := by unfold parts; split <;> simp
theorem repl_one {α : Type} {l : List α} {i old : Nat} {m : List α} {x : α} (hm : m ≠ []) (h : repl l i old m = [x]) : m = [x] := by
  unfold repl at h
  have hl := congrArg List.length h
  have := List.length_pos_iff.2 hm
  simp only [List.length_append, List.length_singleton] at hl
  have e1 := List.eq_nil_of_length_eq_zero (l := l.take i) (by omega)
  have e2 := List.eq_nil_of_length_eq_zero (l := l.drop (i + old)) (by omega)
  rw [e1, e2] at h
  simpa using h
theorem hang_new {k : Nat} {l : Its (k + 1)} {i : Nat} {n : Its k} {x : By × T k} (h : hang l i n = [x]) : pg x.2 = none := by
  unfold hang at h
  split at h
  · split at h
    · exact parts_new _ _ x (by rw [repl_one (parts_ne _ _) h]; simp)
    · exact parts_new _ _ x (by rw [repl_one (parts_ne _ _) h]; simp)
  · exact parts_new _ _ x (by rw [repl_one (parts_ne _ _) h]; simp)
theorem chg_new {key : By} {F : List It → List It} {k : Nat} {l : Its (k + 1)} {x : By × T k} (h : chg key F (k + 1) l = [x]) : pg x.2 = none := hang_new h
theorem strip_wk {k : Nat} {n : Its (k + 1)} (h : ∀ x : By × T k, n = [x] → pg x.2 = none ∧ (0 < k → (sub x.2).length ≠ 1)) : wk _ (strip (k + 1) n).2 ≤ wk (k + 1) n := by
  by_cases hl : n.length = 1
  · obtain ⟨x, rfl⟩ := len1 hl
    obtain ⟨h1, h2⟩ := h x rfl
    rw [strip_one, strip_more h2, wk_cons, if_pos h1]; simp only; omega
  · rw [strip_more fun _ => hl]; exact Nat.le_refl _
theorem wanted_le {key : By} {F : List It → List It} (hF : Edit key F) {k : Nat} {l : Its k} (ho : Old k l) (h : Ok k 0 [] [] l) (hkey : inS [] [] key = true) : wanted (crown k (chg key F k l)) ≤ 2 * k + 3 := by
  have hw := wk_chg (key := key) (F := F) ho
  have hn := chg_near hF h hkey
  unfold wanted crown
  by_cases h1 : nsz (chg key F k l) ≤ 4011
  · rw [if_pos h1]
    cases k with
    | zero => simp [strip, wk]
    | succ k =>
      have := strip_wk (n := chg key F (k + 1) l) fun x hx => ⟨chg_new hx, fun h0 => by
        have hk := hn.1.kids
        rw [hx] at hk
        have := ((ok_iff.1 hk.1).1.1.two h0).1
        omega⟩
      omega
  · rw [if_neg h1]
    have := wk_parts (chg key F k l) []
    simp only; omega
def sibl {k : Nat} (l : Its (k + 1)) (i : Nat) : Nat := if i + 1 < l.length then i + 1 else i - 1
def gone (key : By) (F : List It → List It) : (k : Nat) → T k → List Nat
  | 0, t => (pg t).toList
  | k + 1, t => gone key F k (kidAt (sub t) (toward (sub t) key)) ++ ((pg t).toList ++
      if nsz (chg key F k (sub (kidAt (sub t) (toward (sub t) key)))) < 1337 then (pg (kidAt (sub t) (sibl (sub t) (toward (sub t) key)))).toList else [])
theorem chg_succ (key : By) (F : List It → List It) {k : Nat} (l : Its (k + 1)) : chg key F (k + 1) l = hang l (toward l key) (chg key F k (sub (kidAt l (toward l key)))) := rfl
theorem gone_succ (key : By) (F : List It → List It) {k : Nat} (t : T (k + 1)) : gone key F (k + 1) t = gone key F k (kidAt (sub t) (toward (sub t) key)) ++ ((pg t).toList ++
      if nsz (chg key F k (sub (kidAt (sub t) (toward (sub t) key)))) < 1337 then (pg (kidAt (sub t) (sibl (sub t) (toward (sub t) key)))).toList else []) := rfl
theorem cnt_parts (q : Nat) {k : Nat} (l : Its k) (key : By) : cnt q (k + 1) (parts l key) = cnt q k l := by
  unfold parts
  split
  · rw [cnt_cons, cnt_nil]; unfold cntT; rw [pg_mk, sub_mk]; simp
  · rw [cnt_cons, cnt_cons, cnt_nil]; unfold cntT
    rw [pg_mk, sub_mk, pg_mk, sub_mk]
    have := cnt_app q (l.take (mid (its l))) (l.drop (mid (its l)))
    rw [List.take_append_drop] at this
    simp; omega
theorem count_toList (o : Option Nat) (q : Nat) : (o.toList).count q = if o = some q then 1 else 0 := by
  cases o with
  | none => rfl
  | some p => simp [Option.toList, List.count_singleton]
theorem cnt_gone {key : By} {F : List It → List It} (q : Nat) {k : Nat} {m : Nat} {lo hi : By} {t : T k} (h : Ok k m lo hi (sub t)) (hk : inS lo hi key = true) (h0 : ∀ (l : Its 0), cnt q 0 (F l) = 0 := by intros; rfl) :
    cntT q t = cnt q k (chg key F k (sub t)) + (gone key F k t).count q := by
  induction k generalizing m lo hi with
  | zero =>
    unfold cntT gone
    rw [count_toList]
    show _ + 0 = 0 + _
    omega
  | succ k ih =>
    have hn := h.near
    have hr := (ok_iff.1 h).1
    obtain ⟨x, hx, hkx⟩ := toward_spec hn.ord hn.has hr.1.ne (hr.1.two (by omega)).2 hk
    have e := cut_at hx
    have hkid := near_kid (e ▸ hn)
    have h2 := (hr.1.two (by omega)).1
    have hlt := (List.getElem?_eq_some_iff.1 hx).1
    have i1 := ih hkid hkx
    rw [gone_succ, chg_succ, kidAt_of hx]
    generalize hw : toward (sub t) key = i at *
    generalize hl : sub t = l at *
    generalize chg key F k (sub x.2) = n at *
    have hA : cnt q (k + 1) l = cnt q (k + 1) (l.take i) + (cntT q x.2 + cnt q (k + 1) (l.drop (i + 1))) := by
      conv => lhs; rw [e]
      rw [cnt_app, cnt_cons]
    unfold cntT at i1 ⊢
    rw [hl, List.count_append, List.count_append, count_toList]
    unfold cntT at hA
    unfold hang sibl
    by_cases hs : nsz n < 1337
    · rw [if_pos hs, if_pos hs, count_toList]
      by_cases hr : i + 1 < l.length
      · rw [if_pos hr, if_pos hr]
        obtain ⟨y, hy⟩ : ∃ y, l[i + 1]? = some y := ⟨_, List.getElem?_eq_getElem hr⟩
        have hd : l.drop (i + 1) = y :: l.drop (i + 2) := by
          have h1 := List.getElem?_eq_some_iff.1 hy
          rw [List.drop_eq_getElem_cons h1.1, h1.2]
        rw [hd, cnt_cons] at hA
        unfold cntT at hA
        rw [kidAt_of hy]
        unfold repl
        rw [cnt_app, cnt_app, cnt_parts, cnt_app]
        omega
      · rw [if_neg hr, if_neg hr]
        obtain ⟨z, hz⟩ : ∃ z, l[i - 1]? = some z := ⟨_, List.getElem?_eq_getElem (by omega)⟩
        have hd : l.take i = l.take (i - 1) ++ [z] := by
          have h1 := List.getElem?_eq_some_iff.1 hz
          rw [← h1.2, ← List.take_succ_eq_append_getElem h1.1, Nat.sub_add_cancel (by omega)]
        rw [hd, cnt_app, cnt_cons, cnt_nil] at hA
        unfold cntT at hA
        rw [kidAt_of hz]
        unfold repl
        rw [cnt_app, cnt_app, cnt_parts, cnt_app, show i - 1 + 2 = i + 1 by omega]
        omega
    · rw [if_neg hs, if_neg hs]
      unfold repl
      rw [cnt_app, cnt_app, cnt_parts]
      simp only [List.count_nil]
      omega
def Rep (f : Nat → Option By) : (k : Nat) → Its k → Prop
  | 0, _ => True
  | k + 1, l => ∀ (x : By × T k), x ∈ l → (∀ p, pg x.2 = some p → f p = some (told k (sub x.2))) ∧ Rep f k (sub x.2)
theorem Rep.app {f : Nat → Option By} {k : Nat} {a b : Its k} : Rep f k (a ++ b) ↔ Rep f k a ∧ Rep f k b := by
  cases k with
  | zero => simp [Rep]
  | succ k =>
    refine ⟨fun h => ⟨fun x hx => h x (by simp [hx]), fun x hx => h x (by simp [hx])⟩, fun h x hx => ?_⟩
    rcases List.mem_append.1 hx with hx | hx
    · exact h.1 x hx
    · exact h.2 x hx
theorem Rep.nil (f : Nat → Option By) (k : Nat) : Rep f k [] := by
  cases k with
  | zero => trivial
  | succ k => intro x hx; cases hx
theorem Rep.take {f : Nat → Option By} {k : Nat} {l : Its k} (h : Rep f k l) (i : Nat) : Rep f k (l.take i) := (Rep.app.1 ((List.take_append_drop i l).symm ▸ h)).1
theorem Rep.drop {f : Nat → Option By} {k : Nat} {l : Its k} (h : Rep f k l) (i : Nat) : Rep f k (l.drop i) := (Rep.app.1 ((List.take_append_drop i l).symm ▸ h)).2
theorem Rep.kid {f : Nat → Option By} {k : Nat} {l : Its (k + 1)} (h : Rep f (k + 1) l) (i : Nat) : Rep f k (sub (kidAt l i)) := by
  unfold kidAt
  rcases hx : l[i]? with _ | x
  · rw [sub_mk]; exact Rep.nil f k
  · exact (h x (List.mem_of_getElem? hx)).2
theorem Rep.parts {f : Nat → Option By} {k : Nat} {l : Its k} (h : Rep f k l) (key : By) : Rep f (k + 1) (parts l key) := by
  unfold Tr.parts
  split
  · intro x hx; simp at hx; subst hx; exact ⟨fun p hp => (by cases hp), h⟩
  · intro x hx; simp at hx; rcases hx with rfl | rfl
    · exact ⟨fun p hp => (by cases hp), h.take _⟩
    · exact ⟨fun p hp => (by cases hp), h.drop _⟩
theorem Rep.repl {f : Nat → Option By} {k : Nat} {l m : Its (k + 1)} (h : Rep f (k + 1) l) (i old : Nat) (hm : Rep f (k + 1) m) : Rep f (k + 1) (repl l i old m) :=
  Rep.app.2 ⟨h.take i, Rep.app.2 ⟨hm, h.drop _⟩⟩
theorem Rep.hang {f : Nat → Option By} {k : Nat} {l : Its (k + 1)} (h : Rep f (k + 1) l) (i : Nat) {n : Its k} (hn : Rep f k n) : Rep f (k + 1) (hang l i n) := by
  unfold Tr.hang
  split
  · split
    · exact h.repl _ _ (Rep.parts (Rep.app.2 ⟨hn, h.kid _⟩) _)
    · exact h.repl _ _ (Rep.parts (Rep.app.2 ⟨h.kid _, hn⟩) _)
  · exact h.repl _ _ (hn.parts _)
theorem Rep.chg {f : Nat → Option By} {key : By} {F : List It → List It} {k : Nat} {l : Its k} (h : Rep f k l) : Rep f k (chg key F k l) := by
  induction k with
  | zero => trivial
  | succ k ih => exact h.hang _ (ih (h.kid _))
theorem Rep.strip {f : Nat → Option By} {k : Nat} {n : Its k} (h : Rep f k n) : Rep f _ (strip k n).2 := by
  induction k with
  | zero => trivial
  | succ k ih =>
    by_cases hl : n.length = 1
    · obtain ⟨x, rfl⟩ := len1 hl
      rw [strip_one]; exact ih (h x (by simp)).2
    · rw [strip_more fun _ => hl]; exact h
theorem Rep.crown {f : Nat → Option By} {k : Nat} {n : Its k} (h : Rep f k n) : Rep f _ (crown k n).2 := by
  by_cases hc : nsz n ≤ 4011
  · rw [show Tr.crown k n = Tr.strip k n from if_pos hc]; exact h.strip
  · rw [show Tr.crown k n = ⟨k + 1, Tr.parts n []⟩ from if_neg hc]; exact h.parts _
def Half : (k : Nat) → Its k → Prop
  | 0, _ => True
  | k + 1, l => ∀ (x : By × T k), x ∈ l → (pg x.2 = none ∧ Half k (sub x.2)) ∨ (∃ p, pg x.2 = some p ∧ p < 65536 ∧ p ≠ 0) ∧ Old k (sub x.2)
theorem Half.app {k : Nat} {a b : Its k} : Half k (a ++ b) ↔ Half k a ∧ Half k b := by
  cases k with
  | zero => simp [Half]
  | succ k =>
    refine ⟨fun h => ⟨fun x hx => h x (by simp [hx]), fun x hx => h x (by simp [hx])⟩, fun h x hx => ?_⟩
    rcases List.mem_append.1 hx with hx | hx
    · exact h.1 x hx
    · exact h.2 x hx
theorem Old.half {k : Nat} {l : Its k} (h : Old k l) : Half k l := by
  cases k with
  | zero => trivial
  | succ k => exact fun x hx => .inr (h x hx)
theorem Half.take {k : Nat} {l : Its k} (h : Half k l) (i : Nat) : Half k (l.take i) := (Half.app.1 ((List.take_append_drop i l).symm ▸ h)).1
theorem Half.drop {k : Nat} {l : Its k} (h : Half k l) (i : Nat) : Half k (l.drop i) := (Half.app.1 ((List.take_append_drop i l).symm ▸ h)).2
theorem Half.parts {k : Nat} {l : Its k} (h : Half k l) (key : By) : Half (k + 1) (parts l key) := by
  unfold Tr.parts
  split
  · intro x hx; simp at hx; subst hx; exact .inl ⟨rfl, h⟩
  · intro x hx; simp at hx; rcases hx with rfl | rfl
    · exact .inl ⟨rfl, h.take _⟩
    · exact .inl ⟨rfl, h.drop _⟩
theorem Half.repl {k : Nat} {l m : Its (k + 1)} (h : Half (k + 1) l) (i old : Nat) (hm : Half (k + 1) m) : Half (k + 1) (repl l i old m) :=
  Half.app.2 ⟨h.take i, Half.app.2 ⟨hm, h.drop _⟩⟩
theorem Half.hang {k : Nat} {l : Its (k + 1)} (h : Old (k + 1) l) (i : Nat) {n : Its k} (hn : Half k n) : Half (k + 1) (hang l i n) := by
  unfold Tr.hang
  split
  · split
    · exact h.half.repl _ _ (Half.parts (Half.app.2 ⟨hn, (h.kid _).half⟩) _)
    · exact h.half.repl _ _ (Half.parts (Half.app.2 ⟨(h.kid _).half, hn⟩) _)
  · exact h.half.repl _ _ (hn.parts _)
theorem Half.chg {key : By} {F : List It → List It} {k : Nat} {l : Its k} (h : Old k l) : Half k (chg key F k l) := by
  induction k with
  | zero => trivial
  | succ k ih => exact Half.hang h _ (ih (h.kid _))
theorem Half.crown {k : Nat} {n : Its k} (h : Half k n) (h1 : ∀ k' (e : k = k' + 1) (x : By × T k'), (e ▸ n : Its (k' + 1)) = [x] → pg x.2 = none ∧ (0 < k' → (sub x.2).length ≠ 1)) : Half _ (crown k n).2 := by
  by_cases hc : nsz n ≤ 4011
  · rw [show Tr.crown k n = Tr.strip k n from if_pos hc]
    cases k with
    | zero => trivial
    | succ k =>
      by_cases hl : n.length = 1
      · obtain ⟨x, rfl⟩ := len1 hl
        obtain ⟨h1, h2⟩ := h1 k rfl x rfl
        rw [strip_one, strip_more h2]
        rcases h x (by simp) with h | h
        · exact h.2
        · obtain ⟨p, hp, _⟩ := h.1
          rw [h1] at hp; cases hp
      · rw [strip_more fun _ => hl]; exact h
  · rw [show Tr.crown k n = ⟨k + 1, Tr.parts n []⟩ from if_neg hc]; exact h.parts _
def AsgL {α : Type} (R : α → α → Prop) : List (By × α) → List (By × α) → Prop
  | [], [] => True
  | x :: l, y :: m => (x.1 = y.1 ∧ R x.2 y.2) ∧ AsgL R l m
  | _, _ => False
def Asg : (k : Nat) → Its k → Its k → Prop
  | 0, l, m => l = m
  | k + 1, l, m => AsgL (fun (t u : T k) => (pg t = none ∧ (∃ p, pg u = some p ∧ p < 65536 ∧ p ≠ 0) ∧ Asg k (sub t) (sub u)) ∨ (pg t ≠ none ∧ u = t)) l m
theorem AsgL.len {α : Type} {R : α → α → Prop} : ∀ {l m : List (By × α)}, AsgL R l m → l.length = m.length
  | [], [], _ => rfl
  | _ :: _, _ :: _, h => by rw [List.length_cons, List.length_cons, h.2.len]
theorem AsgL.app {α : Type} {R : α → α → Prop} : ∀ {l m l' m' : List (By × α)}, AsgL R l m → AsgL R l' m' → AsgL R (l ++ l') (m ++ m')
  | [], [], _, _, _, h => h
  | _ :: _, _ :: _, _, _, h, h' => ⟨h.1, h.2.app h'⟩
theorem AsgL.nxt {α : Type} {R : α → α → Prop} {hi : By} : ∀ {l m : List (By × α)}, AsgL R l m → nxt hi l = nxt hi m
  | [], [], _ => rfl
  | _ :: _, _ :: _, h => h.1.1
theorem AsgL.at {α : Type} {R : α → α → Prop} : ∀ {l m : List (By × α)} {i : Nat} {y : By × α}, AsgL R l m → m[i]? = some y → ∃ x, l[i]? = some x ∧ x.1 = y.1 ∧ R x.2 y.2
  | [], [], i, y, _, hy => by simp at hy
  | x :: _, z :: _, 0, y, h, hy => by simp at hy; subst hy; exact ⟨x, rfl, h.1.1, h.1.2⟩
  | _ :: _, _ :: _, i + 1, y, h, hy => by
    obtain ⟨x, hx, e⟩ := h.2.at (i := i) (by simpa using hy)
    exact ⟨x, by simpa using hx, e⟩
theorem AsgL.keys {α : Type} {R : α → α → Prop} : ∀ {l m : List (By × α)}, AsgL R l m → m.map (·.1) = l.map (·.1)
  | [], [], _ => rfl
  | _ :: _, _ :: _, h => by rw [List.map_cons, List.map_cons, h.1.1, h.2.keys]
theorem Asg.old {k : Nat} {l m : Its k} (h : Asg k l m) (hl : Half k l) : Old k m := by
  induction k with
  | zero => trivial
  | succ k ih =>
    intro y hy
    obtain ⟨i, hi⟩ := List.getElem?_of_mem hy
    obtain ⟨x, hx, e, hR⟩ := AsgL.at h hi
    have hxm := hl x (List.mem_of_getElem? hx)
    rcases hR with ⟨h1, h2, h3⟩ | ⟨h1, h2⟩
    · refine ⟨h2, ih h3 ?_⟩
      rcases hxm with h | h
      · exact h.2
      · obtain ⟨p, hp, _⟩ := h.1; rw [h1] at hp; cases hp
    · rw [h2]
      rcases hxm with h | h
      · exact absurd h.1 h1
      · exact h
theorem Asg.prs {k : Nat} {l m : Its k} (h : Asg k l m) : prs k m = prs k l := by
  induction k with
  | zero => cases h; rfl
  | succ k ih =>
    have : ∀ {l m : Its (k + 1)}, Asg (k + 1) l m → Tr.prs (k + 1) m = Tr.prs (k + 1) l := fun {l} => by
      induction l with
      | nil => intro m h; cases m with
        | nil => rfl
        | cons y m => exact h.elim
      | cons x l ihl => intro m h; cases m with
        | nil => exact h.elim
        | cons y m =>
          rw [prs_cons, prs_cons, ihl h.2]
          rcases h.1.2 with ⟨_, _, h3⟩ | ⟨_, h2⟩
          · rw [ih h3]
          · rw [h2]
    exact this h
theorem its_cons {k : Nat} (x : By × Kid k) (l : Its k) : its (x :: l) = it x :: its l := rfl
theorem AsgL.sum {k : Nat} {R : T k → T k → Prop} : ∀ {l m : Its (k + 1)}, AsgL R l m → isum (its m) = isum (its l)
  | [], [], _ => rfl
  | x :: _, y :: _, h => by
    rw [its_cons, its_cons, isum_cons, isum_cons, h.2.sum]
    have e1 : isz (it x) = 6 + x.1.length := by simp [isz, it, rst, length_dig]; omega
    have e2 : isz (it y) = 6 + y.1.length := by simp [isz, it, rst, length_dig]; omega
    rw [e1, e2, h.1.1]
theorem Asg.nsz {k : Nat} {l m : Its k} (h : Asg k l m) : nsz m = nsz l := by
  cases k with
  | zero => cases h; rfl
  | succ k => unfold Tr.nsz; rw [AsgL.sum h]
theorem ord_keys {α : Type} {l m : List (By × α)} (h : m.map (·.1) = l.map (·.1)) (ho : Ord l) : Ord m := by
  unfold Ord at *
  have h1 : (l.map (·.1)).Pairwise fun a b => blt a b = true := List.pairwise_map.2 ho
  rw [← h] at h1
  exact List.pairwise_map.1 h1
theorem Asg.ok {k m : Nat} {lo hi : By} {l l' : Its k} (h : Asg k l l') (ho : Ok k m lo hi l) : Ok k m lo hi l' := by
  induction k generalizing m lo hi with
  | zero => cases h; exact ho
  | succ k ih =>
    obtain ⟨⟨r, r1, r2⟩, hk⟩ := ok_iff.1 ho
    have hlen := AsgL.len h
    refine ok_iff.2 ⟨⟨⟨fun e => ?_, fun y hy => ?_, fun y hy => ?_, ord_keys (AsgL.keys h) r.ord, fun h0 => ⟨by have := (r.two h0).1; omega, fun y hy => ?_⟩⟩, by rw [Asg.nsz h]; exact r1, by rw [Asg.nsz h]; exact r2⟩, ?_⟩
    · rw [e] at hlen; exact r.ne (List.eq_nil_of_length_eq_zero hlen)
    · obtain ⟨i, hi⟩ := List.getElem?_of_mem hy
      obtain ⟨x, hx, e, hR⟩ := AsgL.at h hi
      have := may_key (r.may x (List.mem_of_getElem? hx))
      exact may_new y.2 (by rw [← e]; exact this)
    · obtain ⟨i, hi⟩ := List.getElem?_of_mem hy
      obtain ⟨x, hx, e, hR⟩ := AsgL.at h hi
      rw [← e]; exact r.has x (List.mem_of_getElem? hx)
    · obtain ⟨x, hx, e, hR⟩ := AsgL.at h hy
      rw [← e]; exact (r.two h0).2 x hx
    · have : ∀ {l m : Its (k + 1)}, Asg (k + 1) l m → KidsOk (k + 1) hi l → KidsOk (k + 1) hi m := fun {l} => by
        induction l with
        | nil => intro m h _; cases m with
          | nil => trivial
          | cons y m => exact h.elim
        | cons x l ihl => intro m h hk; cases m with
          | nil => exact h.elim
          | cons y m =>
            refine ⟨?_, ihl h.2 hk.2⟩
            have hk1 : Ok k 1337 x.1 (nxt hi l) (sub x.2) := hk.1
            rw [AsgL.nxt h.2, h.1.1] at hk1
            rcases h.1.2 with ⟨_, _, h3⟩ | ⟨_, h2⟩
            · exact ih h3 hk1
            · rw [h2]; exact hk1
      exact this h hk
theorem ord_put {l : List It} (ho : Ord l) (key v : By) : Ord (putK l key v) := by
  unfold putK
  have e := List.take_append_drop (lows l key) l
  have ho2 := ho
  rw [← e] at ho2
  obtain ⟨o1, o2, o3⟩ := Ord.app_iff.1 ho2
  have hd : ∀ y ∈ l.drop (lows l key + (hasK l key).toNat), blt key y.1 = true := fun y hy => by
    obtain ⟨j, hj⟩ := List.getElem?_of_mem hy
    rw [List.getElem?_drop] at hj
    have h1 := lows_ge ho (key := key) (by omega) hj
    rcases le_of_not h1 with h | h
    · exact h
    · exfalso
      obtain ⟨hlt, e2⟩ := List.getElem?_eq_some_iff.1 hj
      have h0 : lows l key < l.length := by omega
      have hb := lows_at (List.getElem?_eq_getElem h0)
      by_cases hp : 0 < (hasK l key).toNat + j
      · have := List.pairwise_iff_getElem.1 ho (lows l key) _ h0 hlt (by omega)
        rw [e2, ← h, hb] at this; cases this
      · have hz : (hasK l key).toNat = 0 := by omega
        have hj0 : j = 0 := by omega
        subst hj0
        rw [hz] at hj
        have hj : l[lows l key]? = some y := hj
        unfold hasK at hz
        rw [hj] at hz
        simp [h] at hz
  have hl : ∀ y ∈ l.take (lows l key), blt y.1 key = true := fun y hy => by
    obtain ⟨j, hj⟩ := List.getElem?_of_mem hy
    have hlt := (List.getElem?_eq_some_iff.1 hj).1
    rw [List.length_take] at hlt
    rw [List.getElem?_take_of_lt (by omega)] at hj
    obtain ⟨x, hx, hb⟩ := lows_lt (l := l) (key := key) (i := j) (by omega)
    rw [hj] at hx; injection hx with hx; rw [hx]; exact hb
  refine Ord.app_iff.2 ⟨o1, Ord.cons_iff.2 ⟨hd, ?_⟩, fun x hx y hy => ?_⟩
  · exact List.Pairwise.sublist (List.drop_sublist _ _) ho
  · rcases List.mem_cons.1 hy with rfl | hy
    · exact hl x hx
    · exact blt_trans (hl x hx) (hd y hy)
theorem ord_del {l : List It} (ho : Ord l) (key : By) : Ord (delK l key) := by
  unfold delK
  rw [← List.take_append_drop (lows l key) l] at ho
  obtain ⟨o1, o2, o3⟩ := Ord.app_iff.1 ho
  refine Ord.app_iff.2 ⟨o1, ?_, fun x hx y hy => o3 x hx y ?_⟩
  · rw [← List.drop_drop]; exact List.Pairwise.sublist (List.drop_sublist _ _) o2
  · rw [← List.drop_drop] at hy; exact List.mem_of_mem_drop hy
theorem its0 (l : Its 0) : its l = l := List.map_id l
theorem mem_put {l : List It} {key v : By} {x : It} (h : x ∈ putK l key v) : x = (key, v) ∨ x ∈ l := by
  unfold putK at h
  rcases List.mem_append.1 h with h | h
  · exact .inr (List.mem_of_mem_take h)
  · rcases List.mem_cons.1 h with h | h
    · exact .inl h
    · exact .inr (List.mem_of_mem_drop h)
theorem mem_del {l : List It} {key : By} {x : It} (h : x ∈ delK l key) : x ∈ l := by
  unfold delK at h
  rcases List.mem_append.1 h with h | h
  · exact List.mem_of_mem_take h
  · exact List.mem_of_mem_drop h
theorem isum_drop_le (l : List It) (i : Nat) : isum (l.drop i) ≤ isum l := by have := isum_take_drop l i; omega
theorem put_size (l : List It) (key v : By) : isum (putK l key v) ≤ isum l + isz (key, v) := by
  unfold putK
  rw [isum_app, isum_cons, ← List.drop_drop]
  have := isum_take_drop l (lows l key)
  have := isum_drop_le (l.drop (lows l key)) (hasK l key).toNat
  omega
theorem del_size (l : List It) (key : By) : isum (delK l key) ≤ isum l := by
  unfold delK
  rw [isum_app, ← List.drop_drop]
  have := isum_take_drop l (lows l key)
  have := isum_drop_le (l.drop (lows l key)) (hasK l key).toNat
  omega
theorem edit_put {key v : By} (h1 : 1 ≤ key.length) (h2 : key.length ≤ 256) (h3 : v.length ≤ 1024) : Edit key (fun l => putK l key v) where
  near := fun lo hi l h hk => ⟨fun x hx => by
      rcases mem_put hx with rfl | hx
      · show may 0 (key, v) = true
        unfold may; rw [if_pos rfl]; simp only [Bool.and_eq_true, decide_eq_true_eq]; exact ⟨⟨h1, h2⟩, h3⟩
      · exact h.may x hx, fun x hx => by
      rcases mem_put hx with rfl | hx
      · exact hk
      · exact h.has x hx, ord_put h.ord key v, fun h => absurd h (by omega), trivial⟩
  size := fun l => by
    have := put_size l key v
    have e : isz (key, v) = 4 + key.length + v.length := rfl
    have e1 : nsz (k := 0) (putK l key v) = 1 + isum (putK l key v) := congrArg (fun z => 1 + isum z) (its0 _)
    have e2 : nsz l = 1 + isum l := congrArg (fun z => 1 + isum z) (its0 _)
    show nsz (k := 0) (putK l key v) ≤ _
    omega
  mid := fun a b c ha hc => mid_put ha hc v
theorem edit_del (key : By) : Edit key (fun l => delK l key) where
  near := fun lo hi l h hk => ⟨fun x hx => h.may x (mem_del hx), fun x hx => h.has x (mem_del hx), ord_del h.ord key, fun h => absurd h (by omega), trivial⟩
  size := fun l => by
    have := del_size l key
    have e1 : nsz (k := 0) (delK l key) = 1 + isum (delK l key) := congrArg (fun z => 1 + isum z) (its0 _)
    have e2 : nsz l = 1 + isum l := congrArg (fun z => 1 + isum z) (its0 _)
    show nsz (k := 0) (delK l key) ≤ _
    omega
  mid := fun a b c ha hc => mid_del ha hc
def leafOf (key : By) : (k : Nat) → Its k → Its 0
  | 0, l => l
  | k + 1, l => leafOf key k (sub (kidAt l (toward l key)))
theorem leafOf_succ (key : By) {k : Nat} (l : Its (k + 1)) : leafOf key (k + 1) l = leafOf key k (sub (kidAt l (toward l key))) := rfl
theorem ok_step {k m : Nat} {lo hi key : By} {l : Its (k + 1)} (h : Ok (k + 1) m lo hi l) (hk : inS lo hi key = true) :
    ∃ x, l[toward l key]? = some x ∧ inS x.1 (nxt hi (l.drop (toward l key + 1))) key = true ∧ Ok k 1337 x.1 (nxt hi (l.drop (toward l key + 1))) (sub x.2) := by
  have hn := h.near
  have hr := (ok_iff.1 h).1
  obtain ⟨x, hx, hkx⟩ := toward_spec hn.ord hn.has hr.1.ne (hr.1.two (by omega)).2 hk
  exact ⟨x, hx, hkx, near_kid (cut_at hx ▸ hn)⟩
theorem leaf_facts {k m : Nat} {lo hi key : By} {l : Its k} (h : Ok k m lo hi l) (hk : inS lo hi key = true) :
    hasK (prs k l) key = hasK (leafOf key k l) key ∧ getK (prs k l) key = getK (leafOf key k l) key ∧ ∃ lo' hi' m', Ok 0 m' lo' hi' (leafOf key k l) ∧ inS lo' hi' key = true := by
  induction k generalizing m lo hi with
  | zero => exact ⟨rfl, rfl, lo, hi, m, h, hk⟩
  | succ k ih =>
    obtain ⟨x, hx, hkx, hkid⟩ := ok_step h hk
    obtain ⟨i1, i2, i3⟩ := ih hkid hkx
    rw [leafOf_succ, kidAt_of hx]
    have hn := h.near
    have e := cut_at hx
    have hk' := hn.kids
    have ho' := hn.ord
    have hs' := hn.has
    rw [e] at hk' ho' hs'
    obtain ⟨p1, p2, p3⟩ := kids_part hk' ho' hs' hkx
    obtain ⟨q1, q2, q3⟩ := mid_facts (b := prs k (sub x.2)) p1 p2
    rw [show prs (k + 1) l = prs (k + 1) (l.take (toward l key) ++ x :: l.drop (toward l key + 1)) from congrArg _ e, p3, q2, q3]
    exact ⟨i1, i2, i3⟩
def meets (lo hi fr to : By) : Bool := ends fr hi && ends lo to
def rngL {k : Nat} (R : By → T k → List It) (fr to hi : By) : Its (k + 1) → List It
  | [] => []
  | x :: l => (if meets x.1 (nxt hi l) fr to then R (nxt hi l) x.2 else []) ++ rngL R fr to hi l
def rng (fr to : By) : (k : Nat) → By → Its k → List It
  | 0, _, l => l.filter fun x => inS fr to x.1
  | k + 1, hi, l => rngL (k := k) (fun hi t => rng fr to k hi (sub t)) fr to hi l
theorem rng_succ (fr to hi : By) {k : Nat} (l : Its (k + 1)) : rng fr to (k + 1) hi l = rngL (fun hi t => rng fr to k hi (sub t)) fr to hi l := rfl
theorem meets_not {lo hi fr to key : By} (h : inS lo hi key = true) (hm : meets lo hi fr to = false) : inS fr to key = false := by
  rcases e : inS fr to key with _ | _
  · rfl
  · exfalso
    have h := inS_iff.1 h
    have e := inS_iff.1 e
    have : meets lo hi fr to = true := by
      unfold meets ends
      have h1 : hi = [] ∨ blt fr hi = true := h.2.imp_right fun h => blt_of_le_lt e.1 h
      have h2 : to = [] ∨ blt lo to = true := e.2.imp_right fun e => blt_of_le_lt h.1 e
      simp only [Bool.and_eq_true, Bool.or_eq_true, List.isEmpty_iff]
      exact ⟨h1, h2⟩
    rw [this] at hm; cases hm
theorem rng_eq {fr to : By} {k m : Nat} {lo hi : By} {l : Its k} (h : Ok k m lo hi l) : rng fr to k hi l = (prs k l).filter fun x => inS fr to x.1 := by
  induction k generalizing m lo hi with
  | zero => rfl
  | succ k ih =>
    have hk := (ok_iff.1 h).2
    have : ∀ (l : Its (k + 1)), KidsOk (k + 1) hi l → rngL (fun hi t => rng fr to k hi (sub t)) fr to hi l = (prs (k + 1) l).filter fun x => inS fr to x.1 := fun l => by
      induction l with
      | nil => intro _; rw [prs_nil]; rfl
      | cons x l ihl =>
        intro hk
        have hk1 : Ok k 1337 x.1 (nxt hi l) (sub x.2) := hk.1
        rw [prs_cons, List.filter_append, ← ihl hk.2, ← ih hk1]
        show (if meets x.1 (nxt hi l) fr to then rng fr to k (nxt hi l) (sub x.2) else []) ++ rngL (fun hi t => rng fr to k hi (sub t)) fr to hi l = _
        by_cases hm : meets x.1 (nxt hi l) fr to = true
        · rw [if_pos hm]
        · rw [if_neg hm]
          congr 1
          rw [ih hk1]
          refine (List.filter_eq_nil_iff.2 fun y hy => ?_).symm
          rw [meets_not ((ok_prs hk1).1 y hy) (by simpa using hm)]; simp
    exact this l hk
end Go.Proofs.YtcjokkjepgfinaaGreatDoor.Tr
