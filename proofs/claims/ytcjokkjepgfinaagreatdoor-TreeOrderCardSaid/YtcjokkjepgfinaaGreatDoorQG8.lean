import Derived.Test.YtcjokkjepgfinaaGreatDoorQG7
set_option linter.unusedVariables false
set_option linter.unusedSimpArgs false
namespace Go.Proofs.YtcjokkjepgfinaaGreatDoor.Tr
def sumTo (g : Nat → Nat) : Nat → Nat
  | 0 => 0
  | n + 1 => sumTo g n + g n
theorem sumTo_add (g h : Nat → Nat) (n : Nat) : sumTo (fun q => g q + h q) n = sumTo g n + sumTo h n := by
  induction n with
  | zero => rfl
  | succ n ih => simp only [sumTo]; rw [ih]; omega
theorem sumTo_zero (n : Nat) : sumTo (fun _ => 0) n = 0 := by
  induction n with
  | zero => rfl
  | succ n ih => simp only [sumTo]; rw [ih]
theorem sumTo_congr {g h : Nat → Nat} {n : Nat} (e : ∀ q, q < n → g q = h q) : sumTo g n = sumTo h n := by
  induction n with
  | zero => rfl
  | succ n ih => simp only [sumTo]; rw [ih fun q hq => e q (by omega), e n (by omega)]
theorem sumTo_one (p n : Nat) (h : p < n) : sumTo (fun q => if p = q then 1 else 0) n = 1 := by
  induction n with
  | zero => omega
  | succ n ih =>
    simp only [sumTo]
    by_cases e : p = n
    · subst e
      rw [if_pos rfl, sumTo_congr (h := fun _ => 0) (fun q hq => if_neg (by omega)), sumTo_zero]
    · rw [ih (by omega), if_neg e]
theorem sum_cnt {N k : Nat} {l : Its k} (ho : Old k l) (hN : ∀ q, 0 < cnt q k l → q < N) : sumTo (fun q => cnt q k l) N + 1 = nds k l := by
  induction k with
  | zero => show sumTo (fun _ => 0) N + 1 = 1; rw [sumTo_zero]
  | succ k ih =>
    have : ∀ (l : Its (k + 1)), Old (k + 1) l → (∀ q, 0 < cnt q (k + 1) l → q < N) → sumTo (fun q => cnt q (k + 1) l) N = (l.map fun (x : By × T k) => nds k (sub x.2)).sum := fun l => by
      induction l with
      | nil => intro _ _; rw [sumTo_congr (h := fun _ => 0) (fun q _ => cnt_nil q _), sumTo_zero]; rfl
      | cons x l ihl =>
        intro ho hN
        obtain ⟨⟨p, hp, _⟩, hox⟩ := ho x (by simp)
        have h1 := ihl (fun y hy => ho y (by simp [hy])) (fun q hq => hN q (by rw [cnt_cons]; omega))
        have h2 := ih hox (fun q hq => hN q (by rw [cnt_cons]; unfold cntT; omega))
        have h3 : p < N := hN p (by rw [cnt_cons]; unfold cntT; rw [hp, if_pos rfl]; omega)
        rw [sumTo_congr (h := fun q => ((if p = q then 1 else 0) + cnt q k (sub x.2)) + cnt q (k + 1) l) (fun q _ => by rw [cnt_cons]; unfold cntT; rw [hp]; simp), sumTo_add, sumTo_add, sumTo_one p N h3, h1, List.map_cons, List.sum_cons]
        omega
    have := this l ho hN
    show sumTo (fun q => cnt q (k + 1) l) N + 1 = 1 + _
    omega
structure IsT (root : Nat) (has : Nat → Bool) (f : Nat → Option By) (k : Nat) (l : Its k) : Prop where
  ok : Ok k 0 [] [] l
  old : Old k l
  rep : Rep f k l
  top : f root = some (told k l)
  r0 : root ≠ 0
  r1 : root < 65536
  cnt : ∀ q, (if root = q then 1 else 0) + cnt q k l = (has q).toNat
def TreeOf (root : Nat) (has : Nat → Bool) (f : Nat → Option By) (L : List It) : Prop :=
  (root = 0 ∧ L = [] ∧ ∀ q, has q = false) ∨ ∃ k l, IsT root has f k l ∧ prs k l = L
theorem IsT.pages {root N : Nat} {has : Nat → Bool} {f : Nat → Option By} {k : Nat} {l : Its k} (h : IsT root has f k l) (hN : ∀ q, has q = true → q < N) : sumTo (fun q => (has q).toNat) N = nds k l := by
  have hc : ∀ q, 0 < Tr.cnt q k l → q < N := fun q hq => hN q (by
    have := h.cnt q
    rcases e : has q with _ | _
    · rw [e] at this; simp at this; omega
    · rfl)
  have hr : root < N := hN root (by
    have := h.cnt root
    rw [if_pos rfl] at this
    rcases e : has root with _ | _
    · rw [e] at this; simp at this
    · rfl)
  have := sum_cnt h.old hc
  rw [sumTo_congr (h := fun q => (if root = q then 1 else 0) + Tr.cnt q k l) (fun q _ => (h.cnt q).symm), sumTo_add, sumTo_one root N hr]
  omega
theorem TreeOf.pages {root N : Nat} {has : Nat → Bool} {f : Nat → Option By} {L : List It} (h : TreeOf root has f L) (hN : ∀ q, has q = true → q < N) : sumTo (fun q => (has q).toNat) N ≤ L.length ∧ (isum L < 2672 → sumTo (fun q => (has q).toNat) N ≤ 1) := by
  rcases h with ⟨_, rfl, h3⟩ | ⟨k, l, h, rfl⟩
  · rw [sumTo_congr (h := fun _ => 0) (fun q _ => by rw [h3]; rfl), sumTo_zero]; simp
  · have h1 := root_nds h.ok
    rw [h.pages hN]
    refine ⟨h1.1, fun hs => ?_⟩
    cases k with
    | zero => exact Nat.le_refl 1
    | succ k => have := h1.2 (by omega); omega
theorem TreeOf.ord {root : Nat} {has : Nat → Bool} {f : Nat → Option By} {L : List It} (h : TreeOf root has f L) : Ord L := by
  rcases h with ⟨_, rfl, h3⟩ | ⟨k, l, h, rfl⟩
  · exact List.Pairwise.nil
  · exact (ok_prs h.ok).2
theorem IsT.level {root N : Nat} {has : Nat → Bool} {f : Nat → Option By} {k : Nat} {l : Its k} (h : IsT root has f k l) (hN : ∀ q, has q = true → q < N) : 2 ^ k ≤ sumTo (fun q => (has q).toNat) N := by
  rw [h.pages hN]; exact nds_ge h.ok
theorem inS_all (key : By) : inS [] [] key = true := inS_iff.2 ⟨blt_nil _, .inl rfl⟩
theorem Rep.congr {f g : Nat → Option By} {k : Nat} {l : Its k} (h : Rep f k l) (e : ∀ q, 0 < cnt q k l → g q = f q) : Rep g k l := by
  induction k with
  | zero => trivial
  | succ k ih =>
    intro x hx
    have hc : ∀ q, 0 < cntT q x.2 → 0 < cnt q (k + 1) l := fun q hq => by
      obtain ⟨i, hi⟩ := List.getElem?_of_mem hx
      rw [cut_at hi, cnt_app, cnt_cons]; omega
    refine ⟨fun p hp => ?_, ih (h x hx).2 fun q hq => e q (hc q (by unfold cntT; omega))⟩
    rw [e p (hc p (by unfold cntT; rw [hp, if_pos rfl]; omega))]
    exact (h x hx).1 p hp
theorem cnt_strip {k : Nat} {n : Its (k + 1)} (q : Nat) (h : ∀ x : By × T k, n = [x] → pg x.2 = none ∧ (0 < k → (sub x.2).length ≠ 1)) : cnt q _ (strip (k + 1) n).2 = cnt q (k + 1) n := by
  by_cases hl : n.length = 1
  · obtain ⟨x, rfl⟩ := len1 hl
    obtain ⟨h1, h2⟩ := h x rfl
    rw [strip_one, strip_more h2, cnt_cons, cnt_nil]; unfold cntT; rw [h1]; simp
  · rw [strip_more fun _ => hl]
theorem cnt_crown {k : Nat} {n : Its k} (q : Nat) (h : ∀ k' (e : k = k' + 1) (x : By × T k'), (e ▸ n : Its (k' + 1)) = [x] → pg x.2 = none ∧ (0 < k' → (sub x.2).length ≠ 1)) : cnt q _ (crown k n).2 = cnt q k n := by
  by_cases hc : nsz n ≤ 4011
  · rw [show Tr.crown k n = Tr.strip k n from if_pos hc]
    cases k with
    | zero => rfl
    | succ k => exact cnt_strip q (fun x hx => h k rfl x hx)
  · rw [show Tr.crown k n = ⟨k + 1, Tr.parts n []⟩ from if_neg hc]
    exact cnt_parts q n []
theorem chg_single {key : By} {F : List It → List It} {m : Nat} {lo hi : By} (hF : Edit key F) {k : Nat} {l : Its k} (h : Ok k m lo hi l) (hk : inS lo hi key = true) :
    ∀ k' (e : k = k' + 1) (x : By × T k'), (e ▸ chg key F k l : Its (k' + 1)) = [x] → pg x.2 = none ∧ (0 < k' → (sub x.2).length ≠ 1) := by
  rintro k' rfl x hx
  have hx : chg key F (k' + 1) l = [x] := hx
  refine ⟨chg_new hx, fun h0 => ?_⟩
  have hn := (chg_near hF h hk).1.kids
  rw [hx] at hn
  have := ((ok_iff.1 hn.1).1.1.two h0).1
  omega
structure Taken (has has' : Nat → Bool) (f f' : Nat → Option By) (n : Nd) (p : Nat) (m : Its n.1) (ps : List Nat) : Prop where
  asg : Asg n.1 n.2 m
  more : ∀ q, (has' q).toNat = (has q).toNat + ps.count q
  same : ∀ q, has q = true → f' q = f q
  rep : Rep f' n.1 m
  top : f' p = some (told n.1 m)
  p0 : p ≠ 0
  p1 : p < 65536
  cnt : ∀ q, (if p = q then 1 else 0) + cnt q n.1 m = cnt q n.1 n.2 + ps.count q
theorem IsT.change {root : Nat} {has has' has2 : Nat → Bool} {f f' f2 : Nat → Option By} {k : Nat} {l : Its k} (h : IsT root has f k l) {key : By} {F : List It → List It} (hF : Edit key F) (hne : chg key F k l ≠ [])
    {p : Nat} {m : Its (crown k (chg key F k l)).1} {ps : List Nat} (t : Taken has has' f f' (crown k (chg key F k l)) p m ps)
    (h2 : ∀ q, (has2 q).toNat + (gone key F k (mkT (some root) l)).count q = (has' q).toNat) (e2 : ∀ q, has2 q = true → f2 q = f' q) :
    IsT p has2 f2 _ m ∧ prs _ m = F (prs k l) := by
  have hk := inS_all key
  obtain ⟨n1, n2, n3⟩ := chg_near hF h.ok hk
  have hsz := (ok_iff.1 h.ok).1.2.2
  obtain ⟨c1, c2, c3⟩ := crown_ok n1 (by omega) hne
  have hs := chg_single hF h.ok hk
  have hcnt : ∀ q, (if p = q then 1 else 0) + Tr.cnt q _ m = (has2 q).toNat := fun q => by
    have a1 := t.cnt q
    have a2 := t.more q
    have a3 := h2 q
    have a4 := h.cnt q
    have a5 := cnt_gone (F := F) q (t := mkT (some root) l) h.ok hk
    have a6 := Tr.cnt_crown q hs
    unfold cntT at a5
    rw [pg_mk, sub_mk] at a5
    have a7 : (if some root = some q then 1 else 0) = (if root = q then 1 else 0) := by simp
    omega
  have hin : ∀ q, 0 < Tr.cnt q _ m ∨ p = q → has2 q = true := fun q hq => by
    have := hcnt q
    rcases e : has2 q with _ | _
    · rw [e] at this
      rcases hq with hq | hq
      · simp at this; omega
      · rw [if_pos hq] at this; simp at this
    · rfl
  refine ⟨⟨t.asg.ok c1, t.asg.old (Half.crown (Half.chg h.old) hs), t.rep.congr fun q hq => e2 q (hin q (.inl hq)), (e2 p (hin p (.inr rfl))).trans t.top, t.p0, t.p1, hcnt⟩, ?_⟩
  rw [t.asg.prs, c2, n3]
theorem IsT.emptied {root : Nat} {has has2 : Nat → Bool} {f : Nat → Option By} {k : Nat} {l : Its k} (h : IsT root has f k l) {key : By} {F : List It → List It} (hF : Edit key F) (hne : chg key F k l = [])
    (h2 : ∀ q, (has2 q).toNat + (gone key F k (mkT (some root) l)).count q = (has q).toNat) : F (prs k l) = [] ∧ ∀ q, has2 q = false := by
  have hk := inS_all key
  obtain ⟨n1, n2, n3⟩ := chg_near hF h.ok hk
  refine ⟨by rw [← n3, hne, prs_nil], fun q => ?_⟩
  have a3 := h2 q
  have a4 := h.cnt q
  have a5 := cnt_gone (F := F) q (t := mkT (some root) l) h.ok hk
  unfold cntT at a5
  rw [pg_mk, sub_mk, hne, cnt_nil] at a5
  have a7 : (if some root = some q then 1 else 0) = (if root = q then 1 else 0) := by simp
  rcases e : has2 q with _ | _
  · rfl
  · rw [e] at a3; simp at a3; omega
theorem first_put {has' has2 : Nat → Bool} {f f' f2 : Nat → Option By} {key v : By} (h1 : 1 ≤ key.length) (hl : key.length ≤ 256) (hv : v.length ≤ 1024) {p : Nat} {m : Its 0} {ps : List Nat}
    (t : Taken (fun _ => false) has' f f' ⟨0, putK [] key v⟩ p m ps) (h2 : ∀ q, has2 q = has' q) (e2 : ∀ q, has2 q = true → f2 q = f' q) : IsT p has2 f2 0 m ∧ prs 0 m = putK [] key v := by
  have hm : putK [] key v = m := t.asg
  have hcnt : ∀ q, (if p = q then 1 else 0) + Tr.cnt q 0 m = (has2 q).toNat := fun q => by
    have a1 := t.cnt q
    have a2 := t.more q
    rw [h2 q]
    have e0 : cnt q 0 (putK [] key v) = 0 := rfl
    simp only [e0] at a1
    simp at a2
    omega
  have hin : has2 p = true := by
    have := hcnt p
    rcases e : has2 p with _ | _
    · rw [e] at this; rw [if_pos rfl] at this; simp at this
    · rfl
  refine ⟨⟨?_, trivial, trivial, (e2 p hin).trans t.top, t.p0, t.p1, hcnt⟩, hm.symm⟩
  subst hm
  have hn : Near 0 [] [] ([] : Its 0) := ⟨fun x hx => (by cases hx), fun x hx => (by cases hx), List.Pairwise.nil, fun h => absurd h (by omega), trivial⟩
  have hN := (edit_put h1 hl hv).near [] [] [] hn (inS_all key)
  have hS := (edit_put h1 hl hv).size []
  have e0 : nsz (k := 0) [] = 1 := rfl
  have hS : nsz (k := 0) (putK [] key v) ≤ nsz (k := 0) [] + 1284 := hS
  exact hN.ok (Nat.zero_le _) (show nsz (k := 0) (putK [] key v) ≤ 4011 by omega) (fun e => List.cons_ne_nil _ _ (show (key, v) :: [] = [] from e)) (fun h => absurd h (by omega))
end Go.Proofs.YtcjokkjepgfinaaGreatDoor.Tr
