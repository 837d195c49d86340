import Derived.Test.YtpnnakjffcohoaaR8
import Derived.Test.YtpnnakjffcohoaaF1
namespace Go.Proofs.Ytpnnakjffcohoaa
set_option linter.unusedVariables false
set_option linter.unusedSimpArgs false
open Go.RowKit Mem Go.ChangeMaps

/-! ### The document's disk as the program's -/
def toD (r : Rfd) : Dsk := ⟨r.n, r.lasts, waitOf r.since, firsts r.since, r.dead, fuseOf r.left⟩
structure RGood (r : Rfd) : Prop where
  sn : ∀ p ∈ r.since, p.1 < r.n ∧ p.2.length = 4096
  ln : ∀ i, i < r.n → (r.lasts i).length = 4096
theorem IsR.rgood {w : World} {rb : Nat} {lv sv : Value} {r : Rfd} (h : IsR w rb lv sv r) : RGood r := ⟨h.sn, h.ln⟩

theorem firsts_wait : ∀ l : List (Nat × List UInt8), ∀ i, i ∈ firsts l ↔ waitOf l i ≠ none := by
  refine snoc_ind (by simp [firsts, waitOf]) (fun l p ih i => ?_)
  rw [firsts_snoc, waitOf_snoc]
  by_cases e : p.1 = i
  · subst e
    rw [if_pos rfl]
    by_cases hm : p.1 ∈ firsts l
    · rw [if_pos hm]; simp [hm]
    · rw [if_neg hm]; simp
  · rw [if_neg e, ← ih]
    by_cases hm : p.1 ∈ firsts l
    · rw [if_pos hm]
    · rw [if_neg hm, List.mem_append, List.mem_singleton]
      constructor
      · rintro (h | h)
        · exact h
        · exact absurd h.symm e
      · exact .inl
theorem firsts_nodup : ∀ l : List (Nat × List UInt8), (firsts l).Nodup := by
  refine snoc_ind (by simp [firsts]) (fun l p ih => ?_)
  rw [firsts_snoc]
  by_cases hm : p.1 ∈ firsts l
  · rw [if_pos hm]; exact ih
  · rw [if_neg hm, List.nodup_append]
    refine ⟨ih, by simp, fun a ha b hb e => ?_⟩
    rw [List.mem_singleton] at hb
    subst hb
    exact hm (e ▸ ha)
theorem toD_good {r : Rfd} (g : RGood r) : Good (toD r) := ⟨fun i => by
  show i ∈ firsts r.since ↔ i < r.n ∧ waitOf r.since i ≠ none
  rw [← firsts_wait]
  constructor
  · intro h
    obtain ⟨p, hp, e⟩ := (firsts_mem _ _).1 h
    exact ⟨e ▸ (g.sn p hp).1, h⟩
  · exact fun h => h.2, firsts_nodup _⟩
theorem toD_page (r : Rfd) (i : Nat) : (toD r).page i = r.page i := rfl

theorem toD_counted (r : Rfd) : toD r.counted = (toD r).burn := by
  unfold Rfd.counted Dsk.burn
  by_cases h0 : r.left = 0
  · rw [if_pos h0]
    have e : (toD r).fuse = some 0 := by show fuseOf r.left = _; rw [h0]; rfl
    rw [e]
    show (⟨r.n, r.lasts, waitOf r.since, firsts r.since, true, fuseOf r.left⟩ : Dsk) = ⟨r.n, r.lasts, waitOf r.since, firsts r.since, true, some 0⟩
    rw [show fuseOf r.left = some 0 from e]
  · rw [if_neg h0]
    by_cases hp : 0 < r.left
    · rw [if_pos hp]
      obtain ⟨k, hk⟩ : ∃ k : Nat, r.left = (k : Int) + 1 := ⟨(r.left - 1).toNat, by omega⟩
      have e : (toD r).fuse = some (k + 1) := by
        show fuseOf r.left = _
        unfold fuseOf; rw [if_pos (by omega)]; congr 1; omega
      rw [e]
      have e2 : fuseOf (r.left - 1) = some k := by unfold fuseOf; rw [if_pos (by omega)]; congr 1; omega
      unfold toD
      simp only [e2]
    · rw [if_neg hp]
      have e : (toD r).fuse = none := by show fuseOf r.left = _; unfold fuseOf; rw [if_neg (by omega)]
      rw [e]
theorem toD_cnt (r : Rfd) : r.cnt = !(toD r).burnt := by
  have e : (toD r).fuse = fuseOf r.left := rfl
  unfold Rfd.cnt Dsk.burnt
  rw [e]
  by_cases h0 : r.left = 0
  · rw [h0]; rfl
  · have h1 : (r.left == 0) = false := by simp [h0]
    rw [h1]
    unfold fuseOf
    by_cases hp : 0 ≤ r.left
    · rw [if_pos hp]
      have : ¬ r.left.toNat = 0 := by omega
      have h2 : (some r.left.toNat == some 0) = false := by simp [this]
      rw [h2]
    · rw [if_neg hp]; rfl
theorem RGood.counted {r : Rfd} (g : RGood r) : RGood r.counted := by
  unfold Rfd.counted
  split
  · exact ⟨g.sn, g.ln⟩
  · split
    · exact ⟨g.sn, g.ln⟩
    · exact g
theorem toD_put (r : Rfd) (g : RGood r) (k : Nat) (l : List UInt8) (hk : k < r.n) : toD (r.pushed k l) = (toD r).put k l := by
  have hw : waitOf (r.since ++ [(k, l)]) = fun j => if j = k then some l else waitOf r.since j := funext fun j => by
    rw [waitOf_snoc]
    by_cases e : k = j
    · subst e; simp
    · rw [if_neg e, if_neg (Ne.symm e)]
  have ho := firsts_snoc r.since (k, l)
  have hi := firsts_wait r.since k
  unfold Dsk.put
  by_cases hm : k ∈ firsts r.since
  · have hs : ((toD r).wait k).isSome = true := by
      show (waitOf r.since k).isSome = true
      exact Option.isSome_iff_ne_none.2 (hi.1 hm)
    rw [if_pos hs]
    rw [if_pos hm] at ho
    show (⟨r.n, r.lasts, waitOf (r.since ++ [(k, l)]), firsts (r.since ++ [(k, l)]), r.dead, fuseOf r.left⟩ : Dsk) = ⟨r.n, r.lasts, _, firsts r.since, r.dead, fuseOf r.left⟩
    rw [ho, hw]; rfl
  · have hs : ¬ ((toD r).wait k).isSome = true := by
      show ¬ (waitOf r.since k).isSome = true
      rw [Option.isSome_iff_ne_none]
      exact fun h => hm (hi.2 h)
    rw [if_neg hs]
    rw [if_neg hm] at ho
    show (⟨r.n, r.lasts, waitOf (r.since ++ [(k, l)]), firsts (r.since ++ [(k, l)]), r.dead, fuseOf r.left⟩ : Dsk) = ⟨r.n, r.lasts, _, firsts r.since ++ [k], r.dead, fuseOf r.left⟩
    rw [ho, hw]; rfl

theorem toD_ref (r : Rfd) (i : Int) : r.ref i = (toD r).ref i := rfl
theorem toD_ansW (r : Rfd) (i : Int) (l : List UInt8) : r.ansW i l = if l.length = 4096 then (toD r).ansW i else if r.dead then 9 else 1 := by
  have ed : (toD r).dead = r.dead := rfl
  have eh : (toD r).has i = r.has i := rfl
  unfold Rfd.ansW Dsk.ansW Dsk.went Dsk.ref refuse Rfd.fits
  rw [ed, eh, toD_cnt]
  by_cases hl : l.length = 4096 <;> cases r.dead <;> cases r.has i <;> cases (toD r).burnt <;> simp [hl]
theorem toD_doW (r : Rfd) (g : RGood r) (i : Int) (l : List UInt8) : toD (r.doW i l) = if l.length = 4096 then (toD r).doW i l else toD r := by
  have ed : (toD r).dead = r.dead := rfl
  have eh : (toD r).has i = r.has i := rfl
  unfold Rfd.doW Dsk.doW Dsk.ref refuse Rfd.fits
  rw [ed, eh]
  rcases hd : r.dead with _ | _
  · rcases hh : r.has i with _ | _
    · simp
    · have hi : 0 ≤ i ∧ i < r.n := by simpa [Rfd.has] using hh
      by_cases hl : l.length = 4096
      · simp [hl, toD_counted, toD_put r g i.toNat l (by omega)]
      · simp [hl]
  · simp
end Go.Proofs.Ytpnnakjffcohoaa
