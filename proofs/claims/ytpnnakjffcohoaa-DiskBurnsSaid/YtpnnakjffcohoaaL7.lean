import Derived.Test.YtpnnakjffcohoaaL4
import Derived.Test.YtpnnakjffcohoaaOpen
namespace Go.Proofs.Ytpnnakjffcohoaa
set_option linter.unusedVariables false
set_option linter.unusedSimpArgs false
open Go.RowKit Mem Go.ChangeMaps
variable {w : World}

theorem u8_and1 (x : Int) (h0 : 0 ≤ x) (h1 : x < 256) : bits .and .u8 x 1 = x % 2 := by
  rw [u8_and x 1 h0 h1 (by omega) (by omega), show (1 : Int).toNat = 1 from rfl, Nat.and_one_is_mod]
  omega

theorem burn_zero {d : Dsk} (hf : d.fuse = some 0) : d.burn = { d with dead := true } := by
  cases d; simp only at hf; subst hf; rfl
/-- The disk behind i of the writes, of a fuse of k. -/
structure Bn (d : Dsk) (k i : Nat) : Prop where
  n : d.n = 3
  dead : d.dead = false
  fuse : d.fuse = some (k - i)
  last : ∀ j, d.last j = zpage
  order : d.order = if i = 0 then [] else [1]
  good : Good d

theorem Bn.start (k : Nat) : Bn ((newD 3).fuseTo k) k 0 := by
  have e : (newD 3).fuseTo (k : Int) = { newD 3 with fuse := some k } := by
    simp [Dsk.fuseTo, newD, fuseOf]
  rw [e]
  exact ⟨rfl, rfl, rfl, fun _ => rfl, rfl, ⟨(newD_good 3).mem, (newD_good 3).nodup⟩⟩
theorem Bn.ref {d : Dsk} {k i : Nat} (h : Bn d k i) (j : Nat) (hj : j < 3) : d.ref j = 0 := (ref_zero d j).2 ⟨h.dead, by omega, by rw [h.n]; omega⟩
theorem Bn.step {d : Dsk} {k i : Nat} (h : Bn d k i) (hi : i < k) (l : List UInt8) : d.ansW 1 = 0 ∧ Bn (d.doW 1 l) k (i + 1) := by
  have h1 := h.ref 1 (by omega)
  have hb : d.burnt = false := by simp [Dsk.burnt, h.fuse]; omega
  have hw : d.went = 0 := by simp [Dsk.went, hb]
  refine ⟨(if_pos h1).trans hw, ?_⟩
  have hg := doW_good h.good 1 l
  have e : d.doW 1 l = (d.put 1 l).burn := if_pos h1
  rw [e] at hg ⊢
  have hf : (d.put 1 l).fuse = some (k - i) := by unfold Dsk.put; split <;> exact h.fuse
  have e2 : (d.put 1 l).burn = { d.put 1 l with fuse := some (k - (i + 1)) } := by
    unfold Dsk.burn
    rw [hf]
    obtain ⟨q, hq⟩ : ∃ q, k - i = q + 1 := ⟨k - i - 1, by omega⟩
    rw [hq]
    have e9 : k - (i + 1) = q := by omega
    rw [e9]
  rw [e2] at hg ⊢
  refine ⟨?_, ?_, rfl, ?_, ?_, hg⟩
  · show (d.put 1 l).n = 3
    unfold Dsk.put; split <;> exact h.n
  · show (d.put 1 l).dead = false
    unfold Dsk.put; split <;> exact h.dead
  · intro j
    show (d.put 1 l).last j = zpage
    unfold Dsk.put; split <;> exact h.last j
  · show (d.put 1 l).order = if i + 1 = 0 then [] else [1]
    rw [if_neg (by omega)]
    have hm := h.good.mem 1
    have ho := h.order
    rw [h.n] at hm
    unfold Dsk.put
    by_cases hi0 : i = 0
    · rw [if_pos hi0] at ho
      rw [ho] at hm
      have : d.wait 1 = none := by
        rcases hW : d.wait 1 with _ | l'
        · rfl
        · exact absurd (hm.2 ⟨by omega, by rw [hW]; simp⟩) (by simp)
      rw [this, if_neg (by simp)]
      show d.order ++ [1] = _
      rw [ho]; rfl
    · rw [if_neg hi0] at ho
      rw [ho] at hm
      have := (hm.1 (by simp)).2
      rcases hW : d.wait 1 with _ | l'
      · exact absurd hW this
      · rw [if_pos (by simp)]; exact ho

/-- What is left when the power has gone. -/
theorem Bn.ends {d : Dsk} {k : Nat} (h : Bn d k k) (l : List UInt8) : d.ansW 2 = 9 ∧ (d.doW 2 l).dead = true ∧ (∀ i : Int, (d.doW 2 l).ref i = 9) ∧ (d.doW 2 l).ansF = 9 ∧ (d.doW 2 l).doF = d.doW 2 l ∧ (∀ i l', (d.doW 2 l).ansW i = 9 ∧ (d.doW 2 l).doW i l' = d.doW 2 l) ∧
    (d.doW 2 l).n = 3 ∧ (d.doW 2 l).order = (if k = 0 then [] else [1]) ++ [2] ∧ (d.doW 2 l).last 2 = zpage ∧ (d.doW 2 l).page 2 = l ∧ Good (d.doW 2 l) := by
  have h1 := h.ref 2 (by omega)
  have hf0 : d.fuse = some 0 := by rw [h.fuse]; simp
  have hb : d.burnt = true := by simp [Dsk.burnt, hf0]
  have hw : d.went = 9 := by simp [Dsk.went, hb]
  have hg := doW_good h.good 2 l
  have hm := h.good.mem 2
  have hw2 : d.wait 2 = none := by
    rcases hW : d.wait 2 with _ | l'
    · rfl
    · have := hm.2 ⟨by rw [h.n]; omega, by rw [hW]; simp⟩
      rw [h.order] at this
      split at this <;> simp at this
  have e : d.doW 2 l = (d.put 2 l).burn := if_pos h1
  have e1 : d.put 2 l = (d.pushed 2).laid 2 l := by unfold Dsk.put; rw [hw2]; rfl
  have hf : (d.put 2 l).fuse = some 0 := by rw [e1]; exact hf0
  have e2 : (d.put 2 l).burn = { d.put 2 l with dead := true } := burn_zero hf
  rw [e, e2, e1] at hg ⊢
  have hd : ({ (d.pushed 2).laid 2 l with dead := true } : Dsk).dead = true := rfl
  have hr : ∀ i : Int, ({ (d.pushed 2).laid 2 l with dead := true } : Dsk).ref i = 9 := fun i => by simp [Dsk.ref, refuse]
  refine ⟨(if_pos h1).trans hw, rfl, hr, if_pos hd, if_pos hd, fun i l' => ?_, h.n, ?_, h.last 2, ?_, hg⟩
  · unfold Dsk.ansW Dsk.doW
    rw [hr i]
    exact ⟨rfl, rfl⟩
  · show d.order ++ [2] = _
    rw [h.order]
  · show ((if 2 = 2 then some l else d.wait 2)).getD _ = l
    rfl
theorem Bn.page {d : Dsk} {k : Nat} (h : Bn d k k) (l : List UInt8) (f : Int) (fs : List Int) (hfs : fs = if k = 0 then [f] else [0, f]) :
    (((d.doW 2 l).restart fs).ref 2 = 0) ∧ ((d.doW 2 l).restart fs).page 2 = torn f zpage l ∧ ((d.doW 2 l).restart fs).ansF = 0 := by
  obtain ⟨_, _, _, _, _, _, hn, ho, hl, hp, hg⟩ := h.ends l
  refine ⟨?_, ?_, rfl⟩
  · refine (ref_zero _ 2).2 ⟨rfl, by omega, ?_⟩
    have : ((d.doW 2 l).restart fs).n = 3 := by
      show ((d.doW 2 l).tornK fs _).n = 3
      rw [(tornK_wait _ _ _).2.2.1, hn]
    rw [this]; omega
  · show ((d.doW 2 l).restart fs).last 2 = _
    rw [restart_last _ _ hg, ho, hl, hp, hfs]
    have i0 : (([] : List Nat) ++ [2]).idxOf? 2 = some 0 := by decide
    have i1 : (([1] : List Nat) ++ [2]).idxOf? 2 = some 1 := by decide
    by_cases hk : k = 0
    · simp only [if_pos hk]
      rw [i0]
      exact if_pos (by simp)
    · simp only [if_neg hk]
      rw [i1]
      exact if_pos (by simp)
end Go.Proofs.Ytpnnakjffcohoaa
