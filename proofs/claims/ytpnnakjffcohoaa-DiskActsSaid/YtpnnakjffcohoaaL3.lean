import Derived.Test.YtpnnakjffcohoaaL2
namespace Go.Proofs.Ytpnnakjffcohoaa
set_option linter.unusedVariables false
set_option linter.unusedSimpArgs false
open Go.RowKit Mem Go.ChangeMaps
variable {w : World}

theorem torn_at (f : Int) (a b : List UInt8) (ha : a.length = 4096) (hb : b.length = 4096) (i : Nat) (hi : i < 4096) : (torn f a b).getD i 0 = if bit f (i / 512) = true then b.getD i 0 else a.getD i 0 := by
  rw [torn, tornTo_at f a b ha hb 8 (by omega) i hi]
  have : i / 512 < 8 := by omega
  simp only [this, true_and]
theorem torn_len (f : Int) (a b : List UInt8) (ha : a.length = 4096) (hb : b.length = 4096) : (torn f a b).length = 4096 := tornTo_len f a b ha hb 8 (by omega)
theorem zpage_at (i : Nat) : zpage.getD i 0 = 0 := by
  rw [List.getD_eq_getElem?_getD, zpage, List.getElem?_replicate]
  split <;> rfl

/-- What lasts behind the power came again. -/
theorem restart_last (d : Dsk) (fs : List Int) (hg : Good d) (i : Nat) : (d.restart fs).last i = (match d.order.idxOf? i with | some j => if j < fs.length then torn (fs.getD j 0) (d.last i) (d.page i) else d.last i | none => d.last i) := by
  have hl := tornK_last d fs hg (min d.order.length fs.length) (by omega)
  have e0 : (d.restart fs).last i = (d.tornK fs (min d.order.length fs.length)).last i := rfl
  rw [e0]
  rcases hj : d.order.idxOf? i with _ | j
  · have hni : i ∉ d.order := by simpa using hj
    exact hl.1 i (fun h => hni (List.mem_of_mem_take h))
  · obtain ⟨hjl, hji, _⟩ := List.idxOf?_eq_some_iff.1 hj
    show _ = if j < fs.length then _ else _
    by_cases h : j < fs.length
    · rw [if_pos h]
      exact hl.2 j (by omega) i (by rw [List.getElem?_eq_getElem hjl]; simpa using hji)
    · rw [if_neg h]
      refine hl.1 i (fun hm => ?_)
      obtain ⟨k, hk, e⟩ := List.getElem_of_mem hm
      rw [List.getElem_take] at e
      have hk' : k < min d.order.length fs.length := by simpa using hk
      have e2 : d.order[k]'(by omega) = d.order[j] := by rw [e]; simpa using hji.symm
      have := (List.getElem_inj hg.nodup).1 e2
      omega

/-- The law's own example, as data. -/
def g1 : Dsk := (newD 2).fuseTo 1
def g2 (a : List UInt8) : Dsk := g1.doW 0 a
def g3 (a b : List UInt8) : Dsk := (g2 a).doW 1 b
def g4 (a b : List UInt8) : Dsk := (g3 a b).restart [0, 255]
theorem g1_ans : g1.ansW 0 = 0 := by decide
theorem g2_ans (a : List UInt8) : (g2 a).ansW 1 = 9 := by rfl
theorem g3_dead (a b : List UInt8) : (g3 a b).dead = true := by rfl
theorem g4_ref (a b : List UInt8) : (g4 a b).ref 0 = 0 ∧ (g4 a b).ref 1 = 0 := ⟨by rfl, by rfl⟩
theorem g3_order (a b : List UInt8) : (g3 a b).order = [0, 1] := by rfl
theorem g3_good (a b : List UInt8) : Good (g3 a b) := doW_good (doW_good (fuseTo_good (newD_good 2) 1) 0 a) 1 b
theorem g4_page (a b : List UInt8) : (g4 a b).page 0 = torn 0 zpage a ∧ (g4 a b).page 1 = torn 255 zpage b := by
  have l0 : (g3 a b).last 0 = zpage := rfl
  have l1 : (g3 a b).last 1 = zpage := rfl
  have p0 : (g3 a b).page 0 = a := rfl
  have p1 : (g3 a b).page 1 = b := rfl
  have i0 : ([0, 1] : List Nat).idxOf? 0 = some 0 := by decide
  have i1 : ([0, 1] : List Nat).idxOf? 1 = some 1 := by decide
  constructor
  · show (g4 a b).last 0 = _
    rw [g4, restart_last _ _ (g3_good a b), g3_order, i0, l0, p0]
    exact if_pos (by decide)
  · show (g4 a b).last 1 = _
    rw [g4, restart_last _ _ (g3_good a b), g3_order, i1, l1, p1]
    exact if_pos (by decide)
theorem bit_zero (s : Nat) : bit 0 s = false := by simp [bit]
theorem bit_full (s : Nat) (h : s < 8) : bit 255 s = true := by
  match s, h with
  | 0, _ | 1, _ | 2, _ | 3, _ | 4, _ | 5, _ | 6, _ | 7, _ => decide
end Go.Proofs.Ytpnnakjffcohoaa
