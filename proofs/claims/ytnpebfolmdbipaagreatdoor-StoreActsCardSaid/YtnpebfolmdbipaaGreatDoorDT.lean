import Derived.Test.YtnpebfolmdbipaaGreatDoorDE
namespace Go.Proofs.YtnpebfolmdbipaaGreatDoor.Dk
set_option maxRecDepth 8000
set_option linter.unusedVariables false
set_option linter.unusedSimpArgs false
open Go.RowKit Mem Go.ChangeMaps

theorem torn_at (f : Int) (a b : List UInt8) (ha : a.length = 4096) (hb : b.length = 4096) (i : Nat) (hi : i < 4096) : (torn f a b).getD i 0 = if bit f (i / 512) = true then b.getD i 0 else a.getD i 0 := by
  rw [torn, tornTo_at f a b ha hb 8 (by omega) i hi]
  have : i / 512 < 8 := by omega
  simp only [this, true_and]
theorem torn_len (f : Int) (a b : List UInt8) (ha : a.length = 4096) (hb : b.length = 4096) : (torn f a b).length = 4096 := tornTo_len f a b ha hb 8 (by omega)
theorem zpage_at (i : Nat) : zpage.getD i 0 = 0 := by
  rw [List.getD_eq_getElem?_getD, zpage, List.getElem?_replicate]
  split <;> rfl

/-- What lasts behind the power came again. -/
theorem restart_last (d : Dsk) (fs : List Int) (hg : Good d) (i : Nat) : (d.restart fs).last i = (match d.order.idxOf? i with | some j => if j < fs.length then torn (fs.getD j 0) (d.last i) (d.page i) else d.last i | none => d.last i) := by
  have hl := tornK_last d fs hg (min d.order.length fs.length) (by omega)
  have e0 : (d.restart fs).last i = (d.tornK fs (min d.order.length fs.length)).last i := rfl
  rw [e0]
  rcases hj : d.order.idxOf? i with _ | j
  · have hni : i ∉ d.order := by simpa using hj
    exact hl.1 i (fun h => hni (List.mem_of_mem_take h))
  · obtain ⟨hjl, hji, _⟩ := List.idxOf?_eq_some_iff.1 hj
    show _ = if j < fs.length then _ else _
    by_cases h : j < fs.length
    · rw [if_pos h]
      exact hl.2 j (by omega) i (by rw [List.getElem?_eq_getElem hjl]; simpa using hji)
    · rw [if_neg h]
      refine hl.1 i (fun hm => ?_)
      obtain ⟨k, hk, e⟩ := List.getElem_of_mem hm
      rw [List.getElem_take] at e
      have hk' : k < min d.order.length fs.length := by simpa using hk
      have e2 : d.order[k]'(by omega) = d.order[j] := by rw [e]; simpa using hji.symm
      have := (List.getElem_inj hg.nodup).1 e2
      omega

theorem bit_zero (s : Nat) : bit 0 s = false := by simp [bit]
theorem bit_full (s : Nat) (h : s < 8) : bit 255 s = true := by
  match s, h with
  | 0, _ | 1, _ | 2, _ | 3, _ | 4, _ | 5, _ | 6, _ | 7, _ => decide
/-- A sector. -/
def sector (l : List UInt8) (q : Nat) : List UInt8 := (l.drop (512 * q)).take 512
theorem sector_len (l : List UInt8) (q : Nat) (hl : l.length = 4096) (hq : q < 8) : (sector l q).length = 512 := by
  simp [sector, hl]; omega
theorem sector_at (l : List UInt8) (q i : Nat) (hi : i < 512) : (sector l q)[i]? = l[512 * q + i]? := by
  rw [sector, List.getElem?_take_of_lt hi, List.getElem?_drop]
theorem torn_sector (f : Int) (a b : List UInt8) (ha : a.length = 4096) (hb : b.length = 4096) (q : Nat) (hq : q < 8) : sector (torn f a b) q = if bit f q = true then sector b q else sector a q := by
  have key : ∀ l : List UInt8, l.length = 4096 → (∀ i, i < 512 → (torn f a b).getD (512 * q + i) 0 = l.getD (512 * q + i) 0) → sector (torn f a b) q = sector l q := fun l hl h => by
    apply List.ext_getElem?
    intro i
    by_cases hi : i < 512
    · rw [sector_at _ _ _ hi, sector_at _ _ _ hi]
      have := h i hi
      rw [List.getD_eq_getElem?_getD, List.getD_eq_getElem?_getD] at this
      have h1 : 512 * q + i < (torn f a b).length := by rw [torn_len f a b ha hb]; omega
      have h2 : 512 * q + i < l.length := by omega
      rw [List.getElem?_eq_getElem h1, List.getElem?_eq_getElem h2] at this ⊢
      simpa using this
    · rw [List.getElem?_eq_none (by rw [sector_len _ _ (torn_len f a b ha hb) hq]; omega), List.getElem?_eq_none (by rw [sector_len _ _ hl hq]; omega)]
  have hd : ∀ i, i < 512 → (512 * q + i) / 512 = q := fun i hi => by omega
  by_cases h : bit f q = true
  · rw [if_pos h]
    exact key b hb fun i hi => by rw [torn_at f a b ha hb _ (by omega), hd i hi, if_pos h]
  · rw [if_neg h]
    exact key a ha fun i hi => by rw [torn_at f a b ha hb _ (by omega), hd i hi, if_neg h]
theorem torn_all (a b : List UInt8) (ha : a.length = 4096) (hb : b.length = 4096) : torn 255 a b = b := by
  apply List.ext_getElem?
  intro i
  by_cases hi : i < 4096
  · have := torn_at 255 a b ha hb i hi
    rw [bit_full _ (by omega), if_pos rfl, List.getD_eq_getElem?_getD, List.getD_eq_getElem?_getD] at this
    have h1 : i < (torn 255 a b).length := by rw [torn_len _ _ _ ha hb]; exact hi
    rw [List.getElem?_eq_getElem h1, List.getElem?_eq_getElem (by omega)] at this ⊢
    simpa using this
  · rw [List.getElem?_eq_none (by rw [torn_len _ _ _ ha hb]; omega), List.getElem?_eq_none (by omega)]

theorem torn_none (a b : List UInt8) (ha : a.length = 4096) (hb : b.length = 4096) : torn 0 a b = a := by
  apply List.ext_getElem?
  intro i
  by_cases hi : i < 4096
  · have := torn_at 0 a b ha hb i hi
    rw [bit_zero, if_neg (by simp), List.getD_eq_getElem?_getD, List.getD_eq_getElem?_getD] at this
    have h1 : i < (torn 0 a b).length := by rw [torn_len _ _ _ ha hb]; exact hi
    rw [List.getElem?_eq_getElem h1, List.getElem?_eq_getElem (by omega)] at this ⊢
    simpa using this
  · rw [List.getElem?_eq_none (by rw [torn_len _ _ _ ha hb]; omega), List.getElem?_eq_none (by omega)]
end Go.Proofs.YtnpebfolmdbipaaGreatDoor.Dk
