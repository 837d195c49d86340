import Derived.Test.YtcjokkjepgfinaaGreatDoorQG8
set_option linter.unusedVariables false
set_option linter.unusedSimpArgs false
namespace Go.Proofs.YtcjokkjepgfinaaGreatDoor.Tr
theorem lows_cons {α : Type} (x : By × α) (l : List (By × α)) (key : By) : lows (x :: l) key = if blt x.1 key then lows l key + 1 else 0 := by
  unfold lows
  rw [List.takeWhile_cons]
  split
  · rfl
  · rfl
theorem hasK_cons {α : Type} (x : By × α) (l : List (By × α)) (key : By) : hasK (x :: l) key = if blt x.1 key then hasK l key else x.1 == key := by
  unfold hasK
  rw [lows_cons]
  by_cases h : blt x.1 key = true
  · rw [if_pos h, if_pos h, List.getElem?_cons_succ]
  · rw [if_neg h, if_neg h]; rfl
theorem getK_cons (x : It) (l : List It) (key : By) : getK (x :: l) key = if blt x.1 key then getK l key else if x.1 = key then some x.2 else none := by
  unfold getK
  rw [lows_cons]
  by_cases h : blt x.1 key = true
  · rw [if_pos h, if_pos h, List.getElem?_cons_succ]
  · rw [if_neg h, if_neg h]; rfl
theorem putK_cons (x : It) (l : List It) (key v : By) : putK (x :: l) key v = if blt x.1 key then x :: putK l key v else if x.1 = key then (key, v) :: l else (key, v) :: x :: l := by
  unfold putK
  rw [lows_cons, hasK_cons]
  by_cases h : blt x.1 key = true
  · rw [if_pos h, if_pos h, if_pos h, List.take_succ_cons, Nat.add_right_comm, List.drop_succ_cons]; rfl
  · rw [if_neg h, if_neg h, if_neg h]
    by_cases e : x.1 = key
    · rw [if_pos e, e]; simp
    · rw [if_neg e, beq_eq_false_iff_ne.2 e]; simp
theorem put_same_val {l : List It} {key v : By} (h : getK l key = some v) : putK l key v = l := by
  induction l with
  | nil => cases h
  | cons x l ih =>
    rw [getK_cons] at h
    rw [putK_cons]
    split at h
    · rename_i hb; rw [if_pos hb, ih h]
    · rename_i hb
      rw [if_neg hb]
      split at h
      · rename_i e
        injection h with h
        rw [if_pos e, ← h, ← e]
      · cases h
end Go.Proofs.YtcjokkjepgfinaaGreatDoor.Tr
