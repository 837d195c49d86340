import Derived.Test.YtbiofjddclbncaaSs2
namespace Go.Proofs.Ytbiofjddclbncaa.Sr
set_option linter.unusedVariables false
set_option linter.unusedSimpArgs false
open Go.RowKit Mem Mo
/-- The number at place k. -/
def gv (l : List Int) (k : Nat) : Int := l[k]?.getD 0
theorem gv_at {l : List Int} {k : Nat} (h : k < l.length) : gv l k = l[k] := by unfold gv; rw [List.getElem?_eq_getElem h]; rfl
theorem sum_take (l : List Int) (k : Nat) (hk : k ≤ l.length) : (l.take k).sum = sm (gv l) k := by
  induction k with
  | zero => simp [sm]
  | succ k ih => rw [sum_next l (by omega), ih (by omega)]; show _ = sm (gv l) k + gv l k; rw [gv_at]
theorem sum_gv (l : List Int) : l.sum = sm (gv l) l.length := by have := sum_take l l.length (Nat.le_refl _); rwa [List.take_length] at this
/-- A list of the first n values. -/
def tl (n : Nat) (f : Nat → Int) : List Int := (List.range n).map f
theorem tl_len (n : Nat) (f : Nat → Int) : (tl n f).length = n := by simp [tl]
theorem tl_at (n : Nat) (f : Nat → Int) {k : Nat} (h : k < (tl n f).length) : (tl n f)[k] = f k := by simp [tl]
theorem tl_sum (n : Nat) (f : Nat → Int) : (tl n f).sum = sm f n := by
  rw [sum_gv, tl_len]
  exact sm_congr fun i hi => by rw [gv_at (by rw [tl_len]; exact hi), tl_at]
theorem tl_congr {n : Nat} {f f' : Nat → Int} (h : ∀ k, k < n → f k = f' k) : tl n f = tl n f' := by
  unfold tl; exact List.map_congr_left fun k hk => h k (List.mem_range.1 hk)
theorem tl_mem {n : Nat} {f : Nat → Int} {x : Int} (h : x ∈ tl n f) : ∃ k, k < n ∧ x = f k := by
  unfold tl at h
  obtain ⟨k, hk, e⟩ := List.mem_map.1 h
  exact ⟨k, List.mem_range.1 hk, e.symm⟩
theorem RowZ.rd {W : World} {g n : Nat} {f : Nat → Int} (h : RowZ W g n f) {c : Nat} (hc : n ≤ c) (hm : c ≤ maxLen) : RdI W W.heap.size (some ⟨g, 0, none⟩) c (tl n f) :=
  ⟨by rw [tl_len]; exact hc, hm, fun e => (by cases e), fun _ => ⟨g, 0, rfl, h.lt, fun i hi => by
    rw [tl_at, Nat.zero_add]; exact h.c i (by rw [tl_len] at hi; exact hi)⟩⟩
/-- What Split answers: the number of the error, and the shares. -/
def spE (T : Int) (l : List Int) : Int := if 100 < l.length ∨ wnB 0 9223372036854775807 [T] = false ∨ wnB 0 9223372036854775807 l = false then 1 else if isn l.sum = false then 30 else if l.sum = 0 then 1 else 0
def shl (T : Int) (l : List Int) : List Int := if spE T l = 0 then tl l.length (shr (qv T (gv l) l.sum) (rv T (gv l) l.sum) l.length (lf T (gv l) l.length l.sum).toNat) else []
theorem spE_a {T : Int} {l : List Int} (h : 100 < l.length ∨ wnB 0 9223372036854775807 [T] = false ∨ wnB 0 9223372036854775807 l = false) : spE T l = 1 ∧ shl T l = [] := by
  have e : spE T l = 1 := by unfold spE; rw [if_pos h]
  exact ⟨e, by unfold shl; rw [e, if_neg (by omega)]⟩
theorem spE_o {T : Int} {l : List Int} (h : ¬ (100 < l.length ∨ wnB 0 9223372036854775807 [T] = false ∨ wnB 0 9223372036854775807 l = false)) (h2 : isn l.sum = false) : spE T l = 30 ∧ shl T l = [] := by
  have e : spE T l = 30 := by unfold spE; rw [if_neg h, if_pos h2]
  exact ⟨e, by unfold shl; rw [e, if_neg (by omega)]⟩
theorem spE_z {T : Int} {l : List Int} (h : ¬ (100 < l.length ∨ wnB 0 9223372036854775807 [T] = false ∨ wnB 0 9223372036854775807 l = false)) (h2 : isn l.sum = true) (h3 : l.sum = 0) : spE T l = 1 ∧ shl T l = [] := by
  have e : spE T l = 1 := by unfold spE; rw [if_neg h, if_neg (by rw [h2]; simp), if_pos h3]
  exact ⟨e, by unfold shl; rw [e, if_neg (by omega)]⟩
theorem spE_y {T : Int} {l : List Int} (h : ¬ (100 < l.length ∨ wnB 0 9223372036854775807 [T] = false ∨ wnB 0 9223372036854775807 l = false)) (h2 : isn l.sum = true) (h3 : l.sum ≠ 0) : spE T l = 0 ∧ shl T l = tl l.length (shr (qv T (gv l) l.sum) (rv T (gv l) l.sum) l.length (lf T (gv l) l.length l.sum).toNat) := by
  have e : spE T l = 0 := by unfold spE; rw [if_neg h, if_neg (by rw [h2]; simp), if_neg h3]
  exact ⟨e, by unfold shl; rw [e, if_pos rfl]⟩
theorem wn_t {lo hi : Int} {l : List Int} (h : wnB lo hi l = true) : ∀ x ∈ l, lo ≤ x ∧ x ≤ hi := by unfold wnB at h; simpa using h
theorem sh_of {T : Int} {l : List Int} (h1 : wnB 0 9223372036854775807 [T] = true) (h2 : wnB 0 9223372036854775807 l = true) (h3 : l.sum ≠ 0) : Sh T (gv l) l.length l.sum where
  t0 := (wn_t h1 T (by simp)).1
  w0 := fun i hi => by rw [gv_at hi]; exact (wn_t h2 _ (List.getElem_mem hi)).1
  a := (sum_gv l).symm
  a0 := by
    have := sm_nonneg (f := gv l) (n := l.length) fun i hi => by rw [gv_at hi]; exact (wn_t h2 _ (List.getElem_mem hi)).1
    rw [← sum_gv] at this; omega
section
variable {T : Int} {w : Nat → Int} {n : Nat} {A : Int}
theorem Sh.shr_le (h : Sh T w n A) {k i : Nat} (hk : k ≤ (lf T w n A).toNat) (hi : i < n) : 0 ≤ shr (qv T w A) (rv T w A) n k i ∧ shr (qv T w A) (rv T w A) n k i ≤ T := by
  have q0 := h.q0 hi
  have key : shr (qv T w A) (rv T w A) n k i ≤ shr (qv T w A) (rv T w A) n (lf T w n A).toNat i := by
    unfold shr
    by_cases e : had (rv T w A) n k i
    · rw [if_pos e, if_pos (had_mono hk e)]; exact Int.le_refl _
    · rw [if_neg e]; split <;> omega
  have key2 := sm_at_le (f := shr (qv T w A) (rv T w A) n (lf T w n A).toNat) (n := n) (fun j hj => by
    unfold shr; have := h.q0 hj; split <;> omega) hi
  rw [h.total] at key2
  refine ⟨?_, by omega⟩
  unfold shr; split <;> omega
theorem shr_next {q r : Nat → Int} {n k : Nat} (hk : k < n) : shr q r n k (nxt r n k) + 1 = shr q r n (k + 1) (nxt r n k) ∧ ∀ x, (if x = nxt r n k then shr q r n k (nxt r n k) + 1 else shr q r n k x) = shr q r n (k + 1) x := by
  have e1 : shr q r n k (nxt r n k) + 1 = shr q r n (k + 1) (nxt r n k) := by
    unfold shr
    rw [if_neg (nxt_first hk).1, if_pos ((had_succ hk _).2 (.inr rfl))]; omega
  refine ⟨e1, fun x => ?_⟩
  by_cases e : x = nxt r n k
  · rw [if_pos e, e1, e]
  · rw [if_neg e]
    unfold shr
    have := had_succ (r := r) hk x
    by_cases h : had r n k x
    · rw [if_pos h, if_pos (this.2 (.inl h))]
    · rw [if_neg h, if_neg (fun c => (this.1 c).elim h e)]
end
theorem nxt_of {r : Nat → Int} {n k : Nat} {T : Nat → Nat} (h : (List.range n).map T = srt r n) (hk : k < n) : nxt r n k = T k := by
  unfold nxt; rw [← h]; simp [hk]
end Go.Proofs.Ytbiofjddclbncaa.Sr
