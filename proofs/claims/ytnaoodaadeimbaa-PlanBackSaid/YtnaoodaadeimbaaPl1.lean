import Derived.Test.YtnaoodaadeimbaaPl0
import Derived.Test.YtnaoodaadeimbaaTi0
namespace Go.Proofs.Ytnaoodaadeimbaa.Pl
set_option linter.unusedVariables false
set_option linter.unusedSimpArgs false
open Mem Ti
/-- A plan: its numbers, its tiers (u their Uptos, p their Prices, n how many). -/
structure Pln where
  i : Int
  dy : Int
  mo : Int
  ov : Int
  ro : Int
  ba : Int
  n : Nat
  u : Nat → Int
  p : Nat → Int
def unB (x : Int) : Bool := decide (0 ≤ x ∧ x ≤ 1099511627776)
/-- It may be. (i is from 0 to 2^32 - 1 by its type.) -/
def may (P : Pln) : Bool := decide (P.i ≠ 0) && (unB P.dy && (unB P.mo && (unB P.ov && (unB P.ro && (decide (0 ≤ P.ba ∧ P.ba ≤ 1125899906842624) && okB P.u P.p P.n)))))
structure May (P : Pln) : Prop where
  i : P.i ≠ 0
  dy : 0 ≤ P.dy ∧ P.dy ≤ 1099511627776
  mo : 0 ≤ P.mo ∧ P.mo ≤ 1099511627776
  ov : 0 ≤ P.ov ∧ P.ov ≤ 1099511627776
  ro : 0 ≤ P.ro ∧ P.ro ≤ 1099511627776
  ba : 0 ≤ P.ba ∧ P.ba ≤ 1125899906842624
  t : Ok P.u P.p P.n
theorem may_iff (P : Pln) : may P = true ↔ May P := by
  unfold may unB
  simp only [Bool.and_eq_true, decide_eq_true_eq, okB_iff]
  exact ⟨fun ⟨a, b, c, d, e, f, g⟩ => ⟨a, b, c, d, e, f, g⟩, fun h => ⟨h.i, h.dy, h.mo, h.ov, h.ro, h.ba, h.t⟩⟩
/-- A number as 64 bits. -/
def un (x : Int) : Nat := (x % 18446744073709551616).toNat
/-- 64 bits as a number. -/
def sg (x : Nat) : Int := if x < 9223372036854775808 then (x : Int) else (x : Int) - 18446744073709551616
theorem un_lt (x : Int) : un x < 18446744073709551616 := by unfold un; omega
theorem sg_un {x : Int} (h : -9223372036854775808 ≤ x ∧ x ≤ 9223372036854775807) : sg (un x) = x := by unfold sg un; split <;> omega
theorem un_sg {x : Nat} (h : x < 18446744073709551616) : un (sg x) = x := by unfold sg un; split <;> omega
theorem sg_bd {x : Nat} (h : x < 18446744073709551616) : -9223372036854775808 ≤ sg x ∧ sg x ≤ 9223372036854775807 := by unfold sg; split <;> omega
/-- The numbers of tiers. -/
def tn (u p : Nat → Int) : Nat → List Nat
  | 0 => []
  | k + 1 => tn u p k ++ [un (u k), un (p k)]
theorem tn_len (u p : Nat → Int) (k : Nat) : (tn u p k).length = 2 * k := by
  induction k with
  | zero => rfl
  | succ k ih => show (tn u p k ++ [un (u k), un (p k)]).length = _; rw [List.length_append, ih]; simp; omega
theorem tn_at (u p : Nat → Int) (k : Nat) {j : Nat} (hj : j < k) : (tn u p k)[2 * j]? = some (un (u j)) ∧ (tn u p k)[2 * j + 1]? = some (un (p j)) := by
  induction k with
  | zero => omega
  | succ k ih =>
    show (tn u p k ++ [un (u k), un (p k)])[2 * j]? = _ ∧ (tn u p k ++ [un (u k), un (p k)])[2 * j + 1]? = _
    have hl := tn_len u p k
    rcases Nat.lt_or_eq_of_le (Nat.le_of_lt_succ hj) with h | rfl
    · rw [List.getElem?_append_left (by omega), List.getElem?_append_left (by omega)]; exact ih h
    · rw [List.getElem?_append_right (by omega), List.getElem?_append_right (by omega), hl, Nat.sub_self, show 2 * j + 1 - 2 * j = 1 by omega]; exact ⟨rfl, rfl⟩
theorem tn_congr {u p u' p' : Nat → Int} {k : Nat} (h : ∀ j, j < k → u j = u' j ∧ p j = p' j) : tn u p k = tn u' p' k := by
  induction k with
  | zero => rfl
  | succ k ih => show tn u p k ++ _ = tn u' p' k ++ _; rw [ih fun j hj => h j (by omega), (h k (by omega)).1, (h k (by omega)).2]
theorem tn_lt {u p : Nat → Int} {k : Nat} {x : Nat} (h : x ∈ tn u p k) : x < 18446744073709551616 := by
  induction k with
  | zero => simp [tn] at h
  | succ k ih =>
    rcases List.mem_append.1 (show x ∈ tn u p k ++ [un (u k), un (p k)] from h) with h | h
    · exact ih h
    · simp at h; rcases h with rfl | rfl <;> exact un_lt _
/-- All its numbers. -/
def nums (P : Pln) : List Nat := [un P.i, un P.dy, un P.mo, un P.ov, un P.ro, un P.ba, P.n] ++ tn P.u P.p P.n
def bytes (P : Pln) : List UInt8 := nb (nums P)
theorem nums_len (P : Pln) : (nums P).length = 7 + 2 * P.n := by unfold nums; rw [List.length_append, tn_len]; rfl
theorem bytes_len (P : Pln) : (bytes P).length = 56 + 16 * P.n := by unfold bytes; rw [nb_len, nums_len]; omega
theorem nums_lt {P : Pln} (hn : P.n < 18446744073709551616) : ∀ x ∈ nums P, x < 18446744073709551616 := fun x hx => by
  rcases List.mem_append.1 hx with h | h
  · simp at h; rcases h with rfl | rfl | rfl | rfl | rfl | rfl | rfl <;> first | exact un_lt _ | exact hn
  · exact tn_lt h
theorem nums_tier (P : Pln) {k : Nat} (hk : k < P.n) : (nums P)[7 + 2 * k]? = some (un (P.u k)) ∧ (nums P)[8 + 2 * k]? = some (un (P.p k)) := by
  unfold nums
  rw [List.getElem?_append_right (by simp; try omega), List.getElem?_append_right (by simp; try omega)]
  obtain ⟨a, b⟩ := tn_at P.u P.p P.n hk
  refine ⟨?_, ?_⟩
  · rw [show 7 + 2 * k - [un P.i, un P.dy, un P.mo, un P.ov, un P.ro, un P.ba, P.n].length = 2 * k by simp]; exact a
  · rw [show 8 + 2 * k - [un P.i, un P.dy, un P.mo, un P.ov, un P.ro, un P.ba, P.n].length = 2 * k + 1 by simp; omega]; exact b
/-- The same plan. -/
structure Sm (P Q : Pln) : Prop where
  i : P.i = Q.i
  dy : P.dy = Q.dy
  mo : P.mo = Q.mo
  ov : P.ov = Q.ov
  ro : P.ro = Q.ro
  ba : P.ba = Q.ba
  n : P.n = Q.n
  t : ∀ k, k < P.n → P.u k = Q.u k ∧ P.p k = Q.p k
theorem Sm.symm {P Q : Pln} (h : Sm P Q) : Sm Q P := ⟨h.i.symm, h.dy.symm, h.mo.symm, h.ov.symm, h.ro.symm, h.ba.symm, h.n.symm, fun k hk => ⟨(h.t k (by have := h.n; omega)).1.symm, (h.t k (by have := h.n; omega)).2.symm⟩⟩
theorem Sm.bytes {P Q : Pln} (h : Sm P Q) : Pl.bytes P = Pl.bytes Q := by
  unfold Pl.bytes nums
  rw [h.i, h.dy, h.mo, h.ov, h.ro, h.ba, ← h.n, tn_congr h.t]
theorem Ok.congr {u p u' p' : Nat → Int} {m : Nat} (h : Ok u p m) (e : ∀ j, j < m → u j = u' j ∧ p j = p' j) : Ok u' p' m := by
  have hp : ∀ k, k < m → prv u' k = prv u k := fun k hk => by
    unfold prv; split
    · rfl
    · exact ((e (k - 1) (by omega)).1).symm
  refine ⟨h.m1, h.m4, fun k hk => ?_, ?_, fun k hk => ?_⟩
  · rw [hp k (by omega), ← (e k (by omega)).1]; exact h.rise k hk
  · rw [← (e (m - 1) (by have := h.m1; omega)).1]; exact h.last
  · rw [← (e k hk).2]; exact h.prc k hk
theorem Sm.may {P Q : Pln} (h : Sm P Q) (g : May P) : May Q :=
  ⟨h.i ▸ g.i, h.dy ▸ g.dy, h.mo ▸ g.mo, h.ov ▸ g.ov, h.ro ▸ g.ro, h.ba ▸ g.ba, by rw [← h.n]; exact Ok.congr g.t h.t⟩
/-- The plan that bytes tell, if they tell one. -/
def rd (b : List UInt8) : Pln := ⟨(na b 0 : Int), sg (na b 1), sg (na b 2), sg (na b 3), sg (na b 4), sg (na b 5), (b.length - 56) / 16, fun k => sg (na b (7 + 2 * k)), fun k => sg (na b (8 + 2 * k))⟩
/-- A plan comes back from its bytes. -/
theorem rd_bytes {P : Pln} (h : May P) (hi : 0 ≤ P.i ∧ P.i ≤ 4294967295) : Sm (rd (bytes P)) P := by
  have hn : P.n ≤ 4 := h.t.m4
  have hlt := nums_lt (P := P) (by omega)
  have hl := nums_len P
  have at_ : ∀ (j x : Nat), (nums P)[j]? = some x → na (bytes P) j = x := fun j x hx => by
    obtain ⟨hj, e⟩ := List.getElem?_eq_some_iff.1 hx
    unfold bytes
    rw [na_nb _ hlt hj, e]
  have b1 := h.dy; have b2 := h.mo; have b3 := h.ov; have b4 := h.ro; have b5 := h.ba
  refine ⟨?_, ?_, ?_, ?_, ?_, ?_, ?_, fun k hk => ?_⟩
  · show ((na (bytes P) 0 : Nat) : Int) = P.i
    rw [at_ 0 (un P.i) rfl]; unfold un; omega
  · show sg (na (bytes P) 1) = P.dy
    rw [at_ 1 (un P.dy) rfl]; exact sg_un (by omega)
  · show sg (na (bytes P) 2) = P.mo
    rw [at_ 2 (un P.mo) rfl]; exact sg_un (by omega)
  · show sg (na (bytes P) 3) = P.ov
    rw [at_ 3 (un P.ov) rfl]; exact sg_un (by omega)
  · show sg (na (bytes P) 4) = P.ro
    rw [at_ 4 (un P.ro) rfl]; exact sg_un (by omega)
  · show sg (na (bytes P) 5) = P.ba
    rw [at_ 5 (un P.ba) rfl]; exact sg_un (by omega)
  · show ((bytes P).length - 56) / 16 = P.n
    rw [bytes_len]; omega
  · have hk2 : k < P.n := by
      have e : (rd (bytes P)).n = ((bytes P).length - 56) / 16 := rfl
      rw [e, bytes_len] at hk; omega
    obtain ⟨a, b⟩ := nums_tier P hk2
    constructor
    · show sg (na (bytes P) (7 + 2 * k)) = P.u k
      rw [at_ _ _ a]
      have := Ok.bd h.t hk2
      exact sg_un (by omega)
    · show sg (na (bytes P) (8 + 2 * k)) = P.p k
      rw [at_ _ _ b]
      have := h.t.prc k hk2
      exact sg_un (by omega)
/-- Bytes are a plan's that may be. -/
def OkG (b : List UInt8) : Prop := May (rd b) ∧ na b 0 ≤ 4294967295 ∧ bytes (rd b) = b
theorem okG_of {P : Pln} (h : May P) (hi : 0 ≤ P.i ∧ P.i ≤ 4294967295) {b : List UInt8} (e : bytes P = b) : OkG b ∧ Sm (rd b) P := by
  subst e
  have hs := rd_bytes h hi
  refine ⟨⟨hs.symm.may h, ?_, hs.bytes⟩, hs⟩
  have : ((na (bytes P) 0 : Nat) : Int) = P.i := hs.i
  omega
/-- What OkG says of the bytes' length and of the count. -/
theorem OkG.len {b : List UInt8} (h : OkG b) : b.length = 56 + 16 * (rd b).n ∧ 1 ≤ (rd b).n ∧ (rd b).n ≤ 4 ∧ na b 6 = (rd b).n := by
  have e := congrArg List.length h.2.2
  rw [bytes_len] at e
  have h1 := h.1.t.m1
  have h4 := h.1.t.m4
  refine ⟨e.symm, h1, h4, ?_⟩
  have hx : (nums (rd b))[6]? = some (rd b).n := rfl
  obtain ⟨hj, e2⟩ := List.getElem?_eq_some_iff.1 hx
  have := na_nb (nums (rd b)) (nums_lt (by omega)) hj
  rw [e2] at this
  have hb : nb (nums (rd b)) = b := h.2.2
  rw [hb] at this
  exact this
/-- The other way: bytes of the right length, whose count fits, are those of what they tell. -/
theorem bytes_rd {b : List UInt8} (hl : b.length = 56 + 16 * (rd b).n) (hc : na b 6 = (rd b).n) : bytes (rd b) = b := by
  refine Eq.trans ?_ (nb_na (7 + 2 * (rd b).n) b (by omega))
  unfold bytes
  congr 1
  refine List.ext_getElem? fun j => ?_
  by_cases hj : j < 7 + 2 * (rd b).n
  · rw [List.getElem?_map, List.getElem?_range hj]
    show _ = some (na b j)
    have hsg : ∀ j, un (sg (na b j)) = na b j := fun j => un_sg (na_lt b j)
    have hcase : j = 0 ∨ j = 1 ∨ j = 2 ∨ j = 3 ∨ j = 4 ∨ j = 5 ∨ j = 6 ∨ (∃ k, k < (rd b).n ∧ j = 7 + 2 * k) ∨ ∃ k, k < (rd b).n ∧ j = 8 + 2 * k := by
      by_cases h7 : j < 7
      · omega
      · by_cases hev : (j - 7) % 2 = 0
        · exact .inr (.inr (.inr (.inr (.inr (.inr (.inr (.inl ⟨(j - 7) / 2, by omega, by omega⟩)))))))
        · exact .inr (.inr (.inr (.inr (.inr (.inr (.inr (.inr ⟨(j - 8) / 2, by omega, by omega⟩)))))))
    rcases hcase with rfl | rfl | rfl | rfl | rfl | rfl | rfl | ⟨k, hk, rfl⟩ | ⟨k, hk, rfl⟩
    · show some (un (rd b).i) = _
      have h0 := na_lt b 0
      have e : (rd b).i = (na b 0 : Int) := rfl
      rw [e]; unfold un; congr 1; omega
    · exact congrArg some (hsg 1)
    · exact congrArg some (hsg 2)
    · exact congrArg some (hsg 3)
    · exact congrArg some (hsg 4)
    · exact congrArg some (hsg 5)
    · exact congrArg some hc.symm
    · rw [(nums_tier (rd b) hk).1]; exact congrArg some (hsg _)
    · rw [(nums_tier (rd b) hk).2]; exact congrArg some (hsg _)
  · rw [List.getElem?_eq_none (by rw [nums_len]; omega), List.getElem?_eq_none (by simp; omega)]
end Go.Proofs.Ytnaoodaadeimbaa.Pl
