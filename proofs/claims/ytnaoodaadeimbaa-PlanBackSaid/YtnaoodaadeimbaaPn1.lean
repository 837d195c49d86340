import Derived.Test.YtnaoodaadeimbaaPl1
import Derived.Test.YtnaoodaadeimbaaTA1
import Derived.Test.YtnaoodaadeimbaaOpen7
import Derived.Test.YtnaoodaadeimbaaInts
namespace Go.Proofs.Ytnaoodaadeimbaa.Pl
set_option linter.unusedVariables false
set_option linter.unusedSimpArgs false
open Go.RowKit Mem Ti Mo
/-- A plan as a value. -/
def plv (P : Pln) (A : Option Addr) (c : Nat) : Value := .agg #[.int .u32 P.i, .int .i64 P.dy, .int .i64 P.mo, .int .i64 P.ov, .int .i64 P.ro, .int .i64 P.ba, .slice A P.n c]
/-- All are from 0 to most. -/
def inB (most : Int) (l : List Int) : Bool := decide (∀ i (h : i < l.length), 0 ≤ l[i] ∧ l[i] ≤ most)
theorem inB_not {most : Int} {l : List Int} {k : Nat} (hk : k < l.length) (h : l[k] < 0 ∨ most < l[k]) : inB most l = false := by
  unfold inB; simp only [decide_eq_false_iff_not]; intro c; have := c k hk; omega
theorem inB_yes {most : Int} {l : List Int} (h : ∀ i (h : i < l.length), 0 ≤ l[i] ∧ l[i] ≤ most) : inB most l = true := by unfold inB; simpa using h
theorem inB_one (most x : Int) : inB most [x] = decide (0 ≤ x ∧ x ≤ most) := by
  unfold inB
  refine decide_eq_decide.2 ⟨fun h => h 0 (by simp), fun h i hi => ?_⟩
  obtain rfl : i = 0 := by simp at hi; omega
  exact h
theorem inB_four (a b c d : Int) : inB 1099511627776 [a, b, c, d] = (unB a && (unB b && (unB c && unB d))) := by
  unfold inB unB
  rw [← Bool.decide_and, ← Bool.decide_and, ← Bool.decide_and]
  refine decide_eq_decide.2 ⟨fun h => ⟨h 0 (by simp), h 1 (by simp), h 2 (by simp), h 3 (by simp)⟩, fun ⟨h0, h1, h2, h3⟩ i hi => ?_⟩
  have : i = 0 ∨ i = 1 ∨ i = 2 ∨ i = 3 := by simp at hi; omega
  rcases this with rfl | rfl | rfl | rfl <;> assumption
set_option maxHeartbeats 1000000 in
theorem within_any (most : Int) (A : Option Addr) (c : Nat) (l : List Int) (n : Nat) (hn : l.length = n) (w : World) (B : Nat) (hr : RdI w B A c l) :
    Calls Try.prog 25 #[.int .i64 most, .slice A n c] w fun e w' => e = .returned (.bool (inB most l)) ∧ w = w' := by
  subst hn
  have HR := Lib.hid hr
  have hm : l.length ≤ maxLen := by have := hr.1; have := hr.2.1; omega
  unfold maxLen at hm
  clear hr
  go_enter Try.func25, Try.ntmps25
  go_wp2_with fail
  go_loopw [9] (fun v wr => ∃ k : Nat, k ≤ l.length ∧ v = .int .i64 k ∧ Hid (∀ j (h : j < l.length), j < k → 0 ≤ l[j] ∧ l[j] ≤ most) ∧ wr = w) (fun v _ => l.length - (intOf v).toNat)
  · exact ⟨0, by omega, rfl, Lib.hid (fun j _ hj => by omega), rfl⟩
  · obtain ⟨k, hk, rfl, HJ, rfl⟩ := hrel
    by_cases hkn : k < l.length
    · obtain ⟨b, o, rfl, hb, hc⟩ := HR.out.2.2.2 (by omega)
      have e1 := hc k hkn
      obtain ⟨x, hx⟩ := named l[k]
      rw [hx] at e1
      have HN := Lib.hid hx
      clear hc hb hx
      by_cases h1 : x < 0
      · have z1 : (x < 0) = True := by simp [h1]
        have HH := Lib.hid h1
        clear h1
        go_wp2_with fail
        go_ret
        rw [inB_not hkn (by rw [HN.out]; exact .inl HH.out)]; exact ⟨rfl, rfl⟩
      · have z1 : (x < 0) = False := by simp; omega
        by_cases h2 : most < x
        · have z2 : (most < x) = True := by simp [h2]
          have HH := Lib.hid h2
          clear h1 h2
          go_wp2_with fail
          go_ret
          rw [inB_not hkn (by rw [HN.out]; exact .inr HH.out)]; exact ⟨rfl, rfl⟩
        · have z2 : (most < x) = False := by simp; omega
          have HH := Lib.hid (And.intro h1 h2)
          clear h1 h2
          go_wp2_with fail
          go_roundw
          case rel =>
            refine ⟨k + 1, by omega, by go_num, Lib.hid (fun j hl hj => ?_), trivial⟩
            rcases Nat.lt_or_eq_of_le (Nat.le_of_lt_succ hj) with y | rfl
            · exact HJ.out j hl y
            · rw [HN.out]; have := HH.out; omega
          case measure => simp [intOf]; omega
    · obtain rfl : k = l.length := by omega
      go_wp2_with fail
      go_ret
      rw [inB_yes fun i hi => HJ.out i hi hi]; exact ⟨rfl, rfl⟩
theorem may_chain (P : Pln) (h : 0 ≤ P.i) : may P = (decide (0 < P.i) && (inB 1099511627776 [P.dy, P.mo, P.ov, P.ro] && (inB 1125899906842624 [P.ba] && okB P.u P.p P.n))) := by
  rw [inB_four, inB_one]
  unfold may
  rw [show decide (P.i ≠ 0) = decide (0 < P.i) from decide_eq_decide.2 (by omega)]
  simp only [Bool.and_assoc]
set_option maxRecDepth 100000 in
set_option maxHeartbeats 2000000 in
theorem Check_any (P : Pln) (A : Option Addr) (c : Nat) (w : World) (B : Nat) (hr : RdT w B A c P.u P.p P.n) (hB : B ≤ w.heap.size) (hi : 0 ≤ P.i) :
    Calls Try.prog 11 #[plv P A c] w fun e w' => e = .returned (.bool (may P)) ∧ Below w.heap.size w w' := by
  rw [may_chain P hi]
  unfold plv
  obtain ⟨i, dy, mo, ov, ro, ba, n, u, p⟩ := P
  simp only at hr hi ⊢
  have C1 := Lib.hid (fun (W : World) (N : Nat) (e : W.heap.size = N) => (show Calls Try.prog 25 #[.int .i64 1099511627776, .slice (some ⟨N, 0, none⟩) 4 4] (W.alloc (.cells #[.int .i64 dy, .int .i64 mo, .int .i64 ov, .int .i64 ro] 2)) _ from by subst e; exact within_any 1099511627776 (some ⟨W.heap.size, 0, none⟩) 4 [dy, mo, ov, ro] 4 rfl _ (W.heap.size + 1) (RdI.lit W [dy, mo, ov, ro] 2 (by unfold maxLen; simp))))
  have C2 := Lib.hid (fun (W : World) (N : Nat) (e : W.heap.size = N) => (show Calls Try.prog 25 #[.int .i64 1125899906842624, .slice (some ⟨N, 0, none⟩) 1 1] (W.alloc (.cells #[.int .i64 ba] 2)) _ from by subst e; exact within_any 1125899906842624 (some ⟨W.heap.size, 0, none⟩) 1 [ba] 1 rfl _ (W.heap.size + 1) (RdI.lit W [ba] 2 (by unfold maxLen; simp))))
  have C3 := Lib.hid (fun W (h : Below w.heap.size w W) => Ti.Check_any A c n u p W B (hr.below (h.mono hB)) (Nat.le_trans hB h.size))
  generalize inB 1099511627776 [dy, mo, ov, ro] = r1 at *
  generalize inB 1125899906842624 [ba] = r2 at *
  generalize okB u p n = r3 at *
  clear hr hB
  have B0 := Lib.hid (Below.refl w.heap.size w)
  by_cases h0 : 0 < i
  · have z1 : (0 < i) = True := by simp [h0]
    rw [show decide (0 < i) = true by simp [h0]]
    clear h0 hi
    cases r1 with
    | false =>
      go_enter Try.func11, Try.ntmps11
      go_wp2_with fail
      refine (C1.out _ _ (by simp)).mono ?_
      rintro e w1 ⟨rfl, rfl⟩
      go_wp2_with fail
      go_ret
      exact ⟨rfl, (B0.out.alloc (Nat.le_refl _) _).alloc (by simp) _⟩
    | true =>
      cases r2 with
      | false =>
        go_enter Try.func11, Try.ntmps11
        go_wp2_with fail
        refine (C1.out _ _ (by simp)).mono ?_
        rintro e w1 ⟨rfl, rfl⟩
        go_wp2_with fail
        refine (C2.out _ _ (by simp)).mono ?_
        rintro e w1 ⟨rfl, rfl⟩
        go_wp2_with fail
        go_ret
        exact ⟨rfl, ((B0.out.alloc (Nat.le_refl _) _).alloc (by simp) _).alloc (by simp; omega) _⟩
      | true =>
        go_enter Try.func11, Try.ntmps11
        go_wp2_with fail
        refine (C1.out _ _ (by simp)).mono ?_
        rintro e w1 ⟨rfl, rfl⟩
        go_wp2_with fail
        refine (C2.out _ _ (by simp)).mono ?_
        rintro e w1 ⟨rfl, rfl⟩
        go_wp2_with fail
        have B3 := Lib.hid (((B0.out.alloc (Nat.le_refl _) (.cells #[.int .u32 i, .int .i64 dy, .int .i64 mo, .int .i64 ov, .int .i64 ro, .int .i64 ba, .slice A n c] 25)).alloc (by simp) (.cells #[.int .i64 dy, .int .i64 mo, .int .i64 ov, .int .i64 ro] 2)).alloc (by simp; omega) (.cells #[.int .i64 ba] 2))
        refine (C3.out _ B3.out).mono ?_
        rintro e w1 ⟨rfl, hb⟩
        have B4 := Lib.hid (B3.out.trans (hb.mono B3.out.size))
        clear hb
        go_wp2_with fail
        go_ret
        exact ⟨by cases r3 <;> rfl, B4.out⟩
  · have z1 : (0 < i) = False := by simp [h0]
    rw [show decide (0 < i) = false by simp [h0]]
    clear h0 hi
    go_enter Try.func11, Try.ntmps11
    go_wp2_with fail
    go_ret
    exact ⟨rfl, B0.out.alloc (Nat.le_refl _) _⟩
end Go.Proofs.Ytnaoodaadeimbaa.Pl
