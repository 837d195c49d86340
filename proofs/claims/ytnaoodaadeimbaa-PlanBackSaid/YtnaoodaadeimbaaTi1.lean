import Derived.Test.YtnaoodaadeimbaaTi0
import Derived.Test.YtnaoodaadeimbaaOpen
import Derived.Test.YtnaoodaadeimbaaNm
import Derived.Deep.RegionWith
import Derived.Deep.RegionHeld3
namespace Go.Proofs.Ytnaoodaadeimbaa.Ti
set_option linter.unusedVariables false
set_option linter.unusedSimpArgs false
open Go.RowKit Mem Mo

/-- A row of tiers in memory. -/
def RdT (w : World) (B : Nat) (A : Option Addr) (c : Nat) (u p : Nat → Int) (m : Nat) : Prop :=
  m ≤ c ∧ c ≤ maxLen ∧ (0 < m → ∃ b o, A = some ⟨b, o, none⟩ ∧ b < B ∧ ∀ k, k < m → w.cell? ⟨b, o + k * 2, none⟩ = some (.int .i64 (u k)) ∧ w.cell? ⟨b, o + k * 2 + 1, none⟩ = some (.int .i64 (p k)))
theorem RdT.below {w w' : World} {B c m : Nat} {A : Option Addr} {u p : Nat → Int} (h : RdT w B A c u p m) (hb : Below B w w') : RdT w' B A c u p m :=
  ⟨h.1, h.2.1, fun hp => by
    obtain ⟨b, o, e, hlt, hc⟩ := h.2.2 hp
    exact ⟨b, o, e, hlt, fun k hk => ⟨(hb.cell (p := ⟨b, o + k * 2, none⟩) hlt).trans (hc k hk).1, (hb.cell (p := ⟨b, o + k * 2 + 1, none⟩) hlt).trans (hc k hk).2⟩⟩⟩
theorem RdT.more {w : World} {B B' c m : Nat} {A : Option Addr} {u p : Nat → Int} (h : RdT w B A c u p m) (hb : B ≤ B') : RdT w B' A c u p m :=
  ⟨h.1, h.2.1, fun hp => by obtain ⟨b, o, e, hlt, hc⟩ := h.2.2 hp; exact ⟨b, o, e, by omega, hc⟩⟩
theorem RdT.take {w : World} {B c m : Nat} {A : Option Addr} {u p : Nat → Int} (h : RdT w B A c u p m) {k : Nat} (hk : k ≤ m) : RdT w B A c u p k :=
  ⟨by have := h.1; omega, h.2.1, fun hp => by obtain ⟨b, o, e, hlt, hc⟩ := h.2.2 (by omega); exact ⟨b, o, e, hlt, fun i hi => hc i (by omega)⟩⟩
/-- All numbers lie within 64 bits. -/
def NumT (u p : Nat → Int) (m : Nat) : Prop := ∀ k, k < m → (-9223372036854775808 ≤ u k ∧ u k ≤ 9223372036854775807) ∧ (-9223372036854775808 ≤ p k ∧ p k ≤ 9223372036854775807)

def riseTo (u : Nat → Int) (m k : Nat) : Prop := riseB u m = true ↔ ∀ j, k ≤ j → j < m → prv u j < u j ∧ u j ≤ 1099511627776
theorem rise_end {u : Nat → Int} {m : Nat} (h : ∀ j, j < m → prv u j < u j ∧ u j ≤ 1099511627776) : riseB u m = true := by unfold riseB; simpa using h
theorem rise_not {u : Nat → Int} {m k : Nat} (hk : k < m) (h : u k ≤ prv u k ∨ 1099511627776 < u k) : riseB u m = false := by
  unfold riseB; simp only [decide_eq_false_iff_not]; intro c; have := c k hk; omega
theorem prc_end {p : Nat → Int} {m : Nat} (h : ∀ j, j < m → 0 ≤ p j ∧ p j ≤ 1125899906842624) : prcB p m = true := by unfold prcB; simpa using h
theorem prc_not {p : Nat → Int} {m k : Nat} (hk : k < m) (h : p k < 0 ∨ 1125899906842624 < p k) : prcB p m = false := by
  unfold prcB; simp only [decide_eq_false_iff_not]; intro c; have := c k hk; omega

set_option maxHeartbeats 1000000 in
theorem rise_any (A : Option Addr) (c m : Nat) (u p : Nat → Int) (w : World) (B : Nat) (hr : RdT w B A c u p m) (hB : B ≤ w.heap.size) :
    Calls Try.prog 37 #[.slice A m c] w fun e w' => e = .returned (.bool (riseB u m)) ∧ Below w.heap.size w w' := by
  have HR := Lib.hid hr
  have HB := Lib.hid hB
  have hm : m ≤ maxLen := by have := hr.1; have := hr.2.1; omega
  unfold maxLen at hm
  clear hr hB
  go_enter Try.func37, Try.ntmps37
  go_wp2_with fail
  go_loopw [3, 8] (fun a v wr => ∃ k : Nat, k ≤ m ∧ v = .int .i64 k ∧ a = .int .i64 (prv u k) ∧ Hid (∀ j, j < k → prv u j < u j ∧ u j ≤ 1099511627776) ∧ Hid (Below w.heap.size w wr)) (fun _ v _ => m - (intOf v).toNat)
  · exact ⟨0, by omega, rfl, rfl, Lib.hid (fun j hj => by omega), Lib.hid (Below.refl _ _)⟩
  · obtain ⟨k, hk, rfl, rfl, HJ, HX⟩ := hrel
    by_cases hkn : k < m
    · obtain ⟨b, o, rfl, hb, hc⟩ := HR.out.2.2 (by omega)
      have e1 := (HX.out.cell (p := ⟨b, o + k * 2, none⟩) (by have := HB.out; show b < _; omega)).trans (hc k hkn).1
      have e2 := (HX.out.cell (p := ⟨b, o + k * 2 + 1, none⟩) (by have := HB.out; show b < _; omega)).trans (hc k hkn).2
      obtain ⟨x, hx⟩ := named (u k)
      obtain ⟨a, ha⟩ := named (prv u k)
      rw [hx] at e1
      rw [ha]
      have HN := Lib.hid (And.intro hx ha)
      clear hc hb hx ha
      by_cases h1 : x ≤ a
      · have z1 : (x ≤ a) = True := by simp [h1]
        have HH := Lib.hid h1
        clear h1
        go_wp2_with fail
        go_ret
        refine ⟨?_, HX.out.alloc HX.out.size _⟩
        rw [rise_not hkn (by rw [HN.out.1, HN.out.2]; exact .inl HH.out)]; rfl
      · have z1 : (x ≤ a) = False := by simp; omega
        by_cases h2 : 1099511627776 < x
        · have z2 : (1099511627776 < x) = True := by simp [h2]
          have HH := Lib.hid h2
          clear h1 h2
          go_wp2_with fail
          go_ret
          refine ⟨?_, HX.out.alloc HX.out.size _⟩
          rw [rise_not hkn (by rw [HN.out.1, HN.out.2]; exact .inr HH.out)]; rfl
        · have z2 : (1099511627776 < x) = False := by simp; omega
          have HH := Lib.hid (And.intro h1 h2)
          clear h1 h2
          go_wp2_with fail
          go_roundw
          case rel =>
            refine ⟨k + 1, by omega, by go_num, by rw [prv_succ, HN.out.1], Lib.hid (fun j hj => ?_), Lib.hid (HX.out.alloc HX.out.size _)⟩
            rcases Nat.lt_or_eq_of_le (Nat.le_of_lt_succ hj) with y | rfl
            · exact HJ.out j y
            · rw [HN.out.1, HN.out.2]; have := HH.out; omega
          case measure => simp [intOf]; omega
    · obtain rfl : k = m := by omega
      go_wp2_with fail
      go_ret
      exact ⟨by rw [rise_end HJ.out]; rfl, HX.out⟩

set_option maxHeartbeats 1000000 in
theorem prices_any (A : Option Addr) (c m : Nat) (u p : Nat → Int) (w : World) (B : Nat) (hr : RdT w B A c u p m) (hB : B ≤ w.heap.size) :
    Calls Try.prog 38 #[.slice A m c] w fun e w' => e = .returned (.bool (prcB p m)) ∧ Below w.heap.size w w' := by
  have HR := Lib.hid hr
  have HB := Lib.hid hB
  have hm : m ≤ maxLen := by have := hr.1; have := hr.2.1; omega
  unfold maxLen at hm
  clear hr hB
  go_enter Try.func38, Try.ntmps38
  go_wp2_with fail
  go_loopw [7] (fun v wr => ∃ k : Nat, k ≤ m ∧ v = .int .i64 k ∧ Hid (∀ j, j < k → 0 ≤ p j ∧ p j ≤ 1125899906842624) ∧ Hid (Below w.heap.size w wr)) (fun v _ => m - (intOf v).toNat)
  · exact ⟨0, by omega, rfl, Lib.hid (fun j hj => by omega), Lib.hid (Below.refl _ _)⟩
  · obtain ⟨k, hk, rfl, HJ, HX⟩ := hrel
    by_cases hkn : k < m
    · obtain ⟨b, o, rfl, hb, hc⟩ := HR.out.2.2 (by omega)
      have e1 := (HX.out.cell (p := ⟨b, o + k * 2, none⟩) (by have := HB.out; show b < _; omega)).trans (hc k hkn).1
      have e2 := (HX.out.cell (p := ⟨b, o + k * 2 + 1, none⟩) (by have := HB.out; show b < _; omega)).trans (hc k hkn).2
      obtain ⟨x, hx⟩ := named (p k)
      rw [hx] at e2
      have HN := Lib.hid hx
      clear hc hb hx
      by_cases h1 : x < 0
      · have z1 : (x < 0) = True := by simp [h1]
        have HH := Lib.hid h1
        clear h1
        go_wp2_with fail
        go_ret
        refine ⟨?_, HX.out.alloc HX.out.size _⟩
        rw [prc_not hkn (by rw [HN.out]; exact .inl HH.out)]; rfl
      · have z1 : (x < 0) = False := by simp; omega
        by_cases h2 : 1125899906842624 < x
        · have z2 : (1125899906842624 < x) = True := by simp [h2]
          have HH := Lib.hid h2
          clear h1 h2
          go_wp2_with fail
          go_ret
          refine ⟨?_, HX.out.alloc HX.out.size _⟩
          rw [prc_not hkn (by rw [HN.out]; exact .inr HH.out)]; rfl
        · have z2 : (1125899906842624 < x) = False := by simp; omega
          have HH := Lib.hid (And.intro h1 h2)
          clear h1 h2
          go_wp2_with fail
          go_roundw
          case rel =>
            refine ⟨k + 1, by omega, by go_num, Lib.hid (fun j hj => ?_), Lib.hid (HX.out.alloc HX.out.size _)⟩
            rcases Nat.lt_or_eq_of_le (Nat.le_of_lt_succ hj) with y | rfl
            · exact HJ.out j y
            · rw [HN.out]; have := HH.out; omega
          case measure => simp [intOf]; omega
    · obtain rfl : k = m := by omega
      go_wp2_with fail
      go_ret
      exact ⟨by rw [prc_end HJ.out]; rfl, HX.out⟩

set_option maxHeartbeats 1000000 in
theorem Check_any (A : Option Addr) (c m : Nat) (u p : Nat → Int) (w : World) (B : Nat) (hr : RdT w B A c u p m) (hB : B ≤ w.heap.size) :
    Calls Try.prog 26 #[.slice A m c] w fun e w' => e = .returned (.bool (okB u p m)) ∧ Below w.heap.size w w' := by
  by_cases h0 : m < 1
  · have e : okB u p m = false := by unfold okB; rw [show decide (1 ≤ m ∧ m ≤ 4) = false by simp; omega]; rfl
    have z1 : ((m : Int) < 1) = True := by simp; omega
    rw [e]
    clear e hr hB h0
    go_enter Try.func26, Try.ntmps26
    go_wp2_with fail
    go_ret
    exact ⟨rfl, Below.refl _ _⟩
  have z1 : ((m : Int) < 1) = False := by simp; omega
  by_cases h4 : 4 < m
  · have e : okB u p m = false := by unfold okB; rw [show decide (1 ≤ m ∧ m ≤ 4) = false by simp; omega]; rfl
    have z2 : (4 < (m : Int)) = True := by simp; omega
    rw [e]
    clear e hr hB h0 h4
    go_enter Try.func26, Try.ntmps26
    go_wp2_with fail
    go_ret
    exact ⟨rfl, Below.refl _ _⟩
  have z2 : (4 < (m : Int)) = False := by simp; omega
  obtain ⟨k, rfl⟩ : ∃ k, m = k + 1 := ⟨m - 1, by omega⟩
  have e : okB u p (k + 1) = (if riseB u k = true then if u k = 0 then prcB p (k + 1) else false else false) := by
    unfold okB; rw [show decide (1 ≤ k + 1 ∧ k + 1 ≤ 4) = true by simp; omega, Nat.add_sub_cancel]
    cases riseB u k <;> by_cases h : u k = 0 <;> simp [h]
  obtain ⟨b, o, rfl, hb, hc⟩ := hr.2.2 (by omega)
  have e1 := (hc k (by omega)).1
  obtain ⟨x, hx⟩ := named (u k)
  rw [hx] at e1 e
  have C1 := Lib.hid (fun W (h : Below w.heap.size w W) => rise_any (some ⟨b, o, none⟩) c k u p W B ((hr.take (k := k) (by omega)).below (h.mono hB)) (Nat.le_trans hB h.size))
  have C2 := Lib.hid (fun W (h : Below w.heap.size w W) => prices_any (some ⟨b, o, none⟩) c (k + 1) u p W B (hr.below (h.mono hB)) (Nat.le_trans hB h.size))
  have hck : k + 1 ≤ c := hr.1
  have hcm : c ≤ maxLen := hr.2.1
  unfold maxLen at hcm
  have hbl : b < w.heap.size := by omega
  rw [e]
  generalize riseB u k = r1 at *
  generalize prcB p (k + 1) = r2 at *
  clear hr hB hx hc h0 h4 e hb
  have z1' : ((k : Int) + 1 < 1) = False := by simp; omega
  have z2' : (4 < (k : Int) + 1) = False := by simp at z2 ⊢; omega
  clear z1 z2
  have i0 : IntKind.i64.wrap ((k : Int) + 1 - 1) = k := by rw [IntKind.wrap_i64]; omega
  cases r1 with
  | false =>
    go_enter Try.func26, Try.ntmps26
    go_wp2_with fail
    refine (C1.out _ (Below.refl _ _)).mono ?_
    rintro e w1 ⟨rfl, hb⟩
    have B1 := Lib.hid hb; clear hb
    go_wp2_with fail
    go_ret
    exact ⟨rfl, B1.out⟩
  | true =>
    by_cases hx : x = 0
    · subst hx
      go_enter Try.func26, Try.ntmps26
      go_wp2_with fail
      refine (C1.out _ (Below.refl _ _)).mono ?_
      rintro e w1 ⟨rfl, hb⟩
      have B1 := Lib.hid hb; clear hb
      have e2 := (B1.out.cell (p := ⟨b, o + k * 2, none⟩) hbl).trans e1
      go_wp2_with fail
      refine (C2.out _ B1.out).mono ?_
      rintro e w2 ⟨rfl, hb⟩
      have B2 := Lib.hid (B1.out.trans (hb.mono B1.out.size)); clear hb
      go_wp2_with fail
      go_ret
      exact ⟨rfl, B2.out⟩
    · have z3 : (x == 0) = false := by simp [hx]
      simp only [hx, if_false, if_true]
      have HXX := Lib.hid hx
      clear hx
      go_enter Try.func26, Try.ntmps26
      go_wp2_with fail
      refine (C1.out _ (Below.refl _ _)).mono ?_
      rintro e w1 ⟨rfl, hb⟩
      have B1 := Lib.hid hb; clear hb
      have e2 := (B1.out.cell (p := ⟨b, o + k * 2, none⟩) hbl).trans e1
      go_wp2_with fail
      go_ret
      exact ⟨rfl, B1.out⟩
end Go.Proofs.Ytnaoodaadeimbaa.Ti
