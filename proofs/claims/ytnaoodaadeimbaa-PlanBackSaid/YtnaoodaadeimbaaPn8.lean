import Derived.Test.YtnaoodaadeimbaaPn3
import Derived.Test.YtnaoodaadeimbaaRef
import Derived.BigQuiet
namespace Go.Proofs.Ytnaoodaadeimbaa.Pl
set_option linter.unusedVariables false
set_option linter.unusedSimpArgs false
open Go.RowKit Mem Ti Mo
set_option maxHeartbeats 1000000 in
theorem units_any (x : Int) (w : World) : Calls Try.prog 23 #[.int .i64 x] w fun e w' => e = .returned (.bool (unB x)) ∧ w = w' := by
  by_cases a : 0 ≤ x
  · have z1 : (0 ≤ x) = True := by simp [a]
    by_cases b : x ≤ 1099511627776
    · have z2 : (x ≤ 1099511627776) = True := by simp [b]
      rw [show unB x = true by unfold unB; simp [a, b]]
      clear a b
      go_enter Try.func23, Try.ntmps23
      go_wp2_with fail
      go_ret
      exact ⟨rfl, rfl⟩
    · have z2 : (x ≤ 1099511627776) = False := by simp; omega
      rw [show unB x = false by unfold unB; simp; omega]
      clear a b
      go_enter Try.func23, Try.ntmps23
      go_wp2_with fail
      go_ret
      exact ⟨rfl, rfl⟩
  · have z1 : (0 ≤ x) = False := by simp; omega
    rw [show unB x = false by unfold unB; simp; omega]
    clear a
    go_enter Try.func23, Try.ntmps23
    go_wp2_with fail
    go_ret
    exact ⟨rfl, rfl⟩
set_option maxRecDepth 100000 in
set_option maxHeartbeats 4000000 in
theorem RPCheck_any (P : Pln) (A : Option Addr) (c : Nat) (w : World) (B : Nat) (hr : RdT w B A c P.u P.p P.n) (hB : B ≤ w.heap.size) :
    Calls Try.prog 10 #[plv P A c] w fun e w' => e = .returned (.bool (may P)) ∧ Below w.heap.size w w' := by
  have hmay : may P = (decide (P.i ≠ 0) && (unB P.dy && (unB P.mo && (unB P.ov && (unB P.ro && (decide (0 ≤ P.ba ∧ P.ba ≤ 1125899906842624) && okB P.u P.p P.n)))))) := rfl
  rw [hmay]
  unfold plv
  obtain ⟨i, dy, mo, ov, ro, ba, n, u, p⟩ := P
  simp only at hr ⊢
  have C3 := Lib.hid (fun W (h : Below w.heap.size w W) => RCheck_any A c n u p W B (hr.below (h.mono hB)) (Nat.le_trans hB h.size))
  generalize okB u p n = r3 at *
  clear hr hB hmay
  have HW := Lib.hid ((Below.refl w.heap.size w).alloc (Nat.le_refl _) (.cells #[.int .u32 i, .int .i64 dy, .int .i64 mo, .int .i64 ov, .int .i64 ro, .int .i64 ba, .slice A n c] 25))
  by_cases h0 : i = 0
  · have z0 : (i != 0) = false := by simp [h0]
    rw [show decide (i ≠ 0) = false by simp [h0]]
    clear h0
    go_enter Try.func10, Try.ntmps10
    go_wp2_with (go_at_call 23; refine (units_any _ _).mono ?_; rintro e w' ⟨rfl, rfl⟩)
    go_ret
    exact ⟨rfl, HW.out⟩
  have z0 : (i != 0) = true := by simp [h0]
  rw [show decide (i ≠ 0) = true by simp [h0]]
  clear h0
  cases h_dy : unB dy with
  | false =>
    go_enter Try.func10, Try.ntmps10
    go_wp2_with (go_at_call 23; refine (units_any _ _).mono ?_; rintro e w' ⟨rfl, rfl⟩)
    go_ret
    exact ⟨rfl, HW.out⟩
  | true =>
    cases h_mo : unB mo with
    | false =>
      go_enter Try.func10, Try.ntmps10
      go_wp2_with (go_at_call 23; refine (units_any _ _).mono ?_; rintro e w' ⟨rfl, rfl⟩)
      go_ret
      exact ⟨rfl, HW.out⟩
    | true =>
      cases h_ov : unB ov with
      | false =>
        go_enter Try.func10, Try.ntmps10
        go_wp2_with (go_at_call 23; refine (units_any _ _).mono ?_; rintro e w' ⟨rfl, rfl⟩)
        go_ret
        exact ⟨rfl, HW.out⟩
      | true =>
        cases h_ro : unB ro with
        | false =>
          go_enter Try.func10, Try.ntmps10
          go_wp2_with (go_at_call 23; refine (units_any _ _).mono ?_; rintro e w' ⟨rfl, rfl⟩)
          go_ret
          exact ⟨rfl, HW.out⟩
        | true =>
          by_cases ha : 0 ≤ ba
          · have za : (0 ≤ ba) = True := by simp [ha]
            by_cases hb : ba ≤ 1125899906842624
            · have zb : (ba ≤ 1125899906842624) = True := by simp [hb]
              rw [show decide (0 ≤ ba ∧ ba ≤ 1125899906842624) = true by simp [ha, hb]]
              clear ha hb
              go_enter Try.func10, Try.ntmps10
              go_wp2_with (go_at_call 23; refine (units_any _ _).mono ?_; rintro e w' ⟨rfl, rfl⟩)
              refine (C3.out _ HW.out).mono ?_
              rintro e w1 ⟨rfl, hb⟩
              have B1 := Lib.hid (HW.out.trans (hb.mono HW.out.size))
              clear hb
              go_wp2_with fail
              go_ret
              exact ⟨by cases r3 <;> rfl, B1.out⟩
            · have zb : (ba ≤ 1125899906842624) = False := by simp; omega
              rw [show decide (0 ≤ ba ∧ ba ≤ 1125899906842624) = false by simp; omega]
              clear ha hb
              go_enter Try.func10, Try.ntmps10
              go_wp2_with (go_at_call 23; refine (units_any _ _).mono ?_; rintro e w' ⟨rfl, rfl⟩)
              go_ret
              exact ⟨rfl, HW.out⟩
          · have za : (0 ≤ ba) = False := by simp; omega
            rw [show decide (0 ≤ ba ∧ ba ≤ 1125899906842624) = false by simp; omega]
            clear ha
            go_enter Try.func10, Try.ntmps10
            go_wp2_with (go_at_call 23; refine (units_any _ _).mono ?_; rintro e w' ⟨rfl, rfl⟩)
            go_ret
            exact ⟨rfl, HW.out⟩
set_option maxHeartbeats 400000 in
theorem Value_any (A : Option Addr) (c n : Nat) (l : List UInt8) (w : World) (hln : l.length = n) (hl : Rd w w.heap.size A c l) (hn : l.length ≤ 8) :
    Calls Try.prog 32 #[.slice A n c] w fun e w' => e = .returned (.int .u64 (val l : Int)) ∧ w = w' := by
  subst hln
  by_cases h0 : 0 < l.length
  · obtain ⟨b, o, rfl, _, hc⟩ := hl.2.2.2 h0
    go_enter Try.func32, Try.ntmps32
    go_wp2
    go_loop [4, 3] (fun i v => ∃ k : Nat, k ≤ l.length ∧ i = .int .i64 k ∧ v = .int .u64 (val (l.take k) : Int)) (fun i _ => l.length - (intOf i).toNat)
    case atStart => exact ⟨0, Nat.zero_le _, rfl, by simp [val]⟩
    case round =>
      obtain ⟨k, hk, rfl, rfl⟩ := hrel
      by_cases hlt : k < l.length
      · have hcell := hc k hlt
        have hs := Lib.hid (val_step l k hlt hn)
        go_wp2
        go_round
        case rel => exact ⟨k + 1, by omega, by go_num, by rw [hs.out]⟩
        case measure => simp [intOf]; omega
      · obtain rfl : k = l.length := by omega
        go_wp2
        go_ret
        exact ⟨by simp, rfl⟩
  · have e : l = [] := List.eq_nil_of_length_eq_zero (by omega)
    subst e
    go_enter Try.func32, Try.ntmps32
    go_wp2
    refine wp_loop_rounds 1 ?_
    rw [rounds_succ]
    go_wp2
    go_ret
    exact ⟨by simp [val], rfl⟩
end Go.Proofs.Ytnaoodaadeimbaa.Pl
