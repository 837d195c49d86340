import Derived.Test.YtbiofjddclbncaaSs5
namespace Go.Proofs.Ytbiofjddclbncaa.Sr
set_option linter.unusedVariables false
set_option linter.unusedSimpArgs false
open Go.RowKit Mem Mo
theorem ext_gv {l k : List Int} (hlen : l.length = k.length) (h : ∀ j, j < l.length → gv l j = gv k j) : l = k := by
  refine List.ext_getElem hlen fun i h1 h2 => ?_
  have := h i h1
  rwa [gv_at h1, gv_at h2] at this
theorem rd_cell {w : World} {B : Nat} {A : Option Addr} {c : Nat} {l : List Int} (h : RdI w B A c l) {j : Nat} (hj : j < l.length) : ∃ b o, A = some ⟨b, o, none⟩ ∧ w.cell? ⟨b, o + j, none⟩ = some (.int .i64 (gv l j)) := by
  obtain ⟨b, o, e, hb, hc⟩ := h.2.2.2 (by omega)
  exact ⟨b, o, e, by rw [gv_at hj]; exact hc j hj⟩
theorem rd_drew {w : World} {B : Nat} {A : Option Addr} {c : Nat} {l : List Int} (h : RdI w B A c l) (n : Nat) : RdI (w.drewN n) B A c l := h.keep fun _ _ => rfl
set_option maxHeartbeats 1000000 in
theorem numbers_any (A1 : Option Addr) (c1 : Nat) (l1 : List Int) (A2 : Option Addr) (c2 : Nat) (l2 : List Int) (w : World) (B : Nat) (h1 : RdI w B A1 c1 l1) (h2 : RdI w B A2 c2 l2) :
    Calls Try.prog 10 #[.slice A1 l1.length c1, .slice A2 l2.length c2] w fun e w' => e = .returned (.bool (decide (l1 = l2))) ∧ ∃ m, w' = w.drewN m := by
  have H1 := Lib.hid h1
  have H2 := Lib.hid h2
  have hm : l1.length ≤ maxLen := by have := h1.1; have := h1.2.1; omega
  unfold maxLen at hm
  clear h1 h2
  by_cases hlen : l1.length = l2.length
  · obtain ⟨n, hn1⟩ := named l1.length
    have hn2 : l2.length = n := by rw [← hlen]; exact hn1
    rw [hn1] at hm
    rw [hn1, hn2]
    have HN := Lib.hid (And.intro hn1 hn2)
    clear hlen hn1 hn2
    go_enter Try.func10, Try.ntmps10
    go_wp2_with fail
    go_loopw [5] (fun v wr => ∃ k m : Nat, k ≤ n ∧ v = .int .i64 k ∧ Hid (∀ j, j < k → gv l1 j = gv l2 j) ∧ wr = w.drewN m) (fun v _ => n - (intOf v).toNat)
    · exact ⟨0, 0, Nat.zero_le _, rfl, Lib.hid (fun j hj => by omega), rfl⟩
    · obtain ⟨k, m, hk, rfl, HJ, rfl⟩ := hrel
      by_cases hkn : k < n
      · have z1 := lt_t hkn
        obtain ⟨b1, o1, rfl, e1⟩ := rd_cell H1.out (j := k) (by have := HN.out.1; omega)
        obtain ⟨b2, o2, rfl, e2⟩ := rd_cell H2.out (j := k) (by have := HN.out.2; omega)
        by_cases heq : gv l1 k = gv l2 k
        · have HJ2 := Lib.hid (show ∀ j, j < k + 1 → gv l1 j = gv l2 j from fun j hj => by
            rcases Nat.lt_or_eq_of_le (Nat.le_of_lt_succ hj) with y | rfl
            · exact HJ.out j y
            · exact heq)
          rw [← heq] at e2
          generalize gv l1 k = x at *
          go_wp2_with fail
          go_quiet (fail)
          rename_i nq
          go_wp2_with fail
          go_roundw
          case rel => exact ⟨k + 1, m + nq, by omega, by go_num, HJ2, by simp⟩
          case measure => simp [intOf]; omega
        · have HQ := Lib.hid (show decide (l1 = l2) = false from decide_eq_false fun e => heq (by rw [e]))
          obtain ⟨x, hx⟩ := named (gv l1 k)
          obtain ⟨y, hy⟩ := named (gv l2 k)
          rw [hx] at e1 heq
          rw [hy] at e2 heq
          have z2 : (x == y) = false := beq_false_of_ne heq
          clear heq hx hy
          go_wp2_with fail
          go_quiet (fail)
          rename_i nq
          go_wp2_with fail
          go_ret
          exact ⟨by rw [HQ.out]; rfl, m + nq, by simp⟩
      · obtain rfl : k = n := by omega
        have z1 := lt_f (Nat.le_refl k)
        have HQ := Lib.hid (show decide (l1 = l2) = true from decide_eq_true (ext_gv (by have := HN.out; omega) (fun j hj => HJ.out j (by have := HN.out; omega))))
        go_wp2_with fail
        go_ret
        exact ⟨by rw [HQ.out]; rfl, m, rfl⟩
  · have z1 := ne_i hlen
    rw [show decide (l1 = l2) = false from decide_eq_false fun e => hlen (by rw [e])]
    clear hlen
    go_enter Try.func10, Try.ntmps10
    go_wp2_with fail
    go_ret
    exact ⟨rfl, 0, rfl⟩
end Go.Proofs.Ytbiofjddclbncaa.Sr
