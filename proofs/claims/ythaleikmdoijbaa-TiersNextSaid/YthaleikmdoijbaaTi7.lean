import Derived.Test.YthaleikmdoijbaaTi6
namespace Go.Proofs.Ythaleikmdoijbaa.Ti
set_option linter.unusedVariables false
set_option linter.unusedSimpArgs false
open Go.RowKit Mem Mo
theorem i64_bd {x : Int} (h : (Lit.int .i64 x).wf = true) : -9223372036854775808 ≤ x ∧ x ≤ 9223372036854775807 := by
  simpa [Lit.wf, IntKind.min, IntKind.max, IntKind.bits, IntKind.signed] using h
/-- The tiers that came in. -/
theorem tiers_of {fs : Array Field} {w : World} {B : Nat} {A : Option Addr} {n c : Nat} {f : Nat → Nat → Value} (hu : Try.prog.underlying 27 = some (.struct fs)) (h : Structs Try.prog w B fs A n c f) : ∃ u p, RdT w B A c u p n ∧ NumT u p n := by
  rw [Try.underlying27] at hu
  injection hu with hu
  injection hu with hu
  subst hu
  have key : ∀ i, i < n → ∃ x y : Int, (∀ b o, A = some ⟨b, o, none⟩ → w.cell? ⟨b, o + i * 2, none⟩ = some (.int .i64 x) ∧ w.cell? ⟨b, o + i * 2 + 1, none⟩ = some (.int .i64 y)) ∧ (-9223372036854775808 ≤ x ∧ x ≤ 9223372036854775807) ∧ (-9223372036854775808 ≤ y ∧ y ≤ 9223372036854775807) := by
    intro i hi
    obtain ⟨b, o, rfl, _, hc⟩ := h.2.2 (by omega)
    obtain ⟨h0, k0⟩ := hc i 0 _ hi rfl
    obtain ⟨h1, k1⟩ := hc i 1 _ hi rfl
    simp only [fieldOk] at k0
    simp only [fieldOk] at k1
    obtain ⟨x, hx, wx⟩ := k0
    obtain ⟨y, hy, wy⟩ := k1
    have bx := i64_bd wx
    have yb := i64_bd wy
    refine ⟨x, y, ?_, ⟨by omega, by omega⟩, by omega, by omega⟩
    intro b' o' e
    simp at e
    obtain ⟨rfl, rfl⟩ := e
    rw [hx] at h0
    rw [hy] at h1
    exact ⟨h0, h1⟩
  refine ⟨fun i => if hi : i < n then (key i hi).choose else 0, fun i => if hi : i < n then (key i hi).choose_spec.choose else 0, ⟨h.1, h.2.1, fun hp => ?_⟩, fun i hi => ?_⟩
  · obtain ⟨b, o, rfl, hb, _⟩ := h.2.2 hp
    refine ⟨b, o, rfl, hb, fun i hi => ?_⟩
    have hs := (key i hi).choose_spec.choose_spec
    simp only [hi, dif_pos]
    exact hs.1 b o rfl
  · have hs := (key i hi).choose_spec.choose_spec
    simp only [hi, dif_pos]
    exact hs.2

theorem att_done {u p : Nat → Int} {n : Int} {k r : Nat} (h : Hit n u k) : att u p n k (r + 1) = p k := by unfold att; rw [if_pos h]
theorem att_on {u p : Nat → Int} {n : Int} {k r : Nat} (h : ¬ Hit n u k) : att u p n k (r + 1) = att u p n (k + 1) r := by rw [att, if_neg h]
theorem att_in {u p : Nat → Int} {n : Int} {lo hi : Int} (h0 : lo ≤ 0 ∧ 0 ≤ hi) : ∀ r k, (∀ j, k ≤ j → j < k + r → lo ≤ p j ∧ p j ≤ hi) → lo ≤ att u p n k r ∧ att u p n k r ≤ hi := by
  intro r
  induction r with
  | zero => intro k _; exact h0
  | succ r ih =>
    intro k h
    by_cases hh : Hit n u k
    · rw [att_done hh]; exact h k (by omega) (by omega)
    · rw [att_on hh]; exact ih (k + 1) fun j a b => h j (by omega) (by omega)
theorem Ok.att_bd {u p : Nat → Int} {m : Nat} (h : Ok u p m) (n : Int) : 0 ≤ att u p n 0 m ∧ att u p n 0 m ≤ 1125899906842624 :=
  att_in (by omega) m 0 fun j _ hj => h.prc j (by omega)
set_option maxHeartbeats 1000000 in
theorem At_any (A : Option Addr) (c m : Nat) (u p : Nat → Int) (n : Int) (w : World) (B : Nat) (hr : RdT w B A c u p m) (hB : B ≤ w.heap.size) :
    Calls Try.prog 14 #[.slice A m c, .int .i64 n] w fun e w' => e = .returned (.int .i64 (att u p n 0 m)) ∧ Below w.heap.size w w' := by
  have HR := Lib.hid hr
  have HB := Lib.hid hB
  have hm : m ≤ maxLen := by have := hr.1; have := hr.2.1; omega
  unfold maxLen at hm
  clear hr hB
  go_enter Try.func14, Try.ntmps14
  go_wp2_with fail
  go_loopw [5] (fun v wr => ∃ k : Nat, k ≤ m ∧ v = .int .i64 k ∧ Hid (att u p n 0 m = att u p n k (m - k)) ∧ wr = w) (fun v _ => m - (intOf v).toNat)
  · exact ⟨0, by omega, rfl, Lib.hid rfl, rfl⟩
  · obtain ⟨k, hk, rfl, HJ, rfl⟩ := hrel
    by_cases hkn : k < m
    · obtain ⟨b, o, rfl, hb, hc⟩ := HR.out.2.2 (by omega)
      obtain ⟨e1, e2⟩ := hc k hkn
      obtain ⟨r, hmr⟩ : ∃ r, m - k = r + 1 := ⟨m - k - 1, by omega⟩
      have hj := HJ.out
      rw [hmr] at hj
      have hr2 : r = m - (k + 1) := by omega
      obtain ⟨x, hx⟩ := named (u k)
      obtain ⟨y, hy⟩ := named (p k)
      rw [hx] at e1
      rw [hy] at e2
      have HJ2 := Lib.hid hj
      have HN := Lib.hid (And.intro hx hy)
      have HMR := Lib.hid hr2
      clear hc hb hx hy hj hr2 hmr HJ
      by_cases h1 : x = 0
      · subst h1
        have hh := Lib.hid (show Hit n u k from .inl HN.out.1)
        go_wp2_with fail
        go_ret
        exact ⟨by rw [HJ2.out, att_done hh.out, HN.out.2]; rfl, Below.refl _ _⟩
      · have z1 : (x == 0) = false := by simp [h1]
        by_cases h2 : n ≤ x
        · have z2 : (n ≤ x) = True := by simp [h2]
          have hh := Lib.hid (show Hit n u k from .inr (by rw [HN.out.1]; exact h2))
          clear h1 h2
          go_wp2_with fail
          go_ret
          exact ⟨by rw [HJ2.out, att_done hh.out, HN.out.2]; rfl, Below.refl _ _⟩
        · have z2 : (n ≤ x) = False := by simp; omega
          have hh := Lib.hid (show ¬ Hit n u k by unfold Hit; rw [HN.out.1]; omega)
          clear h1 h2
          go_wp2_with fail
          go_roundw
          case rel => exact ⟨k + 1, by omega, by go_num, Lib.hid (by rw [HJ2.out, att_on hh.out, HMR.out]), trivial⟩
          case measure => simp [intOf]; omega
    · obtain rfl : k = m := by omega
      have hj := HJ.out
      rw [Nat.sub_self] at hj
      have HJ2 := Lib.hid hj
      clear hj HJ
      go_wp2_with fail
      go_ret
      exact ⟨by rw [HJ2.out]; rfl, Below.refl _ _⟩
end Go.Proofs.Ythaleikmdoijbaa.Ti
