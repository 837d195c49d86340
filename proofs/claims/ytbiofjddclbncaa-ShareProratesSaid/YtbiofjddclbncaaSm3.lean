import Derived.Test.YtbiofjddclbncaaSm2
namespace Go.Proofs.Ytbiofjddclbncaa.Sr
set_option linter.unusedVariables false
set_option linter.unusedSimpArgs false
open Go.RowKit Mem Mo
/-- What the comparison reads lies apart from the row that is sorted. -/
structure Cs (W : World) (g n bx rb ro c2 : Nat) (r : Nat → Int) : Prop where
  cm : Cm W bx rb ro n c2 r
  b1 : bx < W.heap.size ∧ bx ≠ g
  b2 : rb < W.heap.size ∧ rb ≠ g
theorem Cs.ex {W W' : World} {g n bx rb ro c2 : Nat} {r : Nat → Int} (h : Cs W g n bx rb ro c2 r) (e : Ex g W W') : Cs W' g n bx rb ro c2 r :=
  ⟨h.cm.ex e h.b1 h.b2, ⟨Nat.lt_of_lt_of_le h.b1.1 e.size, h.b1.2⟩, ⟨Nat.lt_of_lt_of_le h.b2.1 e.size, h.b2.2⟩⟩
theorem Cs.less {W W' : World} {g n bx rb ro c2 : Nat} {r : Nat → Int} (h : Cs W g n bx rb ro c2 r) (e : Ex g W W') {x y : Nat} (hx : x < n) (hy : y < n) (m : Nat) :
    Calls Try.prog 32 #[.int .i64 x, .int .i64 y, .pointer (some ⟨bx, 0, none⟩)] (W'.drewN m) fun e w' => e = .returned (.int .i64 (cv (r y) (r x))) ∧ ∃ k, w' = (W'.drewN m).drewN k :=
  less_any (h.ex (e.drewN m)).cm hx hy
/-- So far all that came from a up to i stand in order. -/
structure Ins (r : Nat → Int) (S T : Nat → Nat) (a i b : Nat) : Prop where
  p : Pm a (min i b) S T
  o : So r T a i
theorem Ins.at {r : Nat → Int} {S T : Nat → Nat} {a i b : Nat} (h : Ins r S T a i b) {k : Nat} (h1 : i ≤ k) : T k = S k := h.p.out k (.inr (by omega))
theorem Ins.lt {r : Nat → Int} {S T : Nat → Nat} {a i b : Nat} (h : Ins r S T a i b) (asc : ∀ i j, a ≤ i → i < j → j < b → S i < S j) (hi : i < b) {k : Nat} (h1 : a ≤ k) (h2 : k < i) : T k < T i := by
  obtain ⟨j, j1, j2, e⟩ := h.p.of k h1 (by omega)
  rw [e, h.at (Nat.le_refl i)]
  exact asc j i j1 (by omega) hi
theorem Ins.next {r : Nat → Int} {S T : Nat → Nat} {a i b j : Nat} (h : Ins r S T a i b) (asc : ∀ i j, a ≤ i → i < j → j < b → S i < S j) (hi : i < b) (ha : a ≤ j) (hj : j ≤ i) (hr : ∀ k, j ≤ k → k < i → bef r (T i) (T k)) (hl : j = a ∨ ∃ x, x + 1 = j ∧ ¬ r (T x) < r (T i)) : Ins r S (dwn T i j) a (i + 1) b := by
  refine ⟨?_, dwn_so h.o ha hj (fun k k1 k2 => ?_) hr⟩
  · have e1 : min i b = i := by omega
    have e2 : min (i + 1) b = i + 1 := by omega
    have hp := h.p
    rw [e1] at hp
    rw [e2]
    exact (hp.wide (Nat.le_refl _) (by omega)).trans ((dwn_pm T hj).wide ha (Nat.le_refl _))
  · rcases hl with hl | ⟨x, rfl, hx⟩
    · omega
    · have q := bef_not (h.lt asc hi (k := x) (by omega) (by omega)) hx
      by_cases e : k = x
      · rw [e]; exact q
      · exact bef_trans (h.o k x k1 (by omega) (by omega)) q
theorem dwn_at1 (T : Nat → Nat) (i j : Nat) : dwn T i j j = T i := by unfold dwn; rw [if_pos rfl]
theorem dwn_at2 (T : Nat → Nat) {i j x : Nat} (h : x < j) : dwn T i j x = T x := by unfold dwn; rw [if_neg (by omega), if_neg (by omega)]

set_option maxHeartbeats 2000000 in
theorem insertion_any (g n c a b bx rb ro c2 : Nat) (r : Nat → Int) (S : Nat → Nat) (W : World) (hR : RowAt W g n S) (hC : Cs W g n bx rb ro c2 r) (hab : a ≤ b) (hb : b ≤ n) (hn : n ≤ c) (hn1 : n ≤ 1000)
    (asc : ∀ i j, a ≤ i → i < j → j < b → S i < S j) (hv : ∀ k, k < n → S k < n) :
    Calls Try.prog 45 #[.slice (some ⟨g, 0, none⟩) n c, .int .i64 a, .int .i64 b, .func (.func 32) #[] #[.pointer (some ⟨bx, 0, none⟩)]] W fun e w' => e = .returned (.tuple #[]) ∧ ∃ T, RowAt w' g n T ∧ Pm a b S T ∧ So r T a b ∧ Ex g W w' := by
  have HR := Lib.hid hR
  have HC := Lib.hid hC
  have HA := Lib.hid asc
  have HV := Lib.hid hv
  have HB := Lib.hid (show a ≤ b ∧ b ≤ n ∧ n ≤ 1000 from ⟨hab, hb, hn1⟩)
  have hfn : ∀ (W : World) (args : Array Value), (callFunc 32 args).run Try.prog W = .ok (.enter 32 args) W := fun _ _ => by kernel_rfl
  have K1 := Lib.hid (show wrap64 ((a : Int) + 1) = ((a + 1 : Nat) : Int) from wr64 (by omega) (by omega))
  obtain ⟨a1, ha1⟩ := named (a + 1)
  rw [ha1] at K1
  have HA1 := Lib.hid ha1
  clear hR hC asc hv hab hb hn1 ha1
  go_enter Try.func45, Try.ntmps45
  have k1 := K1.out
  go_wp2_with fail
  clear k1
  go_loopw [8] (fun v wr => ∃ (i : Nat) (T : Nat → Nat), v = .int .i64 i ∧ (a < i ∧ i ≤ b + 1) ∧ Hid (RowAt wr g n T) ∧ Hid (Ins r S T a i b) ∧ Hid (Ex g W wr)) (fun v _ => b + 1 - (intOf v).toNat)
  · refine ⟨a1, S, by first | rfl | rw [K1.out], ?_, HR, Lib.hid ?_, Lib.hid (Ex.refl _ _)⟩
    · have := HB.out; have := HA1.out; omega
    · have := HA1.out
      exact ⟨Pm.refl _ _ _, So.small (by omega)⟩
  · obtain ⟨i, T, rfl, hi, HX, HI, HE⟩ := hrel
    have hB := HB.out
    by_cases hib : i < b
    · have z1 := lt_t hib
      have HH := Lib.hid (And.intro hi hib)
      clear hi hB hib
      go_wp2_with fail
      go_loopw [9] (fun v wz => ∃ j : Nat, v = .int .i64 j ∧ (a ≤ j ∧ j ≤ i) ∧ Hid (RowAt wz g n (dwn T i j)) ∧ Hid (∀ k, j ≤ k → k < i → bef r (T i) (T k)) ∧ Hid (Ex g W wz)) (fun v _ => (intOf v).toNat)
      · have h1 := HH.out
        exact ⟨i, rfl, by omega, Lib.hid (by rw [dwn_self]; exact HX.out), Lib.hid (fun k k1 k2 => by omega), HE⟩
      · obtain ⟨j, rfl, hj, HY, HL, HE2⟩ := hrel
        have hh := HH.out
        have hB := HB.out
        by_cases hja : j = a
        · subst hja
          have z2 := lt_f (i := j) (j := j) (Nat.le_refl _)
          have HN := Lib.hid (HI.out.next HA.out hh.2 (Nat.le_refl _) (by omega) HL.out (.inl rfl))
          have K0 := Lib.hid (show wrap64 ((i : Int) + 1) = ((i + 1 : Nat) : Int) from wr64 (by omega) (by omega))
          clear hh hj hB
          go_wp2_with fail
          go_quiet (fail)
          rename_i nq
          go_wp2_with fail
          go_roundw
          case rel => exact ⟨i + 1, _, by first | rfl | rw [K0.out], by have := HH.out; omega, Lib.hid (HY.out.drewN nq), HN, Lib.hid (HE2.out.drewN nq)⟩
          case measure => first | rw [K0.out] | skip
                          have h1 := HH.out; clear K0; simp only [intOf]; omega
        · obtain ⟨x, hx⟩ : ∃ x, x + 1 = j := ⟨j - 1, by omega⟩
          have tl : T x < T i := HI.out.lt HA.out hh.2 (by omega) (by omega)
          have c1 := HY.out.c j (by omega)
          have c2 := HY.out.c x (by omega)
          have z3 := HY.out.z j
          have z4 := HY.out.z x
          rw [dwn_at1] at c1
          rw [dwn_at2 T (by omega)] at c2
          have D := Lib.hid (fun m => HC.out.less HE2.out (x := T i) (y := T x) (by have := HV.out (S i) ; rw [HI.out.at (Nat.le_refl i)]; exact HV.out i (by omega)) (by
            obtain ⟨q, q1, q2, e⟩ := HI.out.p.of x (by omega) (by omega)
            rw [e]; exact HV.out q (by omega)) m)
          have z2 := lt_t (i := a) (j := j) (by omega)
          have K7 := Lib.hid (show IntKind.i64.wrap ((j : Int) - 1) = (x : Int) from by rw [IntKind.wrap_i64]; omega)
          have K8 := Lib.hid (show wrap64 ((j : Int) - 1) = (x : Int) from wr64 (by omega) (by omega))
          have i1 : (x : Int) < (n : Int) := by omega
          have i2 : (j : Int) < (n : Int) := by omega
          have hji := hj.2
          have hne : x ≠ j := by omega
          have hne2 : j ≠ x := by omega
          by_cases hlt : r (T x) < r (T i)
          · have hneg := (cv_neg (r (T x)) (r (T i))).2 hlt
            have HS := Lib.hid (HY.out.swap (i := j) (j := x) (by omega) (by omega) (by omega))
            rw [show swp (dwn T i j) j x = dwn T i x from by rw [← hx]; exact dwn_step T (by omega), dwn_at1, dwn_at2 T (show x < j by omega)] at HS
            have HL2 := Lib.hid (show ∀ k, x ≤ k → k < i → bef r (T i) (T k) from fun k k1 k2 => by
              by_cases e : k = x
              · rw [e]; exact (bef_of_lt tl).2 hlt
              · exact HL.out k (by omega) k2)
            have HX2 := Lib.hid (show a ≤ x ∧ x ≤ i ∧ x < j by omega)
            obtain ⟨v, hv⟩ := named (cv (r (T x)) (r (T i)))
            rw [hv] at D hneg
            have z5 : (v < 0) = True := eq_true hneg
            generalize T i = ti at *
            generalize T x = tx at *
            clear hh hj hB hja hx tl hlt hneg hv hji
            have k7 := K7.out
            have k8 := K8.out
            go_wp2_with fail
            go_quiet (first | (go_at_call 32; refine Calls.quiet_of (D.out _)))
            rename_i nq
            go_wp2_with fail
            go_region
            all_goals
              go_wp2_with fail
              clear k7 k8
              go_roundw
              case rel => exact ⟨x, by first | rfl | rw [K8.out], by have := HX2.out; omega, Lib.hid ((HS.out.drewN nq).drew), HL2, Lib.hid ((((HE2.out.drewN nq).drew).set _ _).set _ _)⟩
              case measure => first | rw [K8.out] | skip
                              have h1 := HX2.out; clear K7 K8; simp only [intOf]; omega
          · have hneg : ¬ cv (r (T x)) (r (T i)) < 0 := fun e => hlt ((cv_neg _ _).1 e)
            have HN := Lib.hid (HI.out.next HA.out hh.2 (by omega) (by omega) HL.out (.inr ⟨x, hx, hlt⟩))
            have K0 := Lib.hid (show wrap64 ((i : Int) + 1) = ((i + 1 : Nat) : Int) from wr64 (by omega) (by omega))
            obtain ⟨v, hv⟩ := named (cv (r (T x)) (r (T i)))
            rw [hv] at D hneg
            have z5 : (v < 0) = False := eq_false hneg
            generalize T i = ti at *
            generalize T x = tx at *
            clear hh hj hB hja hx tl hlt hneg hv hji
            have k7 := K7.out
            have k8 := K8.out
            go_wp2_with fail
            go_quiet (first | (go_at_call 32; refine Calls.quiet_of (D.out _)))
            rename_i nq
            go_wp2_with fail
            clear k7 k8
            go_roundw
            case rel => exact ⟨i + 1, _, by first | rfl | rw [K0.out], by have := HH.out; omega, Lib.hid (HY.out.drewN nq), HN, Lib.hid (HE2.out.drewN nq)⟩
            case measure => first | rw [K0.out] | skip
                            have h1 := HH.out; clear K0 K7 K8; simp only [intOf]; omega
    · have z1 := lt_f (i := i) (j := b) (by omega)
      have hp := HI.out.p
      rw [show min i b = b by omega] at hp
      have HP := Lib.hid (And.intro hp (HI.out.o.sub (Nat.le_refl _) (show b ≤ i by omega)))
      clear hi hB hib hp
      go_wp2_with fail
      go_end0
      exact ⟨rfl, T, HX.out, HP.out.1, HP.out.2, HE.out⟩
end Go.Proofs.Ytbiofjddclbncaa.Sr
