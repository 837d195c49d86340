import Derived.Test.YtbiofjddclbncaaSm5
namespace Go.Proofs.Ytbiofjddclbncaa.Sr
set_option linter.unusedVariables false
set_option linter.unusedSimpArgs false
open Go.RowKit Mem Mo
theorem rot_same (S : Nat → Nat) {s m e : Nat} (h1 : s ≤ m) (h2 : m ≤ e) (h : ¬ (s < m ∧ m < e)) : rot S s m e = S := by
  funext x
  unfold rot
  repeat' split
  all_goals first | rfl | omega | (congr 1; omega)
/-- What is known of a search between s0 and r0, with t = mid + m. -/
structure Sch (a m b d t s0 r0 : Nat) : Prop where
  d0 : a < d
  d1 : d < b
  te : t = d + m
  a0 : a ≤ s0
  sr : s0 ≤ r0
  rm : r0 ≤ m
  e0 : m + r0 ≤ t
  e1 : t ≤ b + s0
  l : s0 = a ∨ t = b + s0
  r : r0 = m ∨ t = m + r0
/-- How far the search has come. -/
structure Sit (r : Nat → Int) (S : Nat → Nat) (t s0 r0 s u : Nat) : Prop where
  h0 : s0 ≤ s
  h1 : s ≤ u
  h2 : u ≤ r0
  l : s = s0 ∨ bef r (S (s - 1)) (S (t - s))
  r : u = r0 ∨ bef r (S (t - u - 1)) (S u)
theorem Sit.mrg {r : Nat → Int} {S : Nat → Nat} {a m b d t s0 r0 s : Nat} (h : Sit r S t s0 r0 s s) (H : Sch a m b d t s0 r0) : Mrg r S a m b s (t - s) := by
  obtain ⟨d0, d1, ht, a0, sr, rm, e0, e1, l, rr⟩ := H
  obtain ⟨h0, h1, h2, hl, hr⟩ := h
  refine ⟨by omega, by omega, by omega, by omega, ?_, ?_⟩
  · rcases hl with hl | hl
    · rcases l with l | l
      · exact .inl (by omega)
      · exact .inr (.inl (by omega))
    · exact .inr (.inr hl)
  · rcases hr with hr | hr
    · rcases rr with l | l
      · exact .inl (by omega)
      · exact .inr (.inl (by omega))
    · exact .inr (.inr hr)
theorem Pm.bd {n a b : Nat} {S T : Nat → Nat} (h : Pm a b S T) (hb : b ≤ n) (hv : ∀ k, k < n → S k < n) : ∀ k, k < n → T k < n := fun k hk => by
  by_cases e : a ≤ k ∧ k < b
  · obtain ⟨j, j1, j2, e2⟩ := h.of k e.1 e.2
    rw [e2]; exact hv j (by omega)
  · rw [h.out k (by omega)]; exact hv k hk

set_option maxRecDepth 100000 in
set_option maxHeartbeats 3000000 in
theorem sym3 (g n c a m b bx rb ro c2 : Nat) (r : Nat → Int) (S : Nat → Nat) (W : World) (hR : RowAt W g n S) (hC : Cs W g n bx rb ro c2 r) (ham : a + 1 < m) (hm : m + 1 < b) (hb : b ≤ n) (hn : n ≤ c) (hn1 : n ≤ 1000)
    (hs1 : So r S a m) (hs2 : So r S m b) (hl : Lw S a m b) (hv : ∀ k, k < n → S k < n)
    (ih : ∀ (a' m' b' : Nat) (T : Nat → Nat) (V : World), b' - a' < b - a → RowAt V g n T → Cs V g n bx rb ro c2 r → a' < m' → m' < b' → b' ≤ n → So r T a' m' → So r T m' b' → Lw T a' m' b' → (∀ k, k < n → T k < n) →
      Calls Try.prog 46 #[.slice (some ⟨g, 0, none⟩) n c, .int .i64 a', .int .i64 m', .int .i64 b', .func (.func 32) #[] #[.pointer (some ⟨bx, 0, none⟩)]] V fun e w' => e = .returned (.tuple #[]) ∧ ∃ U, RowAt w' g n U ∧ Pm a' b' T U ∧ So r U a' b' ∧ Ex g V w') :
    Calls Try.prog 46 #[.slice (some ⟨g, 0, none⟩) n c, .int .i64 a, .int .i64 m, .int .i64 b, .func (.func 32) #[] #[.pointer (some ⟨bx, 0, none⟩)]] W fun e w' => e = .returned (.tuple #[]) ∧ ∃ T, RowAt w' g n T ∧ Pm a b S T ∧ So r T a b ∧ Ex g W w' := by
  have HR := Lib.hid hR
  have HC := Lib.hid hC
  have HS1 := Lib.hid hs1
  have HS2 := Lib.hid hs2
  have HLw := Lib.hid hl
  have HV := Lib.hid hv
  have IH := Lib.hid ih
  have RO := Lib.hid (fun a' m' b' T V hV h1 h2 h3 => rotate_any (.func (.func 32) #[] #[.pointer (some ⟨bx, 0, none⟩)]) g n c a' m' b' T V hV h1 h2 h3 hn hn1)
  have HB := Lib.hid (show a + 1 < m ∧ m + 1 < b ∧ b ≤ n ∧ n ≤ 1000 from ⟨ham, hm, hb, hn1⟩)
  have hfn : ∀ (W : World) (args : Array Value), (callFunc 32 args).run Try.prog W = .ok (.enter 32 args) W := fun _ _ => by kernel_rfl
  obtain ⟨d, hd⟩ := named ((a + b) / 2)
  obtain ⟨t, ht⟩ := named (d + m)
  obtain ⟨q1, hq1⟩ := named (m - a)
  obtain ⟨q2, hq2⟩ := named (b - m)
  obtain ⟨q3, hq3⟩ := named (a + b)
  obtain ⟨p, hp⟩ : ∃ p, p + 1 = t := ⟨t - 1, by omega⟩
  have K1 := Lib.hid (show wrap64 ((m : Int) - (a : Int)) = (q1 : Int) from (wr64 (by omega) (by omega)))
  have K2 := Lib.hid (show wrap64 ((b : Int) - (m : Int)) = (q2 : Int) from (wr64 (by omega) (by omega)))
  have K3 := Lib.hid (show wrap64 ((a : Int) + (b : Int)) = (q3 : Int) from (wr64 (by omega) (by omega)))
  have K4 := Lib.hid (show IntKind.u64.wrap (q3 : Int) = (q3 : Int) from u64i (by omega))
  have K5 := Lib.hid (show (q3 : Int) / 2 = (d : Int) by omega)
  have K6 := Lib.hid (show wrap64 (d : Int) = (d : Int) from wr64 rfl (by omega))
  have K7 := Lib.hid (show wrap64 ((d : Int) + (m : Int)) = (t : Int) from (wr64 (by omega) (by omega)))
  have K8 := Lib.hid (show wrap64 ((t : Int) - 1) = (p : Int) from (wr64 (by omega) (by omega)))
  have z1 : ((q1 : Int) == 1) = false := beq_false_of_ne (by omega)
  have z2 : ((q2 : Int) == 1) = false := beq_false_of_ne (by omega)
  have hc : (d < m ∧ Sch a m b d t (t - b) d ∧ b ≤ t) ∨ (m ≤ d ∧ Sch a m b d t a m) := by
    rcases Nat.lt_or_ge d m with h | h
    · exact .inl ⟨h, ⟨by omega, by omega, by omega, by omega, by omega, by omega, by omega, by omega, by omega, by omega⟩, by omega⟩
    · exact .inr ⟨h, ⟨by omega, by omega, by omega, by omega, by omega, by omega, by omega, by omega, by omega, by omega⟩⟩
  have HP := Lib.hid (show p + 1 = t ∧ t ≤ 3000 by omega)
  have HC2 := Lib.hid hc
  clear hR hC hs1 hs2 hl hv ih ham hm hb hn1 hd ht hq1 hq2 hq3 hp hc
  rcases HC2.out with ⟨hdm, hS, hbt⟩ | ⟨hdm, hS⟩
  · have HS := Lib.hid hS
    have z3 := lt_t hdm
    obtain ⟨s0, hs0⟩ := named (t - b)
    have K9 := Lib.hid (show wrap64 ((t : Int) - (b : Int)) = (s0 : Int) from (wr64 (by omega) (by have := HP.out; omega)))
    rw [hs0] at HS
    obtain ⟨r0, hr0⟩ : ∃ r0, r0 = d := ⟨_, rfl⟩
    have HS : Hid (Sch a m b d t s0 r0) := Lib.hid (by rw [hr0]; exact HS.out)
    have HD := Lib.hid hr0
    clear hdm hS hbt hs0 hr0 HC2
    go_enter Try.func46, Try.ntmps46
    have k1 := K1.out
    have k2 := K2.out
    have k3 := K3.out
    have k4 := K4.out
    have k5 := K5.out
    have k6 := K6.out
    have k7 := K7.out
    have k8 := K8.out
    have k9 := K9.out
    go_wp2_with fail
    rw [k6, k7, k8]
    clear k1 k2 k3 k4 k5 k6 k7 k8 k9 z1 z2 z3
    go_loopw [20, 21, 23] (fun v u _ wr => ∃ s e : Nat, v = .int .i64 s ∧ u = .int .i64 e ∧ Hid (Sit r S t s0 r0 s e) ∧ Hid (RowAt wr g n S) ∧ Hid (Ex g W wr)) (fun v u _ _ => (intOf u).toNat - (intOf v).toNat)
    · exact ⟨s0, r0, by first | rfl | rw [K9.out], by first | rfl | rw [K6.out, HD.out] | rw [HD.out], Lib.hid ⟨Nat.le_refl _, HS.out.sr, Nat.le_refl _, .inl rfl, .inl rfl⟩, HR, Lib.hid (Ex.refl _ _)⟩
    · obtain ⟨s, e, rfl, rfl, HI, HX, HE⟩ := hrel
      by_cases hlt : s < e
      · have z1 := lt_t hlt
        have hB := HB.out
        have hpp := HP.out
        obtain ⟨d0, d1, hte, a0, sr, rm, e0, e1, _, _⟩ := HS.out
        obtain ⟨h0, h1, h2, _, _⟩ := HI.out
        obtain ⟨h, hh⟩ := named ((s + e) / 2)
        obtain ⟨y, hy⟩ := named (s + e)
        obtain ⟨x, hx⟩ := named (p - h)
        have K2 := Lib.hid (show wrap64 ((s : Int) + (e : Int)) = (y : Int) from wr64 (by omega) (by omega))
        have K3 := Lib.hid (show IntKind.u64.wrap (y : Int) = (y : Int) from u64i (by omega))
        have K4 := Lib.hid (show (y : Int) / 2 = (h : Int) by omega)
        have K5 := Lib.hid (show wrap64 (h : Int) = (h : Int) from wr64 rfl (by omega))
        have K6 := Lib.hid (show wrap64 ((h : Int) + 1) = ((h + 1 : Nat) : Int) from wr64 (by omega) (by omega))
        have K7 := Lib.hid (show IntKind.i64.wrap ((p : Int) - (h : Int)) = (x : Int) from by rw [IntKind.wrap_i64]; omega)
        have c1 := HX.out.c h (by omega)
        have c2 := HX.out.c x (by omega)
        have lt := HLw.out h x (by omega) (by omega) (by omega) (by omega)
        have D := Lib.hid (fun k => HC.out.less HE.out (x := S x) (y := S h) (HV.out x (by omega)) (HV.out h (by omega)) k)
        have i1 : (h : Int) < (n : Int) := by omega
        have i2 : (x : Int) < (n : Int) := by omega
        have HH := Lib.hid (show s ≤ h ∧ h < e by omega)
        have hd : r (S h) < r (S x) ∨ ¬ r (S h) < r (S x) := Decidable.em _
        rcases hd with hc | hc
        · have hneg := (cv_neg (r (S h)) (r (S x))).2 hc
          have HI2 := Lib.hid (show Sit r S t s0 r0 s h from ⟨h0, by omega, by omega, HI.out.l, .inr (by rw [show t - h - 1 = x by omega]; exact (bef_of_lt lt).2 hc)⟩)
          obtain ⟨v, hv⟩ := named (cv (r (S h)) (r (S x)))
          rw [hv] at D hneg
          have z5 : (v < 0) = True := eq_true hneg
          generalize S h = th at *
          generalize S x = ta at *
          clear hlt hB hpp d0 d1 hte a0 sr rm e0 e1 h0 h1 h2 hh hy hx lt hc hneg hv
          have k2 := K2.out
          have k3 := K3.out
          have k4 := K4.out
          have k5 := K5.out
          have k7 := K7.out
          go_wp2_with fail
          go_quiet (first | (go_at_call 32; refine Calls.quiet_of (D.out _)))
          rename_i nq
          go_wp2_with fail
          clear k2 k3 k4 k5 k7
          go_roundw
          case rel => exact ⟨s, h, rfl, by first | rfl | rw [K5.out], HI2, Lib.hid (HX.out.drewN nq), Lib.hid (HE.out.drewN nq)⟩
          case measure => first | rw [K5.out] | skip
                          have h1 := HH.out; clear K2 K3 K4 K5 K6 K7; simp only [intOf]; omega
        · have hneg : ¬ cv (r (S h)) (r (S x)) < 0 := fun e => hc ((cv_neg _ _).1 e)
          have HI2 := Lib.hid (show Sit r S t s0 r0 (h + 1) e from ⟨by omega, by omega, by omega, .inr (by rw [show t - (h + 1) = x by omega]; exact bef_not lt hc), HI.out.r⟩)
          obtain ⟨v, hv⟩ := named (cv (r (S h)) (r (S x)))
          rw [hv] at D hneg
          have z5 : (v < 0) = False := eq_false hneg
          generalize S h = th at *
          generalize S x = ta at *
          clear hlt hB hpp d0 d1 hte a0 sr rm e0 e1 h0 h1 h2 hh hy hx lt hc hneg hv
          have k2 := K2.out
          have k3 := K3.out
          have k4 := K4.out
          have k5 := K5.out
          have k7 := K7.out
          go_wp2_with fail
          go_quiet (first | (go_at_call 32; refine Calls.quiet_of (D.out _)))
          rename_i nq
          go_wp2_with fail
          clear k2 k3 k4 k5 k7
          go_roundw
          case rel => exact ⟨h + 1, e, by first | rfl | rw [K6.out], rfl, HI2, Lib.hid (HX.out.drewN nq), Lib.hid (HE.out.drewN nq)⟩
          case measure => first | rw [K6.out] | skip
                          have h1 := HH.out; clear K2 K3 K4 K5 K6 K7; simp only [intOf]; omega
      · obtain rfl : s = e := by have := HI.out.h1; omega
        have z1 := lt_f (Nat.le_refl s)
        have hB := HB.out
        have hpp := HP.out
        have hM := HI.out.mrg HS.out
        have CU := Lib.hid (hM.cut HS1.out HS2.out HLw.out)
        obtain ⟨d0, d1, hte, _, _, _, _, _, _, _⟩ := HS.out
        have hsd : s ≤ d := by have h1 := HI.out.h2; have h2 := HS.out.e0; have h3 := HS.out.te; omega
        obtain ⟨s0', s1', e0', e1', _, _⟩ := hM
        obtain ⟨e, he⟩ := named (t - s)
        rw [he] at CU e0' e1'
        rw [show s + (e - m) = d by omega] at CU
        have K2 := Lib.hid (show wrap64 ((t : Int) - (s : Int)) = (e : Int) from wr64 (by omega) (by omega))
        have RP := Lib.hid (rot_pm S (a := s) (m := m) (b := e) s1' e0')
        have HV2 := Lib.hid (RP.out.bd (n := n) (by omega) HV.out)
        have HQ := Lib.hid (show a ≤ s ∧ s ≤ m ∧ m ≤ e ∧ e ≤ b ∧ s ≤ d ∧ d ≤ e ∧ a < d ∧ d < b by omega)
        clear hlt hB hpp d0 d1 hte s0' s1' e0' e1' he HI HS hsd
        have k2 := K2.out
        have c1 : (s < m ∧ m < e) ∨ (s < m ∧ ¬ m < e) ∨ ¬ s < m := by clear k2; omega
        have c2 : (a < s ∧ s < d) ∨ (a < s ∧ ¬ s < d) ∨ ¬ a < s := by clear k2; omega
        have c3 : (d < e ∧ e < b) ∨ (d < e ∧ ¬ e < b) ∨ ¬ d < e := by clear k2; omega
        have HC3 := Lib.hid (And.intro c2 c3)
        clear c2 c3
        rcases c1 with ⟨x1, x2⟩ | ⟨x1, x2⟩ | x1
        · have y1 := lt_t x1
          have y2 := lt_t x2
          have D := Lib.hid (RO.out s m e S wr HX.out x1 x2 (by clear k2; have := HQ.out; have := HB.out; omega))
          clear x1 x2
          go_wp2_with fail
          refine D.out.mono ?_
          rintro e' w1 ⟨rfl, hX1, hE1⟩
          have HX1 := Lib.hid hX1
          have HE1 := Lib.hid (HE.out.trans hE1)
          clear hX1 hE1
          obtain ⟨c2, c3⟩ := HC3.out
          have HC4 := Lib.hid c3
          clear c3 HC3
          generalize rot S s m e = T at *
          rcases c2 with ⟨x1, x2⟩ | ⟨x1, x2⟩ | x1
          · have y3 := lt_t x1
            have y4 := lt_t x2
            have D2 := Lib.hid (IH.out a s d T _ (by clear k2; have := HQ.out; omega) HX1.out (HC.out.ex HE1.out) x1 x2 (by clear k2; have := HQ.out; have := HB.out; omega) CU.out.a1 CU.out.a2 CU.out.al HV2.out)
            clear x1 x2
            go_wp2_with fail
            refine D2.out.mono ?_
            rintro e' w2 ⟨rfl, T1, hX2, hP2, hO2, hE2⟩
            have HX2 := Lib.hid hX2
            have HP2 := Lib.hid hP2
            have HO2 := Lib.hid hO2
            have HE2 := Lib.hid (HE1.out.trans hE2)
            clear hX2 hP2 hO2 hE2
            have c3 := HC4.out
            clear HC4
            rcases c3 with ⟨x1, x2⟩ | ⟨x1, x2⟩ | x1
            · have y5 := lt_t x1
              have y6 := lt_t x2
              have HN := Lib.hid (show So r T1 d e ∧ So r T1 e b ∧ Lw T1 d e b from ⟨CU.out.b1.congr fun k q1 q2 => HP2.out.out k (.inr q1), CU.out.b2.congr fun k q1 q2 => HP2.out.out k (.inr (Nat.le_trans (Nat.le_of_lt x1) q1)), fun i j q1 q2 q3 q4 => by rw [HP2.out.out i (.inr q1), HP2.out.out j (.inr (Nat.le_trans (Nat.le_of_lt x1) q3))]; exact CU.out.bl i j q1 q2 q3 q4⟩)
              have D3 := Lib.hid (IH.out d e b T1 _ (by clear k2; have := HQ.out; omega) HX2.out (HC.out.ex HE2.out) x1 x2 HB.out.2.2.1 HN.out.1 HN.out.2.1 HN.out.2.2 (HP2.out.bd (by clear k2; have := HQ.out; have := HB.out; omega) HV2.out))
              clear x1 x2
              go_wp2_with fail
              refine D3.out.mono ?_
              rintro e' w3 ⟨rfl, T2, hX3, hP3, hO3, hE3⟩
              have HX3 := Lib.hid hX3
              have HP3 := Lib.hid hP3
              have HO3 := Lib.hid hO3
              have HE3 := Lib.hid (HE2.out.trans hE3)
              clear hX3 hP3 hO3 hE3
              have HF := Lib.hid (CU.out.done (Nat.le_of_lt HQ.out.2.2.2.2.2.2.1) (Nat.le_of_lt HQ.out.2.2.2.2.2.2.2) HP2.out HO2.out HP3.out HO3.out)
              have HG := Lib.hid (RP.out.wide HQ.out.1 HQ.out.2.2.2.1)
              go_wp2_with fail
              go_end0
              exact ⟨rfl, T2, HX3.out, HG.out.trans HF.out.1, HF.out.2, HE3.out⟩
            · have y5 := lt_t x1
              have y6 := lt_f (Nat.not_lt.1 x2)
              have HO3 := Lib.hid ((CU.out.right (fun h => x2 h.2) HQ.out.2.2.2.2.2.1 HQ.out.2.2.2.1).congr fun k q1 q2 => HP2.out.out k (.inr q1))
              have HF := Lib.hid (CU.out.done (Nat.le_of_lt HQ.out.2.2.2.2.2.2.1) (Nat.le_of_lt HQ.out.2.2.2.2.2.2.2) HP2.out HO2.out (Pm.refl _ _ _) HO3.out)
              have HG := Lib.hid (RP.out.wide HQ.out.1 HQ.out.2.2.2.1)
              clear x1 x2
              go_wp2_with fail
              go_end0
              exact ⟨rfl, _, HX2.out, HG.out.trans HF.out.1, HF.out.2, HE2.out⟩
            · have y5 := lt_f (Nat.not_lt.1 x1)
              have HO3 := Lib.hid ((CU.out.right (fun h => x1 h.1) HQ.out.2.2.2.2.2.1 HQ.out.2.2.2.1).congr fun k q1 q2 => HP2.out.out k (.inr q1))
              have HF := Lib.hid (CU.out.done (Nat.le_of_lt HQ.out.2.2.2.2.2.2.1) (Nat.le_of_lt HQ.out.2.2.2.2.2.2.2) HP2.out HO2.out (Pm.refl _ _ _) HO3.out)
              have HG := Lib.hid (RP.out.wide HQ.out.1 HQ.out.2.2.2.1)
              clear x1
              go_wp2_with fail
              go_end0
              exact ⟨rfl, _, HX2.out, HG.out.trans HF.out.1, HF.out.2, HE2.out⟩
          · have y3 := lt_t x1
            have y4 := lt_f (Nat.not_lt.1 x2)
            have HX2 := HX1
            have HE2 := HE1
            have HP2 := Lib.hid (Pm.refl a d T)
            have HO2 := Lib.hid (CU.out.left (fun h => x2 h.2) HQ.out.1 HQ.out.2.2.2.2.1)
            clear x1 x2
            have c3 := HC4.out
            clear HC4
            rcases c3 with ⟨x1, x2⟩ | ⟨x1, x2⟩ | x1
            · have y5 := lt_t x1
              have y6 := lt_t x2
              have HN := Lib.hid (show So r T d e ∧ So r T e b ∧ Lw T d e b from ⟨CU.out.b1.congr fun k q1 q2 => HP2.out.out k (.inr q1), CU.out.b2.congr fun k q1 q2 => HP2.out.out k (.inr (Nat.le_trans (Nat.le_of_lt x1) q1)), fun i j q1 q2 q3 q4 => by rw [HP2.out.out i (.inr q1), HP2.out.out j (.inr (Nat.le_trans (Nat.le_of_lt x1) q3))]; exact CU.out.bl i j q1 q2 q3 q4⟩)
              have D3 := Lib.hid (IH.out d e b T _ (by clear k2; have := HQ.out; omega) HX2.out (HC.out.ex HE2.out) x1 x2 HB.out.2.2.1 HN.out.1 HN.out.2.1 HN.out.2.2 (HP2.out.bd (by clear k2; have := HQ.out; have := HB.out; omega) HV2.out))
              clear x1 x2
              go_wp2_with fail
              refine D3.out.mono ?_
              rintro e' w3 ⟨rfl, T2, hX3, hP3, hO3, hE3⟩
              have HX3 := Lib.hid hX3
              have HP3 := Lib.hid hP3
              have HO3 := Lib.hid hO3
              have HE3 := Lib.hid (HE2.out.trans hE3)
              clear hX3 hP3 hO3 hE3
              have HF := Lib.hid (CU.out.done (Nat.le_of_lt HQ.out.2.2.2.2.2.2.1) (Nat.le_of_lt HQ.out.2.2.2.2.2.2.2) HP2.out HO2.out HP3.out HO3.out)
              have HG := Lib.hid (RP.out.wide HQ.out.1 HQ.out.2.2.2.1)
              go_wp2_with fail
              go_end0
              exact ⟨rfl, T2, HX3.out, HG.out.trans HF.out.1, HF.out.2, HE3.out⟩
            · have y5 := lt_t x1
              have y6 := lt_f (Nat.not_lt.1 x2)
              have HO3 := Lib.hid ((CU.out.right (fun h => x2 h.2) HQ.out.2.2.2.2.2.1 HQ.out.2.2.2.1).congr fun k q1 q2 => HP2.out.out k (.inr q1))
              have HF := Lib.hid (CU.out.done (Nat.le_of_lt HQ.out.2.2.2.2.2.2.1) (Nat.le_of_lt HQ.out.2.2.2.2.2.2.2) HP2.out HO2.out (Pm.refl _ _ _) HO3.out)
              have HG := Lib.hid (RP.out.wide HQ.out.1 HQ.out.2.2.2.1)
              clear x1 x2
              go_wp2_with fail
              go_end0
              exact ⟨rfl, _, HX2.out, HG.out.trans HF.out.1, HF.out.2, HE2.out⟩
            · have y5 := lt_f (Nat.not_lt.1 x1)
              have HO3 := Lib.hid ((CU.out.right (fun h => x1 h.1) HQ.out.2.2.2.2.2.1 HQ.out.2.2.2.1).congr fun k q1 q2 => HP2.out.out k (.inr q1))
              have HF := Lib.hid (CU.out.done (Nat.le_of_lt HQ.out.2.2.2.2.2.2.1) (Nat.le_of_lt HQ.out.2.2.2.2.2.2.2) HP2.out HO2.out (Pm.refl _ _ _) HO3.out)
              have HG := Lib.hid (RP.out.wide HQ.out.1 HQ.out.2.2.2.1)
              clear x1
              go_wp2_with fail
              go_end0
              exact ⟨rfl, _, HX2.out, HG.out.trans HF.out.1, HF.out.2, HE2.out⟩
          · have y3 := lt_f (Nat.not_lt.1 x1)
            have HX2 := HX1
            have HE2 := HE1
            have HP2 := Lib.hid (Pm.refl a d T)
            have HO2 := Lib.hid (CU.out.left (fun h => x1 h.1) HQ.out.1 HQ.out.2.2.2.2.1)
            clear x1
            have c3 := HC4.out
            clear HC4
            rcases c3 with ⟨x1, x2⟩ | ⟨x1, x2⟩ | x1
            · have y5 := lt_t x1
              have y6 := lt_t x2
              have HN := Lib.hid (show So r T d e ∧ So r T e b ∧ Lw T d e b from ⟨CU.out.b1.congr fun k q1 q2 => HP2.out.out k (.inr q1), CU.out.b2.congr fun k q1 q2 => HP2.out.out k (.inr (Nat.le_trans (Nat.le_of_lt x1) q1)), fun i j q1 q2 q3 q4 => by rw [HP2.out.out i (.inr q1), HP2.out.out j (.inr (Nat.le_trans (Nat.le_of_lt x1) q3))]; exact CU.out.bl i j q1 q2 q3 q4⟩)
              have D3 := Lib.hid (IH.out d e b T _ (by clear k2; have := HQ.out; omega) HX2.out (HC.out.ex HE2.out) x1 x2 HB.out.2.2.1 HN.out.1 HN.out.2.1 HN.out.2.2 (HP2.out.bd (by clear k2; have := HQ.out; have := HB.out; omega) HV2.out))
              clear x1 x2
              go_wp2_with fail
              refine D3.out.mono ?_
              rintro e' w3 ⟨rfl, T2, hX3, hP3, hO3, hE3⟩
              have HX3 := Lib.hid hX3
              have HP3 := Lib.hid hP3
              have HO3 := Lib.hid hO3
              have HE3 := Lib.hid (HE2.out.trans hE3)
              clear hX3 hP3 hO3 hE3
              have HF := Lib.hid (CU.out.done (Nat.le_of_lt HQ.out.2.2.2.2.2.2.1) (Nat.le_of_lt HQ.out.2.2.2.2.2.2.2) HP2.out HO2.out HP3.out HO3.out)
              have HG := Lib.hid (RP.out.wide HQ.out.1 HQ.out.2.2.2.1)
              go_wp2_with fail
              go_end0
              exact ⟨rfl, T2, HX3.out, HG.out.trans HF.out.1, HF.out.2, HE3.out⟩
            · have y5 := lt_t x1
              have y6 := lt_f (Nat.not_lt.1 x2)
              have HO3 := Lib.hid ((CU.out.right (fun h => x2 h.2) HQ.out.2.2.2.2.2.1 HQ.out.2.2.2.1).congr fun k q1 q2 => HP2.out.out k (.inr q1))
              have HF := Lib.hid (CU.out.done (Nat.le_of_lt HQ.out.2.2.2.2.2.2.1) (Nat.le_of_lt HQ.out.2.2.2.2.2.2.2) HP2.out HO2.out (Pm.refl _ _ _) HO3.out)
              have HG := Lib.hid (RP.out.wide HQ.out.1 HQ.out.2.2.2.1)
              clear x1 x2
              go_wp2_with fail
              go_end0
              exact ⟨rfl, _, HX2.out, HG.out.trans HF.out.1, HF.out.2, HE2.out⟩
            · have y5 := lt_f (Nat.not_lt.1 x1)
              have HO3 := Lib.hid ((CU.out.right (fun h => x1 h.1) HQ.out.2.2.2.2.2.1 HQ.out.2.2.2.1).congr fun k q1 q2 => HP2.out.out k (.inr q1))
              have HF := Lib.hid (CU.out.done (Nat.le_of_lt HQ.out.2.2.2.2.2.2.1) (Nat.le_of_lt HQ.out.2.2.2.2.2.2.2) HP2.out HO2.out (Pm.refl _ _ _) HO3.out)
              have HG := Lib.hid (RP.out.wide HQ.out.1 HQ.out.2.2.2.1)
              clear x1
              go_wp2_with fail
              go_end0
              exact ⟨rfl, _, HX2.out, HG.out.trans HF.out.1, HF.out.2, HE2.out⟩
        · have y1 := lt_t x1
          have y2 := lt_f (Nat.not_lt.1 x2)
          have HX1 : Hid (RowAt wr g n (rot S s m e)) := Lib.hid (by clear k2; have h := HQ.out; rw [rot_same S h.2.1 h.2.2.1 (fun h => x2 h.2)]; exact HX.out)
          have HE1 := HE
          clear x1 x2
          obtain ⟨c2, c3⟩ := HC3.out
          have HC4 := Lib.hid c3
          clear c3 HC3
          generalize rot S s m e = T at *
          rcases c2 with ⟨x1, x2⟩ | ⟨x1, x2⟩ | x1
          · have y3 := lt_t x1
            have y4 := lt_t x2
            have D2 := Lib.hid (IH.out a s d T _ (by clear k2; have := HQ.out; omega) HX1.out (HC.out.ex HE1.out) x1 x2 (by clear k2; have := HQ.out; have := HB.out; omega) CU.out.a1 CU.out.a2 CU.out.al HV2.out)
            clear x1 x2
            go_wp2_with fail
            refine D2.out.mono ?_
            rintro e' w2 ⟨rfl, T1, hX2, hP2, hO2, hE2⟩
            have HX2 := Lib.hid hX2
            have HP2 := Lib.hid hP2
            have HO2 := Lib.hid hO2
            have HE2 := Lib.hid (HE1.out.trans hE2)
            clear hX2 hP2 hO2 hE2
            have c3 := HC4.out
            clear HC4
            rcases c3 with ⟨x1, x2⟩ | ⟨x1, x2⟩ | x1
            · have y5 := lt_t x1
              have y6 := lt_t x2
              have HN := Lib.hid (show So r T1 d e ∧ So r T1 e b ∧ Lw T1 d e b from ⟨CU.out.b1.congr fun k q1 q2 => HP2.out.out k (.inr q1), CU.out.b2.congr fun k q1 q2 => HP2.out.out k (.inr (Nat.le_trans (Nat.le_of_lt x1) q1)), fun i j q1 q2 q3 q4 => by rw [HP2.out.out i (.inr q1), HP2.out.out j (.inr (Nat.le_trans (Nat.le_of_lt x1) q3))]; exact CU.out.bl i j q1 q2 q3 q4⟩)
              have D3 := Lib.hid (IH.out d e b T1 _ (by clear k2; have := HQ.out; omega) HX2.out (HC.out.ex HE2.out) x1 x2 HB.out.2.2.1 HN.out.1 HN.out.2.1 HN.out.2.2 (HP2.out.bd (by clear k2; have := HQ.out; have := HB.out; omega) HV2.out))
              clear x1 x2
              go_wp2_with fail
              refine D3.out.mono ?_
              rintro e' w3 ⟨rfl, T2, hX3, hP3, hO3, hE3⟩
              have HX3 := Lib.hid hX3
              have HP3 := Lib.hid hP3
              have HO3 := Lib.hid hO3
              have HE3 := Lib.hid (HE2.out.trans hE3)
              clear hX3 hP3 hO3 hE3
              have HF := Lib.hid (CU.out.done (Nat.le_of_lt HQ.out.2.2.2.2.2.2.1) (Nat.le_of_lt HQ.out.2.2.2.2.2.2.2) HP2.out HO2.out HP3.out HO3.out)
              have HG := Lib.hid (RP.out.wide HQ.out.1 HQ.out.2.2.2.1)
              go_wp2_with fail
              go_end0
              exact ⟨rfl, T2, HX3.out, HG.out.trans HF.out.1, HF.out.2, HE3.out⟩
            · have y5 := lt_t x1
              have y6 := lt_f (Nat.not_lt.1 x2)
              have HO3 := Lib.hid ((CU.out.right (fun h => x2 h.2) HQ.out.2.2.2.2.2.1 HQ.out.2.2.2.1).congr fun k q1 q2 => HP2.out.out k (.inr q1))
              have HF := Lib.hid (CU.out.done (Nat.le_of_lt HQ.out.2.2.2.2.2.2.1) (Nat.le_of_lt HQ.out.2.2.2.2.2.2.2) HP2.out HO2.out (Pm.refl _ _ _) HO3.out)
              have HG := Lib.hid (RP.out.wide HQ.out.1 HQ.out.2.2.2.1)
              clear x1 x2
              go_wp2_with fail
              go_end0
              exact ⟨rfl, _, HX2.out, HG.out.trans HF.out.1, HF.out.2, HE2.out⟩
            · have y5 := lt_f (Nat.not_lt.1 x1)
              have HO3 := Lib.hid ((CU.out.right (fun h => x1 h.1) HQ.out.2.2.2.2.2.1 HQ.out.2.2.2.1).congr fun k q1 q2 => HP2.out.out k (.inr q1))
              have HF := Lib.hid (CU.out.done (Nat.le_of_lt HQ.out.2.2.2.2.2.2.1) (Nat.le_of_lt HQ.out.2.2.2.2.2.2.2) HP2.out HO2.out (Pm.refl _ _ _) HO3.out)
              have HG := Lib.hid (RP.out.wide HQ.out.1 HQ.out.2.2.2.1)
              clear x1
              go_wp2_with fail
              go_end0
              exact ⟨rfl, _, HX2.out, HG.out.trans HF.out.1, HF.out.2, HE2.out⟩
          · have y3 := lt_t x1
            have y4 := lt_f (Nat.not_lt.1 x2)
            have HX2 := HX1
            have HE2 := HE1
            have HP2 := Lib.hid (Pm.refl a d T)
            have HO2 := Lib.hid (CU.out.left (fun h => x2 h.2) HQ.out.1 HQ.out.2.2.2.2.1)
            clear x1 x2
            have c3 := HC4.out
            clear HC4
            rcases c3 with ⟨x1, x2⟩ | ⟨x1, x2⟩ | x1
            · have y5 := lt_t x1
              have y6 := lt_t x2
              have HN := Lib.hid (show So r T d e ∧ So r T e b ∧ Lw T d e b from ⟨CU.out.b1.congr fun k q1 q2 => HP2.out.out k (.inr q1), CU.out.b2.congr fun k q1 q2 => HP2.out.out k (.inr (Nat.le_trans (Nat.le_of_lt x1) q1)), fun i j q1 q2 q3 q4 => by rw [HP2.out.out i (.inr q1), HP2.out.out j (.inr (Nat.le_trans (Nat.le_of_lt x1) q3))]; exact CU.out.bl i j q1 q2 q3 q4⟩)
              have D3 := Lib.hid (IH.out d e b T _ (by clear k2; have := HQ.out; omega) HX2.out (HC.out.ex HE2.out) x1 x2 HB.out.2.2.1 HN.out.1 HN.out.2.1 HN.out.2.2 (HP2.out.bd (by clear k2; have := HQ.out; have := HB.out; omega) HV2.out))
              clear x1 x2
              go_wp2_with fail
              refine D3.out.mono ?_
              rintro e' w3 ⟨rfl, T2, hX3, hP3, hO3, hE3⟩
              have HX3 := Lib.hid hX3
              have HP3 := Lib.hid hP3
              have HO3 := Lib.hid hO3
              have HE3 := Lib.hid (HE2.out.trans hE3)
              clear hX3 hP3 hO3 hE3
              have HF := Lib.hid (CU.out.done (Nat.le_of_lt HQ.out.2.2.2.2.2.2.1) (Nat.le_of_lt HQ.out.2.2.2.2.2.2.2) HP2.out HO2.out HP3.out HO3.out)
              have HG := Lib.hid (RP.out.wide HQ.out.1 HQ.out.2.2.2.1)
              go_wp2_with fail
              go_end0
              exact ⟨rfl, T2, HX3.out, HG.out.trans HF.out.1, HF.out.2, HE3.out⟩
            · have y5 := lt_t x1
              have y6 := lt_f (Nat.not_lt.1 x2)
              have HO3 := Lib.hid ((CU.out.right (fun h => x2 h.2) HQ.out.2.2.2.2.2.1 HQ.out.2.2.2.1).congr fun k q1 q2 => HP2.out.out k (.inr q1))
              have HF := Lib.hid (CU.out.done (Nat.le_of_lt HQ.out.2.2.2.2.2.2.1) (Nat.le_of_lt HQ.out.2.2.2.2.2.2.2) HP2.out HO2.out (Pm.refl _ _ _) HO3.out)
              have HG := Lib.hid (RP.out.wide HQ.out.1 HQ.out.2.2.2.1)
              clear x1 x2
              go_wp2_with fail
              go_end0
              exact ⟨rfl, _, HX2.out, HG.out.trans HF.out.1, HF.out.2, HE2.out⟩
            · have y5 := lt_f (Nat.not_lt.1 x1)
              have HO3 := Lib.hid ((CU.out.right (fun h => x1 h.1) HQ.out.2.2.2.2.2.1 HQ.out.2.2.2.1).congr fun k q1 q2 => HP2.out.out k (.inr q1))
              have HF := Lib.hid (CU.out.done (Nat.le_of_lt HQ.out.2.2.2.2.2.2.1) (Nat.le_of_lt HQ.out.2.2.2.2.2.2.2) HP2.out HO2.out (Pm.refl _ _ _) HO3.out)
              have HG := Lib.hid (RP.out.wide HQ.out.1 HQ.out.2.2.2.1)
              clear x1
              go_wp2_with fail
              go_end0
              exact ⟨rfl, _, HX2.out, HG.out.trans HF.out.1, HF.out.2, HE2.out⟩
          · have y3 := lt_f (Nat.not_lt.1 x1)
            have HX2 := HX1
            have HE2 := HE1
            have HP2 := Lib.hid (Pm.refl a d T)
            have HO2 := Lib.hid (CU.out.left (fun h => x1 h.1) HQ.out.1 HQ.out.2.2.2.2.1)
            clear x1
            have c3 := HC4.out
            clear HC4
            rcases c3 with ⟨x1, x2⟩ | ⟨x1, x2⟩ | x1
            · have y5 := lt_t x1
              have y6 := lt_t x2
              have HN := Lib.hid (show So r T d e ∧ So r T e b ∧ Lw T d e b from ⟨CU.out.b1.congr fun k q1 q2 => HP2.out.out k (.inr q1), CU.out.b2.congr fun k q1 q2 => HP2.out.out k (.inr (Nat.le_trans (Nat.le_of_lt x1) q1)), fun i j q1 q2 q3 q4 => by rw [HP2.out.out i (.inr q1), HP2.out.out j (.inr (Nat.le_trans (Nat.le_of_lt x1) q3))]; exact CU.out.bl i j q1 q2 q3 q4⟩)
              have D3 := Lib.hid (IH.out d e b T _ (by clear k2; have := HQ.out; omega) HX2.out (HC.out.ex HE2.out) x1 x2 HB.out.2.2.1 HN.out.1 HN.out.2.1 HN.out.2.2 (HP2.out.bd (by clear k2; have := HQ.out; have := HB.out; omega) HV2.out))
              clear x1 x2
              go_wp2_with fail
              refine D3.out.mono ?_
              rintro e' w3 ⟨rfl, T2, hX3, hP3, hO3, hE3⟩
              have HX3 := Lib.hid hX3
              have HP3 := Lib.hid hP3
              have HO3 := Lib.hid hO3
              have HE3 := Lib.hid (HE2.out.trans hE3)
              clear hX3 hP3 hO3 hE3
              have HF := Lib.hid (CU.out.done (Nat.le_of_lt HQ.out.2.2.2.2.2.2.1) (Nat.le_of_lt HQ.out.2.2.2.2.2.2.2) HP2.out HO2.out HP3.out HO3.out)
              have HG := Lib.hid (RP.out.wide HQ.out.1 HQ.out.2.2.2.1)
              go_wp2_with fail
              go_end0
              exact ⟨rfl, T2, HX3.out, HG.out.trans HF.out.1, HF.out.2, HE3.out⟩
            · have y5 := lt_t x1
              have y6 := lt_f (Nat.not_lt.1 x2)
              have HO3 := Lib.hid ((CU.out.right (fun h => x2 h.2) HQ.out.2.2.2.2.2.1 HQ.out.2.2.2.1).congr fun k q1 q2 => HP2.out.out k (.inr q1))
              have HF := Lib.hid (CU.out.done (Nat.le_of_lt HQ.out.2.2.2.2.2.2.1) (Nat.le_of_lt HQ.out.2.2.2.2.2.2.2) HP2.out HO2.out (Pm.refl _ _ _) HO3.out)
              have HG := Lib.hid (RP.out.wide HQ.out.1 HQ.out.2.2.2.1)
              clear x1 x2
              go_wp2_with fail
              go_end0
              exact ⟨rfl, _, HX2.out, HG.out.trans HF.out.1, HF.out.2, HE2.out⟩
            · have y5 := lt_f (Nat.not_lt.1 x1)
              have HO3 := Lib.hid ((CU.out.right (fun h => x1 h.1) HQ.out.2.2.2.2.2.1 HQ.out.2.2.2.1).congr fun k q1 q2 => HP2.out.out k (.inr q1))
              have HF := Lib.hid (CU.out.done (Nat.le_of_lt HQ.out.2.2.2.2.2.2.1) (Nat.le_of_lt HQ.out.2.2.2.2.2.2.2) HP2.out HO2.out (Pm.refl _ _ _) HO3.out)
              have HG := Lib.hid (RP.out.wide HQ.out.1 HQ.out.2.2.2.1)
              clear x1
              go_wp2_with fail
              go_end0
              exact ⟨rfl, _, HX2.out, HG.out.trans HF.out.1, HF.out.2, HE2.out⟩
        · have y1 := lt_f (Nat.not_lt.1 x1)
          have HX1 : Hid (RowAt wr g n (rot S s m e)) := Lib.hid (by clear k2; have h := HQ.out; rw [rot_same S h.2.1 h.2.2.1 (fun h => x1 h.1)]; exact HX.out)
          have HE1 := HE
          clear x1
          obtain ⟨c2, c3⟩ := HC3.out
          have HC4 := Lib.hid c3
          clear c3 HC3
          generalize rot S s m e = T at *
          rcases c2 with ⟨x1, x2⟩ | ⟨x1, x2⟩ | x1
          · have y3 := lt_t x1
            have y4 := lt_t x2
            have D2 := Lib.hid (IH.out a s d T _ (by clear k2; have := HQ.out; omega) HX1.out (HC.out.ex HE1.out) x1 x2 (by clear k2; have := HQ.out; have := HB.out; omega) CU.out.a1 CU.out.a2 CU.out.al HV2.out)
            clear x1 x2
            go_wp2_with fail
            refine D2.out.mono ?_
            rintro e' w2 ⟨rfl, T1, hX2, hP2, hO2, hE2⟩
            have HX2 := Lib.hid hX2
            have HP2 := Lib.hid hP2
            have HO2 := Lib.hid hO2
            have HE2 := Lib.hid (HE1.out.trans hE2)
            clear hX2 hP2 hO2 hE2
            have c3 := HC4.out
            clear HC4
            rcases c3 with ⟨x1, x2⟩ | ⟨x1, x2⟩ | x1
            · have y5 := lt_t x1
              have y6 := lt_t x2
              have HN := Lib.hid (show So r T1 d e ∧ So r T1 e b ∧ Lw T1 d e b from ⟨CU.out.b1.congr fun k q1 q2 => HP2.out.out k (.inr q1), CU.out.b2.congr fun k q1 q2 => HP2.out.out k (.inr (Nat.le_trans (Nat.le_of_lt x1) q1)), fun i j q1 q2 q3 q4 => by rw [HP2.out.out i (.inr q1), HP2.out.out j (.inr (Nat.le_trans (Nat.le_of_lt x1) q3))]; exact CU.out.bl i j q1 q2 q3 q4⟩)
              have D3 := Lib.hid (IH.out d e b T1 _ (by clear k2; have := HQ.out; omega) HX2.out (HC.out.ex HE2.out) x1 x2 HB.out.2.2.1 HN.out.1 HN.out.2.1 HN.out.2.2 (HP2.out.bd (by clear k2; have := HQ.out; have := HB.out; omega) HV2.out))
              clear x1 x2
              go_wp2_with fail
              refine D3.out.mono ?_
              rintro e' w3 ⟨rfl, T2, hX3, hP3, hO3, hE3⟩
              have HX3 := Lib.hid hX3
              have HP3 := Lib.hid hP3
              have HO3 := Lib.hid hO3
              have HE3 := Lib.hid (HE2.out.trans hE3)
              clear hX3 hP3 hO3 hE3
              have HF := Lib.hid (CU.out.done (Nat.le_of_lt HQ.out.2.2.2.2.2.2.1) (Nat.le_of_lt HQ.out.2.2.2.2.2.2.2) HP2.out HO2.out HP3.out HO3.out)
              have HG := Lib.hid (RP.out.wide HQ.out.1 HQ.out.2.2.2.1)
              go_wp2_with fail
              go_end0
              exact ⟨rfl, T2, HX3.out, HG.out.trans HF.out.1, HF.out.2, HE3.out⟩
            · have y5 := lt_t x1
              have y6 := lt_f (Nat.not_lt.1 x2)
              have HO3 := Lib.hid ((CU.out.right (fun h => x2 h.2) HQ.out.2.2.2.2.2.1 HQ.out.2.2.2.1).congr fun k q1 q2 => HP2.out.out k (.inr q1))
              have HF := Lib.hid (CU.out.done (Nat.le_of_lt HQ.out.2.2.2.2.2.2.1) (Nat.le_of_lt HQ.out.2.2.2.2.2.2.2) HP2.out HO2.out (Pm.refl _ _ _) HO3.out)
              have HG := Lib.hid (RP.out.wide HQ.out.1 HQ.out.2.2.2.1)
              clear x1 x2
              go_wp2_with fail
              go_end0
              exact ⟨rfl, _, HX2.out, HG.out.trans HF.out.1, HF.out.2, HE2.out⟩
            · have y5 := lt_f (Nat.not_lt.1 x1)
              have HO3 := Lib.hid ((CU.out.right (fun h => x1 h.1) HQ.out.2.2.2.2.2.1 HQ.out.2.2.2.1).congr fun k q1 q2 => HP2.out.out k (.inr q1))
              have HF := Lib.hid (CU.out.done (Nat.le_of_lt HQ.out.2.2.2.2.2.2.1) (Nat.le_of_lt HQ.out.2.2.2.2.2.2.2) HP2.out HO2.out (Pm.refl _ _ _) HO3.out)
              have HG := Lib.hid (RP.out.wide HQ.out.1 HQ.out.2.2.2.1)
              clear x1
              go_wp2_with fail
              go_end0
              exact ⟨rfl, _, HX2.out, HG.out.trans HF.out.1, HF.out.2, HE2.out⟩
          · have y3 := lt_t x1
            have y4 := lt_f (Nat.not_lt.1 x2)
            have HX2 := HX1
            have HE2 := HE1
            have HP2 := Lib.hid (Pm.refl a d T)
            have HO2 := Lib.hid (CU.out.left (fun h => x2 h.2) HQ.out.1 HQ.out.2.2.2.2.1)
            clear x1 x2
            have c3 := HC4.out
            clear HC4
            rcases c3 with ⟨x1, x2⟩ | ⟨x1, x2⟩ | x1
            · have y5 := lt_t x1
              have y6 := lt_t x2
              have HN := Lib.hid (show So r T d e ∧ So r T e b ∧ Lw T d e b from ⟨CU.out.b1.congr fun k q1 q2 => HP2.out.out k (.inr q1), CU.out.b2.congr fun k q1 q2 => HP2.out.out k (.inr (Nat.le_trans (Nat.le_of_lt x1) q1)), fun i j q1 q2 q3 q4 => by rw [HP2.out.out i (.inr q1), HP2.out.out j (.inr (Nat.le_trans (Nat.le_of_lt x1) q3))]; exact CU.out.bl i j q1 q2 q3 q4⟩)
              have D3 := Lib.hid (IH.out d e b T _ (by clear k2; have := HQ.out; omega) HX2.out (HC.out.ex HE2.out) x1 x2 HB.out.2.2.1 HN.out.1 HN.out.2.1 HN.out.2.2 (HP2.out.bd (by clear k2; have := HQ.out; have := HB.out; omega) HV2.out))
              clear x1 x2
              go_wp2_with fail
              refine D3.out.mono ?_
              rintro e' w3 ⟨rfl, T2, hX3, hP3, hO3, hE3⟩
              have HX3 := Lib.hid hX3
              have HP3 := Lib.hid hP3
              have HO3 := Lib.hid hO3
              have HE3 := Lib.hid (HE2.out.trans hE3)
              clear hX3 hP3 hO3 hE3
              have HF := Lib.hid (CU.out.done (Nat.le_of_lt HQ.out.2.2.2.2.2.2.1) (Nat.le_of_lt HQ.out.2.2.2.2.2.2.2) HP2.out HO2.out HP3.out HO3.out)
              have HG := Lib.hid (RP.out.wide HQ.out.1 HQ.out.2.2.2.1)
              go_wp2_with fail
              go_end0
              exact ⟨rfl, T2, HX3.out, HG.out.trans HF.out.1, HF.out.2, HE3.out⟩
            · have y5 := lt_t x1
              have y6 := lt_f (Nat.not_lt.1 x2)
              have HO3 := Lib.hid ((CU.out.right (fun h => x2 h.2) HQ.out.2.2.2.2.2.1 HQ.out.2.2.2.1).congr fun k q1 q2 => HP2.out.out k (.inr q1))
              have HF := Lib.hid (CU.out.done (Nat.le_of_lt HQ.out.2.2.2.2.2.2.1) (Nat.le_of_lt HQ.out.2.2.2.2.2.2.2) HP2.out HO2.out (Pm.refl _ _ _) HO3.out)
              have HG := Lib.hid (RP.out.wide HQ.out.1 HQ.out.2.2.2.1)
              clear x1 x2
              go_wp2_with fail
              go_end0
              exact ⟨rfl, _, HX2.out, HG.out.trans HF.out.1, HF.out.2, HE2.out⟩
            · have y5 := lt_f (Nat.not_lt.1 x1)
              have HO3 := Lib.hid ((CU.out.right (fun h => x1 h.1) HQ.out.2.2.2.2.2.1 HQ.out.2.2.2.1).congr fun k q1 q2 => HP2.out.out k (.inr q1))
              have HF := Lib.hid (CU.out.done (Nat.le_of_lt HQ.out.2.2.2.2.2.2.1) (Nat.le_of_lt HQ.out.2.2.2.2.2.2.2) HP2.out HO2.out (Pm.refl _ _ _) HO3.out)
              have HG := Lib.hid (RP.out.wide HQ.out.1 HQ.out.2.2.2.1)
              clear x1
              go_wp2_with fail
              go_end0
              exact ⟨rfl, _, HX2.out, HG.out.trans HF.out.1, HF.out.2, HE2.out⟩
          · have y3 := lt_f (Nat.not_lt.1 x1)
            have HX2 := HX1
            have HE2 := HE1
            have HP2 := Lib.hid (Pm.refl a d T)
            have HO2 := Lib.hid (CU.out.left (fun h => x1 h.1) HQ.out.1 HQ.out.2.2.2.2.1)
            clear x1
            have c3 := HC4.out
            clear HC4
            rcases c3 with ⟨x1, x2⟩ | ⟨x1, x2⟩ | x1
            · have y5 := lt_t x1
              have y6 := lt_t x2
              have HN := Lib.hid (show So r T d e ∧ So r T e b ∧ Lw T d e b from ⟨CU.out.b1.congr fun k q1 q2 => HP2.out.out k (.inr q1), CU.out.b2.congr fun k q1 q2 => HP2.out.out k (.inr (Nat.le_trans (Nat.le_of_lt x1) q1)), fun i j q1 q2 q3 q4 => by rw [HP2.out.out i (.inr q1), HP2.out.out j (.inr (Nat.le_trans (Nat.le_of_lt x1) q3))]; exact CU.out.bl i j q1 q2 q3 q4⟩)
              have D3 := Lib.hid (IH.out d e b T _ (by clear k2; have := HQ.out; omega) HX2.out (HC.out.ex HE2.out) x1 x2 HB.out.2.2.1 HN.out.1 HN.out.2.1 HN.out.2.2 (HP2.out.bd (by clear k2; have := HQ.out; have := HB.out; omega) HV2.out))
              clear x1 x2
              go_wp2_with fail
              refine D3.out.mono ?_
              rintro e' w3 ⟨rfl, T2, hX3, hP3, hO3, hE3⟩
              have HX3 := Lib.hid hX3
              have HP3 := Lib.hid hP3
              have HO3 := Lib.hid hO3
              have HE3 := Lib.hid (HE2.out.trans hE3)
              clear hX3 hP3 hO3 hE3
              have HF := Lib.hid (CU.out.done (Nat.le_of_lt HQ.out.2.2.2.2.2.2.1) (Nat.le_of_lt HQ.out.2.2.2.2.2.2.2) HP2.out HO2.out HP3.out HO3.out)
              have HG := Lib.hid (RP.out.wide HQ.out.1 HQ.out.2.2.2.1)
              go_wp2_with fail
              go_end0
              exact ⟨rfl, T2, HX3.out, HG.out.trans HF.out.1, HF.out.2, HE3.out⟩
            · have y5 := lt_t x1
              have y6 := lt_f (Nat.not_lt.1 x2)
              have HO3 := Lib.hid ((CU.out.right (fun h => x2 h.2) HQ.out.2.2.2.2.2.1 HQ.out.2.2.2.1).congr fun k q1 q2 => HP2.out.out k (.inr q1))
              have HF := Lib.hid (CU.out.done (Nat.le_of_lt HQ.out.2.2.2.2.2.2.1) (Nat.le_of_lt HQ.out.2.2.2.2.2.2.2) HP2.out HO2.out (Pm.refl _ _ _) HO3.out)
              have HG := Lib.hid (RP.out.wide HQ.out.1 HQ.out.2.2.2.1)
              clear x1 x2
              go_wp2_with fail
              go_end0
              exact ⟨rfl, _, HX2.out, HG.out.trans HF.out.1, HF.out.2, HE2.out⟩
            · have y5 := lt_f (Nat.not_lt.1 x1)
              have HO3 := Lib.hid ((CU.out.right (fun h => x1 h.1) HQ.out.2.2.2.2.2.1 HQ.out.2.2.2.1).congr fun k q1 q2 => HP2.out.out k (.inr q1))
              have HF := Lib.hid (CU.out.done (Nat.le_of_lt HQ.out.2.2.2.2.2.2.1) (Nat.le_of_lt HQ.out.2.2.2.2.2.2.2) HP2.out HO2.out (Pm.refl _ _ _) HO3.out)
              have HG := Lib.hid (RP.out.wide HQ.out.1 HQ.out.2.2.2.1)
              clear x1
              go_wp2_with fail
              go_end0
              exact ⟨rfl, _, HX2.out, HG.out.trans HF.out.1, HF.out.2, HE2.out⟩
  · have HS := Lib.hid hS
    have z3 := lt_f hdm
    obtain ⟨s0, hs0⟩ : ∃ s0, s0 = a := ⟨_, rfl⟩
    obtain ⟨r0, hr0⟩ : ∃ r0, r0 = m := ⟨_, rfl⟩
    have K9 := Lib.hid (show True from trivial)
    have HS : Hid (Sch a m b d t s0 r0) := Lib.hid (by rw [hs0, hr0]; exact hS)
    have HD := Lib.hid (And.intro hs0 hr0)
    clear hdm hS hs0 hr0 HC2
    go_enter Try.func46, Try.ntmps46
    have k1 := K1.out
    have k2 := K2.out
    have k3 := K3.out
    have k4 := K4.out
    have k5 := K5.out
    have k6 := K6.out
    have k7 := K7.out
    have k8 := K8.out
    have k9 := K9.out
    go_wp2_with fail
    rw [k6, k7, k8]
    clear k1 k2 k3 k4 k5 k6 k7 k8 k9 z1 z2 z3
    go_loopw [20, 21, 23] (fun v u _ wr => ∃ s e : Nat, v = .int .i64 s ∧ u = .int .i64 e ∧ Hid (Sit r S t s0 r0 s e) ∧ Hid (RowAt wr g n S) ∧ Hid (Ex g W wr)) (fun v u _ _ => (intOf u).toNat - (intOf v).toNat)
    · exact ⟨s0, r0, by first | rfl | rw [HD.out.1], by first | rfl | rw [HD.out.2], Lib.hid ⟨Nat.le_refl _, HS.out.sr, Nat.le_refl _, .inl rfl, .inl rfl⟩, HR, Lib.hid (Ex.refl _ _)⟩
    · obtain ⟨s, e, rfl, rfl, HI, HX, HE⟩ := hrel
      by_cases hlt : s < e
      · have z1 := lt_t hlt
        have hB := HB.out
        have hpp := HP.out
        obtain ⟨d0, d1, hte, a0, sr, rm, e0, e1, _, _⟩ := HS.out
        obtain ⟨h0, h1, h2, _, _⟩ := HI.out
        obtain ⟨h, hh⟩ := named ((s + e) / 2)
        obtain ⟨y, hy⟩ := named (s + e)
        obtain ⟨x, hx⟩ := named (p - h)
        have K2 := Lib.hid (show wrap64 ((s : Int) + (e : Int)) = (y : Int) from wr64 (by omega) (by omega))
        have K3 := Lib.hid (show IntKind.u64.wrap (y : Int) = (y : Int) from u64i (by omega))
        have K4 := Lib.hid (show (y : Int) / 2 = (h : Int) by omega)
        have K5 := Lib.hid (show wrap64 (h : Int) = (h : Int) from wr64 rfl (by omega))
        have K6 := Lib.hid (show wrap64 ((h : Int) + 1) = ((h + 1 : Nat) : Int) from wr64 (by omega) (by omega))
        have K7 := Lib.hid (show IntKind.i64.wrap ((p : Int) - (h : Int)) = (x : Int) from by rw [IntKind.wrap_i64]; omega)
        have c1 := HX.out.c h (by omega)
        have c2 := HX.out.c x (by omega)
        have lt := HLw.out h x (by omega) (by omega) (by omega) (by omega)
        have D := Lib.hid (fun k => HC.out.less HE.out (x := S x) (y := S h) (HV.out x (by omega)) (HV.out h (by omega)) k)
        have i1 : (h : Int) < (n : Int) := by omega
        have i2 : (x : Int) < (n : Int) := by omega
        have HH := Lib.hid (show s ≤ h ∧ h < e by omega)
        have hd : r (S h) < r (S x) ∨ ¬ r (S h) < r (S x) := Decidable.em _
        rcases hd with hc | hc
        · have hneg := (cv_neg (r (S h)) (r (S x))).2 hc
          have HI2 := Lib.hid (show Sit r S t s0 r0 s h from ⟨h0, by omega, by omega, HI.out.l, .inr (by rw [show t - h - 1 = x by omega]; exact (bef_of_lt lt).2 hc)⟩)
          obtain ⟨v, hv⟩ := named (cv (r (S h)) (r (S x)))
          rw [hv] at D hneg
          have z5 : (v < 0) = True := eq_true hneg
          generalize S h = th at *
          generalize S x = ta at *
          clear hlt hB hpp d0 d1 hte a0 sr rm e0 e1 h0 h1 h2 hh hy hx lt hc hneg hv
          have k2 := K2.out
          have k3 := K3.out
          have k4 := K4.out
          have k5 := K5.out
          have k7 := K7.out
          go_wp2_with fail
          go_quiet (first | (go_at_call 32; refine Calls.quiet_of (D.out _)))
          rename_i nq
          go_wp2_with fail
          clear k2 k3 k4 k5 k7
          go_roundw
          case rel => exact ⟨s, h, rfl, by first | rfl | rw [K5.out], HI2, Lib.hid (HX.out.drewN nq), Lib.hid (HE.out.drewN nq)⟩
          case measure => first | rw [K5.out] | skip
                          have h1 := HH.out; clear K2 K3 K4 K5 K6 K7; simp only [intOf]; omega
        · have hneg : ¬ cv (r (S h)) (r (S x)) < 0 := fun e => hc ((cv_neg _ _).1 e)
          have HI2 := Lib.hid (show Sit r S t s0 r0 (h + 1) e from ⟨by omega, by omega, by omega, .inr (by rw [show t - (h + 1) = x by omega]; exact bef_not lt hc), HI.out.r⟩)
          obtain ⟨v, hv⟩ := named (cv (r (S h)) (r (S x)))
          rw [hv] at D hneg
          have z5 : (v < 0) = False := eq_false hneg
          generalize S h = th at *
          generalize S x = ta at *
          clear hlt hB hpp d0 d1 hte a0 sr rm e0 e1 h0 h1 h2 hh hy hx lt hc hneg hv
          have k2 := K2.out
          have k3 := K3.out
          have k4 := K4.out
          have k5 := K5.out
          have k7 := K7.out
          go_wp2_with fail
          go_quiet (first | (go_at_call 32; refine Calls.quiet_of (D.out _)))
          rename_i nq
          go_wp2_with fail
          clear k2 k3 k4 k5 k7
          go_roundw
          case rel => exact ⟨h + 1, e, by first | rfl | rw [K6.out], rfl, HI2, Lib.hid (HX.out.drewN nq), Lib.hid (HE.out.drewN nq)⟩
          case measure => first | rw [K6.out] | skip
                          have h1 := HH.out; clear K2 K3 K4 K5 K6 K7; simp only [intOf]; omega
      · obtain rfl : s = e := by have := HI.out.h1; omega
        have z1 := lt_f (Nat.le_refl s)
        have hB := HB.out
        have hpp := HP.out
        have hM := HI.out.mrg HS.out
        have CU := Lib.hid (hM.cut HS1.out HS2.out HLw.out)
        obtain ⟨d0, d1, hte, _, _, _, _, _, _, _⟩ := HS.out
        have hsd : s ≤ d := by have h1 := HI.out.h2; have h2 := HS.out.e0; have h3 := HS.out.te; omega
        obtain ⟨s0', s1', e0', e1', _, _⟩ := hM
        obtain ⟨e, he⟩ := named (t - s)
        rw [he] at CU e0' e1'
        rw [show s + (e - m) = d by omega] at CU
        have K2 := Lib.hid (show wrap64 ((t : Int) - (s : Int)) = (e : Int) from wr64 (by omega) (by omega))
        have RP := Lib.hid (rot_pm S (a := s) (m := m) (b := e) s1' e0')
        have HV2 := Lib.hid (RP.out.bd (n := n) (by omega) HV.out)
        have HQ := Lib.hid (show a ≤ s ∧ s ≤ m ∧ m ≤ e ∧ e ≤ b ∧ s ≤ d ∧ d ≤ e ∧ a < d ∧ d < b by omega)
        clear hlt hB hpp d0 d1 hte s0' s1' e0' e1' he HI HS hsd
        have k2 := K2.out
        have c1 : (s < m ∧ m < e) ∨ (s < m ∧ ¬ m < e) ∨ ¬ s < m := by clear k2; omega
        have c2 : (a < s ∧ s < d) ∨ (a < s ∧ ¬ s < d) ∨ ¬ a < s := by clear k2; omega
        have c3 : (d < e ∧ e < b) ∨ (d < e ∧ ¬ e < b) ∨ ¬ d < e := by clear k2; omega
        have HC3 := Lib.hid (And.intro c2 c3)
        clear c2 c3
        rcases c1 with ⟨x1, x2⟩ | ⟨x1, x2⟩ | x1
        · have y1 := lt_t x1
          have y2 := lt_t x2
          have D := Lib.hid (RO.out s m e S wr HX.out x1 x2 (by clear k2; have := HQ.out; have := HB.out; omega))
          clear x1 x2
          go_wp2_with fail
          refine D.out.mono ?_
          rintro e' w1 ⟨rfl, hX1, hE1⟩
          have HX1 := Lib.hid hX1
          have HE1 := Lib.hid (HE.out.trans hE1)
          clear hX1 hE1
          obtain ⟨c2, c3⟩ := HC3.out
          have HC4 := Lib.hid c3
          clear c3 HC3
          generalize rot S s m e = T at *
          rcases c2 with ⟨x1, x2⟩ | ⟨x1, x2⟩ | x1
          · have y3 := lt_t x1
            have y4 := lt_t x2
            have D2 := Lib.hid (IH.out a s d T _ (by clear k2; have := HQ.out; omega) HX1.out (HC.out.ex HE1.out) x1 x2 (by clear k2; have := HQ.out; have := HB.out; omega) CU.out.a1 CU.out.a2 CU.out.al HV2.out)
            clear x1 x2
            go_wp2_with fail
            refine D2.out.mono ?_
            rintro e' w2 ⟨rfl, T1, hX2, hP2, hO2, hE2⟩
            have HX2 := Lib.hid hX2
            have HP2 := Lib.hid hP2
            have HO2 := Lib.hid hO2
            have HE2 := Lib.hid (HE1.out.trans hE2)
            clear hX2 hP2 hO2 hE2
            have c3 := HC4.out
            clear HC4
            rcases c3 with ⟨x1, x2⟩ | ⟨x1, x2⟩ | x1
            · have y5 := lt_t x1
              have y6 := lt_t x2
              have HN := Lib.hid (show So r T1 d e ∧ So r T1 e b ∧ Lw T1 d e b from ⟨CU.out.b1.congr fun k q1 q2 => HP2.out.out k (.inr q1), CU.out.b2.congr fun k q1 q2 => HP2.out.out k (.inr (Nat.le_trans (Nat.le_of_lt x1) q1)), fun i j q1 q2 q3 q4 => by rw [HP2.out.out i (.inr q1), HP2.out.out j (.inr (Nat.le_trans (Nat.le_of_lt x1) q3))]; exact CU.out.bl i j q1 q2 q3 q4⟩)
              have D3 := Lib.hid (IH.out d e b T1 _ (by clear k2; have := HQ.out; omega) HX2.out (HC.out.ex HE2.out) x1 x2 HB.out.2.2.1 HN.out.1 HN.out.2.1 HN.out.2.2 (HP2.out.bd (by clear k2; have := HQ.out; have := HB.out; omega) HV2.out))
              clear x1 x2
              go_wp2_with fail
              refine D3.out.mono ?_
              rintro e' w3 ⟨rfl, T2, hX3, hP3, hO3, hE3⟩
              have HX3 := Lib.hid hX3
              have HP3 := Lib.hid hP3
              have HO3 := Lib.hid hO3
              have HE3 := Lib.hid (HE2.out.trans hE3)
              clear hX3 hP3 hO3 hE3
              have HF := Lib.hid (CU.out.done (Nat.le_of_lt HQ.out.2.2.2.2.2.2.1) (Nat.le_of_lt HQ.out.2.2.2.2.2.2.2) HP2.out HO2.out HP3.out HO3.out)
              have HG := Lib.hid (RP.out.wide HQ.out.1 HQ.out.2.2.2.1)
              go_wp2_with fail
              go_end0
              exact ⟨rfl, T2, HX3.out, HG.out.trans HF.out.1, HF.out.2, HE3.out⟩
            · have y5 := lt_t x1
              have y6 := lt_f (Nat.not_lt.1 x2)
              have HO3 := Lib.hid ((CU.out.right (fun h => x2 h.2) HQ.out.2.2.2.2.2.1 HQ.out.2.2.2.1).congr fun k q1 q2 => HP2.out.out k (.inr q1))
              have HF := Lib.hid (CU.out.done (Nat.le_of_lt HQ.out.2.2.2.2.2.2.1) (Nat.le_of_lt HQ.out.2.2.2.2.2.2.2) HP2.out HO2.out (Pm.refl _ _ _) HO3.out)
              have HG := Lib.hid (RP.out.wide HQ.out.1 HQ.out.2.2.2.1)
              clear x1 x2
              go_wp2_with fail
              go_end0
              exact ⟨rfl, _, HX2.out, HG.out.trans HF.out.1, HF.out.2, HE2.out⟩
            · have y5 := lt_f (Nat.not_lt.1 x1)
              have HO3 := Lib.hid ((CU.out.right (fun h => x1 h.1) HQ.out.2.2.2.2.2.1 HQ.out.2.2.2.1).congr fun k q1 q2 => HP2.out.out k (.inr q1))
              have HF := Lib.hid (CU.out.done (Nat.le_of_lt HQ.out.2.2.2.2.2.2.1) (Nat.le_of_lt HQ.out.2.2.2.2.2.2.2) HP2.out HO2.out (Pm.refl _ _ _) HO3.out)
              have HG := Lib.hid (RP.out.wide HQ.out.1 HQ.out.2.2.2.1)
              clear x1
              go_wp2_with fail
              go_end0
              exact ⟨rfl, _, HX2.out, HG.out.trans HF.out.1, HF.out.2, HE2.out⟩
          · have y3 := lt_t x1
            have y4 := lt_f (Nat.not_lt.1 x2)
            have HX2 := HX1
            have HE2 := HE1
            have HP2 := Lib.hid (Pm.refl a d T)
            have HO2 := Lib.hid (CU.out.left (fun h => x2 h.2) HQ.out.1 HQ.out.2.2.2.2.1)
            clear x1 x2
            have c3 := HC4.out
            clear HC4
            rcases c3 with ⟨x1, x2⟩ | ⟨x1, x2⟩ | x1
            · have y5 := lt_t x1
              have y6 := lt_t x2
              have HN := Lib.hid (show So r T d e ∧ So r T e b ∧ Lw T d e b from ⟨CU.out.b1.congr fun k q1 q2 => HP2.out.out k (.inr q1), CU.out.b2.congr fun k q1 q2 => HP2.out.out k (.inr (Nat.le_trans (Nat.le_of_lt x1) q1)), fun i j q1 q2 q3 q4 => by rw [HP2.out.out i (.inr q1), HP2.out.out j (.inr (Nat.le_trans (Nat.le_of_lt x1) q3))]; exact CU.out.bl i j q1 q2 q3 q4⟩)
              have D3 := Lib.hid (IH.out d e b T _ (by clear k2; have := HQ.out; omega) HX2.out (HC.out.ex HE2.out) x1 x2 HB.out.2.2.1 HN.out.1 HN.out.2.1 HN.out.2.2 (HP2.out.bd (by clear k2; have := HQ.out; have := HB.out; omega) HV2.out))
              clear x1 x2
              go_wp2_with fail
              refine D3.out.mono ?_
              rintro e' w3 ⟨rfl, T2, hX3, hP3, hO3, hE3⟩
              have HX3 := Lib.hid hX3
              have HP3 := Lib.hid hP3
              have HO3 := Lib.hid hO3
              have HE3 := Lib.hid (HE2.out.trans hE3)
              clear hX3 hP3 hO3 hE3
              have HF := Lib.hid (CU.out.done (Nat.le_of_lt HQ.out.2.2.2.2.2.2.1) (Nat.le_of_lt HQ.out.2.2.2.2.2.2.2) HP2.out HO2.out HP3.out HO3.out)
              have HG := Lib.hid (RP.out.wide HQ.out.1 HQ.out.2.2.2.1)
              go_wp2_with fail
              go_end0
              exact ⟨rfl, T2, HX3.out, HG.out.trans HF.out.1, HF.out.2, HE3.out⟩
            · have y5 := lt_t x1
              have y6 := lt_f (Nat.not_lt.1 x2)
              have HO3 := Lib.hid ((CU.out.right (fun h => x2 h.2) HQ.out.2.2.2.2.2.1 HQ.out.2.2.2.1).congr fun k q1 q2 => HP2.out.out k (.inr q1))
              have HF := Lib.hid (CU.out.done (Nat.le_of_lt HQ.out.2.2.2.2.2.2.1) (Nat.le_of_lt HQ.out.2.2.2.2.2.2.2) HP2.out HO2.out (Pm.refl _ _ _) HO3.out)
              have HG := Lib.hid (RP.out.wide HQ.out.1 HQ.out.2.2.2.1)
              clear x1 x2
              go_wp2_with fail
              go_end0
              exact ⟨rfl, _, HX2.out, HG.out.trans HF.out.1, HF.out.2, HE2.out⟩
            · have y5 := lt_f (Nat.not_lt.1 x1)
              have HO3 := Lib.hid ((CU.out.right (fun h => x1 h.1) HQ.out.2.2.2.2.2.1 HQ.out.2.2.2.1).congr fun k q1 q2 => HP2.out.out k (.inr q1))
              have HF := Lib.hid (CU.out.done (Nat.le_of_lt HQ.out.2.2.2.2.2.2.1) (Nat.le_of_lt HQ.out.2.2.2.2.2.2.2) HP2.out HO2.out (Pm.refl _ _ _) HO3.out)
              have HG := Lib.hid (RP.out.wide HQ.out.1 HQ.out.2.2.2.1)
              clear x1
              go_wp2_with fail
              go_end0
              exact ⟨rfl, _, HX2.out, HG.out.trans HF.out.1, HF.out.2, HE2.out⟩
          · have y3 := lt_f (Nat.not_lt.1 x1)
            have HX2 := HX1
            have HE2 := HE1
            have HP2 := Lib.hid (Pm.refl a d T)
            have HO2 := Lib.hid (CU.out.left (fun h => x1 h.1) HQ.out.1 HQ.out.2.2.2.2.1)
            clear x1
            have c3 := HC4.out
            clear HC4
            rcases c3 with ⟨x1, x2⟩ | ⟨x1, x2⟩ | x1
            · have y5 := lt_t x1
              have y6 := lt_t x2
              have HN := Lib.hid (show So r T d e ∧ So r T e b ∧ Lw T d e b from ⟨CU.out.b1.congr fun k q1 q2 => HP2.out.out k (.inr q1), CU.out.b2.congr fun k q1 q2 => HP2.out.out k (.inr (Nat.le_trans (Nat.le_of_lt x1) q1)), fun i j q1 q2 q3 q4 => by rw [HP2.out.out i (.inr q1), HP2.out.out j (.inr (Nat.le_trans (Nat.le_of_lt x1) q3))]; exact CU.out.bl i j q1 q2 q3 q4⟩)
              have D3 := Lib.hid (IH.out d e b T _ (by clear k2; have := HQ.out; omega) HX2.out (HC.out.ex HE2.out) x1 x2 HB.out.2.2.1 HN.out.1 HN.out.2.1 HN.out.2.2 (HP2.out.bd (by clear k2; have := HQ.out; have := HB.out; omega) HV2.out))
              clear x1 x2
              go_wp2_with fail
              refine D3.out.mono ?_
              rintro e' w3 ⟨rfl, T2, hX3, hP3, hO3, hE3⟩
              have HX3 := Lib.hid hX3
              have HP3 := Lib.hid hP3
              have HO3 := Lib.hid hO3
              have HE3 := Lib.hid (HE2.out.trans hE3)
              clear hX3 hP3 hO3 hE3
              have HF := Lib.hid (CU.out.done (Nat.le_of_lt HQ.out.2.2.2.2.2.2.1) (Nat.le_of_lt HQ.out.2.2.2.2.2.2.2) HP2.out HO2.out HP3.out HO3.out)
              have HG := Lib.hid (RP.out.wide HQ.out.1 HQ.out.2.2.2.1)
              go_wp2_with fail
              go_end0
              exact ⟨rfl, T2, HX3.out, HG.out.trans HF.out.1, HF.out.2, HE3.out⟩
            · have y5 := lt_t x1
              have y6 := lt_f (Nat.not_lt.1 x2)
              have HO3 := Lib.hid ((CU.out.right (fun h => x2 h.2) HQ.out.2.2.2.2.2.1 HQ.out.2.2.2.1).congr fun k q1 q2 => HP2.out.out k (.inr q1))
              have HF := Lib.hid (CU.out.done (Nat.le_of_lt HQ.out.2.2.2.2.2.2.1) (Nat.le_of_lt HQ.out.2.2.2.2.2.2.2) HP2.out HO2.out (Pm.refl _ _ _) HO3.out)
              have HG := Lib.hid (RP.out.wide HQ.out.1 HQ.out.2.2.2.1)
              clear x1 x2
              go_wp2_with fail
              go_end0
              exact ⟨rfl, _, HX2.out, HG.out.trans HF.out.1, HF.out.2, HE2.out⟩
            · have y5 := lt_f (Nat.not_lt.1 x1)
              have HO3 := Lib.hid ((CU.out.right (fun h => x1 h.1) HQ.out.2.2.2.2.2.1 HQ.out.2.2.2.1).congr fun k q1 q2 => HP2.out.out k (.inr q1))
              have HF := Lib.hid (CU.out.done (Nat.le_of_lt HQ.out.2.2.2.2.2.2.1) (Nat.le_of_lt HQ.out.2.2.2.2.2.2.2) HP2.out HO2.out (Pm.refl _ _ _) HO3.out)
              have HG := Lib.hid (RP.out.wide HQ.out.1 HQ.out.2.2.2.1)
              clear x1
              go_wp2_with fail
              go_end0
              exact ⟨rfl, _, HX2.out, HG.out.trans HF.out.1, HF.out.2, HE2.out⟩
        · have y1 := lt_t x1
          have y2 := lt_f (Nat.not_lt.1 x2)
          have HX1 : Hid (RowAt wr g n (rot S s m e)) := Lib.hid (by clear k2; have h := HQ.out; rw [rot_same S h.2.1 h.2.2.1 (fun h => x2 h.2)]; exact HX.out)
          have HE1 := HE
          clear x1 x2
          obtain ⟨c2, c3⟩ := HC3.out
          have HC4 := Lib.hid c3
          clear c3 HC3
          generalize rot S s m e = T at *
          rcases c2 with ⟨x1, x2⟩ | ⟨x1, x2⟩ | x1
          · have y3 := lt_t x1
            have y4 := lt_t x2
            have D2 := Lib.hid (IH.out a s d T _ (by clear k2; have := HQ.out; omega) HX1.out (HC.out.ex HE1.out) x1 x2 (by clear k2; have := HQ.out; have := HB.out; omega) CU.out.a1 CU.out.a2 CU.out.al HV2.out)
            clear x1 x2
            go_wp2_with fail
            refine D2.out.mono ?_
            rintro e' w2 ⟨rfl, T1, hX2, hP2, hO2, hE2⟩
            have HX2 := Lib.hid hX2
            have HP2 := Lib.hid hP2
            have HO2 := Lib.hid hO2
            have HE2 := Lib.hid (HE1.out.trans hE2)
            clear hX2 hP2 hO2 hE2
            have c3 := HC4.out
            clear HC4
            rcases c3 with ⟨x1, x2⟩ | ⟨x1, x2⟩ | x1
            · have y5 := lt_t x1
              have y6 := lt_t x2
              have HN := Lib.hid (show So r T1 d e ∧ So r T1 e b ∧ Lw T1 d e b from ⟨CU.out.b1.congr fun k q1 q2 => HP2.out.out k (.inr q1), CU.out.b2.congr fun k q1 q2 => HP2.out.out k (.inr (Nat.le_trans (Nat.le_of_lt x1) q1)), fun i j q1 q2 q3 q4 => by rw [HP2.out.out i (.inr q1), HP2.out.out j (.inr (Nat.le_trans (Nat.le_of_lt x1) q3))]; exact CU.out.bl i j q1 q2 q3 q4⟩)
              have D3 := Lib.hid (IH.out d e b T1 _ (by clear k2; have := HQ.out; omega) HX2.out (HC.out.ex HE2.out) x1 x2 HB.out.2.2.1 HN.out.1 HN.out.2.1 HN.out.2.2 (HP2.out.bd (by clear k2; have := HQ.out; have := HB.out; omega) HV2.out))
              clear x1 x2
              go_wp2_with fail
              refine D3.out.mono ?_
              rintro e' w3 ⟨rfl, T2, hX3, hP3, hO3, hE3⟩
              have HX3 := Lib.hid hX3
              have HP3 := Lib.hid hP3
              have HO3 := Lib.hid hO3
              have HE3 := Lib.hid (HE2.out.trans hE3)
              clear hX3 hP3 hO3 hE3
              have HF := Lib.hid (CU.out.done (Nat.le_of_lt HQ.out.2.2.2.2.2.2.1) (Nat.le_of_lt HQ.out.2.2.2.2.2.2.2) HP2.out HO2.out HP3.out HO3.out)
              have HG := Lib.hid (RP.out.wide HQ.out.1 HQ.out.2.2.2.1)
              go_wp2_with fail
              go_end0
              exact ⟨rfl, T2, HX3.out, HG.out.trans HF.out.1, HF.out.2, HE3.out⟩
            · have y5 := lt_t x1
              have y6 := lt_f (Nat.not_lt.1 x2)
              have HO3 := Lib.hid ((CU.out.right (fun h => x2 h.2) HQ.out.2.2.2.2.2.1 HQ.out.2.2.2.1).congr fun k q1 q2 => HP2.out.out k (.inr q1))
              have HF := Lib.hid (CU.out.done (Nat.le_of_lt HQ.out.2.2.2.2.2.2.1) (Nat.le_of_lt HQ.out.2.2.2.2.2.2.2) HP2.out HO2.out (Pm.refl _ _ _) HO3.out)
              have HG := Lib.hid (RP.out.wide HQ.out.1 HQ.out.2.2.2.1)
              clear x1 x2
              go_wp2_with fail
              go_end0
              exact ⟨rfl, _, HX2.out, HG.out.trans HF.out.1, HF.out.2, HE2.out⟩
            · have y5 := lt_f (Nat.not_lt.1 x1)
              have HO3 := Lib.hid ((CU.out.right (fun h => x1 h.1) HQ.out.2.2.2.2.2.1 HQ.out.2.2.2.1).congr fun k q1 q2 => HP2.out.out k (.inr q1))
              have HF := Lib.hid (CU.out.done (Nat.le_of_lt HQ.out.2.2.2.2.2.2.1) (Nat.le_of_lt HQ.out.2.2.2.2.2.2.2) HP2.out HO2.out (Pm.refl _ _ _) HO3.out)
              have HG := Lib.hid (RP.out.wide HQ.out.1 HQ.out.2.2.2.1)
              clear x1
              go_wp2_with fail
              go_end0
              exact ⟨rfl, _, HX2.out, HG.out.trans HF.out.1, HF.out.2, HE2.out⟩
          · have y3 := lt_t x1
            have y4 := lt_f (Nat.not_lt.1 x2)
            have HX2 := HX1
            have HE2 := HE1
            have HP2 := Lib.hid (Pm.refl a d T)
            have HO2 := Lib.hid (CU.out.left (fun h => x2 h.2) HQ.out.1 HQ.out.2.2.2.2.1)
            clear x1 x2
            have c3 := HC4.out
            clear HC4
            rcases c3 with ⟨x1, x2⟩ | ⟨x1, x2⟩ | x1
            · have y5 := lt_t x1
              have y6 := lt_t x2
              have HN := Lib.hid (show So r T d e ∧ So r T e b ∧ Lw T d e b from ⟨CU.out.b1.congr fun k q1 q2 => HP2.out.out k (.inr q1), CU.out.b2.congr fun k q1 q2 => HP2.out.out k (.inr (Nat.le_trans (Nat.le_of_lt x1) q1)), fun i j q1 q2 q3 q4 => by rw [HP2.out.out i (.inr q1), HP2.out.out j (.inr (Nat.le_trans (Nat.le_of_lt x1) q3))]; exact CU.out.bl i j q1 q2 q3 q4⟩)
              have D3 := Lib.hid (IH.out d e b T _ (by clear k2; have := HQ.out; omega) HX2.out (HC.out.ex HE2.out) x1 x2 HB.out.2.2.1 HN.out.1 HN.out.2.1 HN.out.2.2 (HP2.out.bd (by clear k2; have := HQ.out; have := HB.out; omega) HV2.out))
              clear x1 x2
              go_wp2_with fail
              refine D3.out.mono ?_
              rintro e' w3 ⟨rfl, T2, hX3, hP3, hO3, hE3⟩
              have HX3 := Lib.hid hX3
              have HP3 := Lib.hid hP3
              have HO3 := Lib.hid hO3
              have HE3 := Lib.hid (HE2.out.trans hE3)
              clear hX3 hP3 hO3 hE3
              have HF := Lib.hid (CU.out.done (Nat.le_of_lt HQ.out.2.2.2.2.2.2.1) (Nat.le_of_lt HQ.out.2.2.2.2.2.2.2) HP2.out HO2.out HP3.out HO3.out)
              have HG := Lib.hid (RP.out.wide HQ.out.1 HQ.out.2.2.2.1)
              go_wp2_with fail
              go_end0
              exact ⟨rfl, T2, HX3.out, HG.out.trans HF.out.1, HF.out.2, HE3.out⟩
            · have y5 := lt_t x1
              have y6 := lt_f (Nat.not_lt.1 x2)
              have HO3 := Lib.hid ((CU.out.right (fun h => x2 h.2) HQ.out.2.2.2.2.2.1 HQ.out.2.2.2.1).congr fun k q1 q2 => HP2.out.out k (.inr q1))
              have HF := Lib.hid (CU.out.done (Nat.le_of_lt HQ.out.2.2.2.2.2.2.1) (Nat.le_of_lt HQ.out.2.2.2.2.2.2.2) HP2.out HO2.out (Pm.refl _ _ _) HO3.out)
              have HG := Lib.hid (RP.out.wide HQ.out.1 HQ.out.2.2.2.1)
              clear x1 x2
              go_wp2_with fail
              go_end0
              exact ⟨rfl, _, HX2.out, HG.out.trans HF.out.1, HF.out.2, HE2.out⟩
            · have y5 := lt_f (Nat.not_lt.1 x1)
              have HO3 := Lib.hid ((CU.out.right (fun h => x1 h.1) HQ.out.2.2.2.2.2.1 HQ.out.2.2.2.1).congr fun k q1 q2 => HP2.out.out k (.inr q1))
              have HF := Lib.hid (CU.out.done (Nat.le_of_lt HQ.out.2.2.2.2.2.2.1) (Nat.le_of_lt HQ.out.2.2.2.2.2.2.2) HP2.out HO2.out (Pm.refl _ _ _) HO3.out)
              have HG := Lib.hid (RP.out.wide HQ.out.1 HQ.out.2.2.2.1)
              clear x1
              go_wp2_with fail
              go_end0
              exact ⟨rfl, _, HX2.out, HG.out.trans HF.out.1, HF.out.2, HE2.out⟩
          · have y3 := lt_f (Nat.not_lt.1 x1)
            have HX2 := HX1
            have HE2 := HE1
            have HP2 := Lib.hid (Pm.refl a d T)
            have HO2 := Lib.hid (CU.out.left (fun h => x1 h.1) HQ.out.1 HQ.out.2.2.2.2.1)
            clear x1
            have c3 := HC4.out
            clear HC4
            rcases c3 with ⟨x1, x2⟩ | ⟨x1, x2⟩ | x1
            · have y5 := lt_t x1
              have y6 := lt_t x2
              have HN := Lib.hid (show So r T d e ∧ So r T e b ∧ Lw T d e b from ⟨CU.out.b1.congr fun k q1 q2 => HP2.out.out k (.inr q1), CU.out.b2.congr fun k q1 q2 => HP2.out.out k (.inr (Nat.le_trans (Nat.le_of_lt x1) q1)), fun i j q1 q2 q3 q4 => by rw [HP2.out.out i (.inr q1), HP2.out.out j (.inr (Nat.le_trans (Nat.le_of_lt x1) q3))]; exact CU.out.bl i j q1 q2 q3 q4⟩)
              have D3 := Lib.hid (IH.out d e b T _ (by clear k2; have := HQ.out; omega) HX2.out (HC.out.ex HE2.out) x1 x2 HB.out.2.2.1 HN.out.1 HN.out.2.1 HN.out.2.2 (HP2.out.bd (by clear k2; have := HQ.out; have := HB.out; omega) HV2.out))
              clear x1 x2
              go_wp2_with fail
              refine D3.out.mono ?_
              rintro e' w3 ⟨rfl, T2, hX3, hP3, hO3, hE3⟩
              have HX3 := Lib.hid hX3
              have HP3 := Lib.hid hP3
              have HO3 := Lib.hid hO3
              have HE3 := Lib.hid (HE2.out.trans hE3)
              clear hX3 hP3 hO3 hE3
              have HF := Lib.hid (CU.out.done (Nat.le_of_lt HQ.out.2.2.2.2.2.2.1) (Nat.le_of_lt HQ.out.2.2.2.2.2.2.2) HP2.out HO2.out HP3.out HO3.out)
              have HG := Lib.hid (RP.out.wide HQ.out.1 HQ.out.2.2.2.1)
              go_wp2_with fail
              go_end0
              exact ⟨rfl, T2, HX3.out, HG.out.trans HF.out.1, HF.out.2, HE3.out⟩
            · have y5 := lt_t x1
              have y6 := lt_f (Nat.not_lt.1 x2)
              have HO3 := Lib.hid ((CU.out.right (fun h => x2 h.2) HQ.out.2.2.2.2.2.1 HQ.out.2.2.2.1).congr fun k q1 q2 => HP2.out.out k (.inr q1))
              have HF := Lib.hid (CU.out.done (Nat.le_of_lt HQ.out.2.2.2.2.2.2.1) (Nat.le_of_lt HQ.out.2.2.2.2.2.2.2) HP2.out HO2.out (Pm.refl _ _ _) HO3.out)
              have HG := Lib.hid (RP.out.wide HQ.out.1 HQ.out.2.2.2.1)
              clear x1 x2
              go_wp2_with fail
              go_end0
              exact ⟨rfl, _, HX2.out, HG.out.trans HF.out.1, HF.out.2, HE2.out⟩
            · have y5 := lt_f (Nat.not_lt.1 x1)
              have HO3 := Lib.hid ((CU.out.right (fun h => x1 h.1) HQ.out.2.2.2.2.2.1 HQ.out.2.2.2.1).congr fun k q1 q2 => HP2.out.out k (.inr q1))
              have HF := Lib.hid (CU.out.done (Nat.le_of_lt HQ.out.2.2.2.2.2.2.1) (Nat.le_of_lt HQ.out.2.2.2.2.2.2.2) HP2.out HO2.out (Pm.refl _ _ _) HO3.out)
              have HG := Lib.hid (RP.out.wide HQ.out.1 HQ.out.2.2.2.1)
              clear x1
              go_wp2_with fail
              go_end0
              exact ⟨rfl, _, HX2.out, HG.out.trans HF.out.1, HF.out.2, HE2.out⟩
        · have y1 := lt_f (Nat.not_lt.1 x1)
          have HX1 : Hid (RowAt wr g n (rot S s m e)) := Lib.hid (by clear k2; have h := HQ.out; rw [rot_same S h.2.1 h.2.2.1 (fun h => x1 h.1)]; exact HX.out)
          have HE1 := HE
          clear x1
          obtain ⟨c2, c3⟩ := HC3.out
          have HC4 := Lib.hid c3
          clear c3 HC3
          generalize rot S s m e = T at *
          rcases c2 with ⟨x1, x2⟩ | ⟨x1, x2⟩ | x1
          · have y3 := lt_t x1
            have y4 := lt_t x2
            have D2 := Lib.hid (IH.out a s d T _ (by clear k2; have := HQ.out; omega) HX1.out (HC.out.ex HE1.out) x1 x2 (by clear k2; have := HQ.out; have := HB.out; omega) CU.out.a1 CU.out.a2 CU.out.al HV2.out)
            clear x1 x2
            go_wp2_with fail
            refine D2.out.mono ?_
            rintro e' w2 ⟨rfl, T1, hX2, hP2, hO2, hE2⟩
            have HX2 := Lib.hid hX2
            have HP2 := Lib.hid hP2
            have HO2 := Lib.hid hO2
            have HE2 := Lib.hid (HE1.out.trans hE2)
            clear hX2 hP2 hO2 hE2
            have c3 := HC4.out
            clear HC4
            rcases c3 with ⟨x1, x2⟩ | ⟨x1, x2⟩ | x1
            · have y5 := lt_t x1
              have y6 := lt_t x2
              have HN := Lib.hid (show So r T1 d e ∧ So r T1 e b ∧ Lw T1 d e b from ⟨CU.out.b1.congr fun k q1 q2 => HP2.out.out k (.inr q1), CU.out.b2.congr fun k q1 q2 => HP2.out.out k (.inr (Nat.le_trans (Nat.le_of_lt x1) q1)), fun i j q1 q2 q3 q4 => by rw [HP2.out.out i (.inr q1), HP2.out.out j (.inr (Nat.le_trans (Nat.le_of_lt x1) q3))]; exact CU.out.bl i j q1 q2 q3 q4⟩)
              have D3 := Lib.hid (IH.out d e b T1 _ (by clear k2; have := HQ.out; omega) HX2.out (HC.out.ex HE2.out) x1 x2 HB.out.2.2.1 HN.out.1 HN.out.2.1 HN.out.2.2 (HP2.out.bd (by clear k2; have := HQ.out; have := HB.out; omega) HV2.out))
              clear x1 x2
              go_wp2_with fail
              refine D3.out.mono ?_
              rintro e' w3 ⟨rfl, T2, hX3, hP3, hO3, hE3⟩
              have HX3 := Lib.hid hX3
              have HP3 := Lib.hid hP3
              have HO3 := Lib.hid hO3
              have HE3 := Lib.hid (HE2.out.trans hE3)
              clear hX3 hP3 hO3 hE3
              have HF := Lib.hid (CU.out.done (Nat.le_of_lt HQ.out.2.2.2.2.2.2.1) (Nat.le_of_lt HQ.out.2.2.2.2.2.2.2) HP2.out HO2.out HP3.out HO3.out)
              have HG := Lib.hid (RP.out.wide HQ.out.1 HQ.out.2.2.2.1)
              go_wp2_with fail
              go_end0
              exact ⟨rfl, T2, HX3.out, HG.out.trans HF.out.1, HF.out.2, HE3.out⟩
            · have y5 := lt_t x1
              have y6 := lt_f (Nat.not_lt.1 x2)
              have HO3 := Lib.hid ((CU.out.right (fun h => x2 h.2) HQ.out.2.2.2.2.2.1 HQ.out.2.2.2.1).congr fun k q1 q2 => HP2.out.out k (.inr q1))
              have HF := Lib.hid (CU.out.done (Nat.le_of_lt HQ.out.2.2.2.2.2.2.1) (Nat.le_of_lt HQ.out.2.2.2.2.2.2.2) HP2.out HO2.out (Pm.refl _ _ _) HO3.out)
              have HG := Lib.hid (RP.out.wide HQ.out.1 HQ.out.2.2.2.1)
              clear x1 x2
              go_wp2_with fail
              go_end0
              exact ⟨rfl, _, HX2.out, HG.out.trans HF.out.1, HF.out.2, HE2.out⟩
            · have y5 := lt_f (Nat.not_lt.1 x1)
              have HO3 := Lib.hid ((CU.out.right (fun h => x1 h.1) HQ.out.2.2.2.2.2.1 HQ.out.2.2.2.1).congr fun k q1 q2 => HP2.out.out k (.inr q1))
              have HF := Lib.hid (CU.out.done (Nat.le_of_lt HQ.out.2.2.2.2.2.2.1) (Nat.le_of_lt HQ.out.2.2.2.2.2.2.2) HP2.out HO2.out (Pm.refl _ _ _) HO3.out)
              have HG := Lib.hid (RP.out.wide HQ.out.1 HQ.out.2.2.2.1)
              clear x1
              go_wp2_with fail
              go_end0
              exact ⟨rfl, _, HX2.out, HG.out.trans HF.out.1, HF.out.2, HE2.out⟩
          · have y3 := lt_t x1
            have y4 := lt_f (Nat.not_lt.1 x2)
            have HX2 := HX1
            have HE2 := HE1
            have HP2 := Lib.hid (Pm.refl a d T)
            have HO2 := Lib.hid (CU.out.left (fun h => x2 h.2) HQ.out.1 HQ.out.2.2.2.2.1)
            clear x1 x2
            have c3 := HC4.out
            clear HC4
            rcases c3 with ⟨x1, x2⟩ | ⟨x1, x2⟩ | x1
            · have y5 := lt_t x1
              have y6 := lt_t x2
              have HN := Lib.hid (show So r T d e ∧ So r T e b ∧ Lw T d e b from ⟨CU.out.b1.congr fun k q1 q2 => HP2.out.out k (.inr q1), CU.out.b2.congr fun k q1 q2 => HP2.out.out k (.inr (Nat.le_trans (Nat.le_of_lt x1) q1)), fun i j q1 q2 q3 q4 => by rw [HP2.out.out i (.inr q1), HP2.out.out j (.inr (Nat.le_trans (Nat.le_of_lt x1) q3))]; exact CU.out.bl i j q1 q2 q3 q4⟩)
              have D3 := Lib.hid (IH.out d e b T _ (by clear k2; have := HQ.out; omega) HX2.out (HC.out.ex HE2.out) x1 x2 HB.out.2.2.1 HN.out.1 HN.out.2.1 HN.out.2.2 (HP2.out.bd (by clear k2; have := HQ.out; have := HB.out; omega) HV2.out))
              clear x1 x2
              go_wp2_with fail
              refine D3.out.mono ?_
              rintro e' w3 ⟨rfl, T2, hX3, hP3, hO3, hE3⟩
              have HX3 := Lib.hid hX3
              have HP3 := Lib.hid hP3
              have HO3 := Lib.hid hO3
              have HE3 := Lib.hid (HE2.out.trans hE3)
              clear hX3 hP3 hO3 hE3
              have HF := Lib.hid (CU.out.done (Nat.le_of_lt HQ.out.2.2.2.2.2.2.1) (Nat.le_of_lt HQ.out.2.2.2.2.2.2.2) HP2.out HO2.out HP3.out HO3.out)
              have HG := Lib.hid (RP.out.wide HQ.out.1 HQ.out.2.2.2.1)
              go_wp2_with fail
              go_end0
              exact ⟨rfl, T2, HX3.out, HG.out.trans HF.out.1, HF.out.2, HE3.out⟩
            · have y5 := lt_t x1
              have y6 := lt_f (Nat.not_lt.1 x2)
              have HO3 := Lib.hid ((CU.out.right (fun h => x2 h.2) HQ.out.2.2.2.2.2.1 HQ.out.2.2.2.1).congr fun k q1 q2 => HP2.out.out k (.inr q1))
              have HF := Lib.hid (CU.out.done (Nat.le_of_lt HQ.out.2.2.2.2.2.2.1) (Nat.le_of_lt HQ.out.2.2.2.2.2.2.2) HP2.out HO2.out (Pm.refl _ _ _) HO3.out)
              have HG := Lib.hid (RP.out.wide HQ.out.1 HQ.out.2.2.2.1)
              clear x1 x2
              go_wp2_with fail
              go_end0
              exact ⟨rfl, _, HX2.out, HG.out.trans HF.out.1, HF.out.2, HE2.out⟩
            · have y5 := lt_f (Nat.not_lt.1 x1)
              have HO3 := Lib.hid ((CU.out.right (fun h => x1 h.1) HQ.out.2.2.2.2.2.1 HQ.out.2.2.2.1).congr fun k q1 q2 => HP2.out.out k (.inr q1))
              have HF := Lib.hid (CU.out.done (Nat.le_of_lt HQ.out.2.2.2.2.2.2.1) (Nat.le_of_lt HQ.out.2.2.2.2.2.2.2) HP2.out HO2.out (Pm.refl _ _ _) HO3.out)
              have HG := Lib.hid (RP.out.wide HQ.out.1 HQ.out.2.2.2.1)
              clear x1
              go_wp2_with fail
              go_end0
              exact ⟨rfl, _, HX2.out, HG.out.trans HF.out.1, HF.out.2, HE2.out⟩
          · have y3 := lt_f (Nat.not_lt.1 x1)
            have HX2 := HX1
            have HE2 := HE1
            have HP2 := Lib.hid (Pm.refl a d T)
            have HO2 := Lib.hid (CU.out.left (fun h => x1 h.1) HQ.out.1 HQ.out.2.2.2.2.1)
            clear x1
            have c3 := HC4.out
            clear HC4
            rcases c3 with ⟨x1, x2⟩ | ⟨x1, x2⟩ | x1
            · have y5 := lt_t x1
              have y6 := lt_t x2
              have HN := Lib.hid (show So r T d e ∧ So r T e b ∧ Lw T d e b from ⟨CU.out.b1.congr fun k q1 q2 => HP2.out.out k (.inr q1), CU.out.b2.congr fun k q1 q2 => HP2.out.out k (.inr (Nat.le_trans (Nat.le_of_lt x1) q1)), fun i j q1 q2 q3 q4 => by rw [HP2.out.out i (.inr q1), HP2.out.out j (.inr (Nat.le_trans (Nat.le_of_lt x1) q3))]; exact CU.out.bl i j q1 q2 q3 q4⟩)
              have D3 := Lib.hid (IH.out d e b T _ (by clear k2; have := HQ.out; omega) HX2.out (HC.out.ex HE2.out) x1 x2 HB.out.2.2.1 HN.out.1 HN.out.2.1 HN.out.2.2 (HP2.out.bd (by clear k2; have := HQ.out; have := HB.out; omega) HV2.out))
              clear x1 x2
              go_wp2_with fail
              refine D3.out.mono ?_
              rintro e' w3 ⟨rfl, T2, hX3, hP3, hO3, hE3⟩
              have HX3 := Lib.hid hX3
              have HP3 := Lib.hid hP3
              have HO3 := Lib.hid hO3
              have HE3 := Lib.hid (HE2.out.trans hE3)
              clear hX3 hP3 hO3 hE3
              have HF := Lib.hid (CU.out.done (Nat.le_of_lt HQ.out.2.2.2.2.2.2.1) (Nat.le_of_lt HQ.out.2.2.2.2.2.2.2) HP2.out HO2.out HP3.out HO3.out)
              have HG := Lib.hid (RP.out.wide HQ.out.1 HQ.out.2.2.2.1)
              go_wp2_with fail
              go_end0
              exact ⟨rfl, T2, HX3.out, HG.out.trans HF.out.1, HF.out.2, HE3.out⟩
            · have y5 := lt_t x1
              have y6 := lt_f (Nat.not_lt.1 x2)
              have HO3 := Lib.hid ((CU.out.right (fun h => x2 h.2) HQ.out.2.2.2.2.2.1 HQ.out.2.2.2.1).congr fun k q1 q2 => HP2.out.out k (.inr q1))
              have HF := Lib.hid (CU.out.done (Nat.le_of_lt HQ.out.2.2.2.2.2.2.1) (Nat.le_of_lt HQ.out.2.2.2.2.2.2.2) HP2.out HO2.out (Pm.refl _ _ _) HO3.out)
              have HG := Lib.hid (RP.out.wide HQ.out.1 HQ.out.2.2.2.1)
              clear x1 x2
              go_wp2_with fail
              go_end0
              exact ⟨rfl, _, HX2.out, HG.out.trans HF.out.1, HF.out.2, HE2.out⟩
            · have y5 := lt_f (Nat.not_lt.1 x1)
              have HO3 := Lib.hid ((CU.out.right (fun h => x1 h.1) HQ.out.2.2.2.2.2.1 HQ.out.2.2.2.1).congr fun k q1 q2 => HP2.out.out k (.inr q1))
              have HF := Lib.hid (CU.out.done (Nat.le_of_lt HQ.out.2.2.2.2.2.2.1) (Nat.le_of_lt HQ.out.2.2.2.2.2.2.2) HP2.out HO2.out (Pm.refl _ _ _) HO3.out)
              have HG := Lib.hid (RP.out.wide HQ.out.1 HQ.out.2.2.2.1)
              clear x1
              go_wp2_with fail
              go_end0
              exact ⟨rfl, _, HX2.out, HG.out.trans HF.out.1, HF.out.2, HE2.out⟩
end Go.Proofs.Ytbiofjddclbncaa.Sr
