import Derived.Test.YtbiofjddclbncaaSLP
namespace Go.Proofs.Ytbiofjddclbncaa.Sr
set_option linter.unusedVariables false
set_option linter.unusedSimpArgs false
open Go.RowKit Mem Mo
theorem vn_grown {W W' : World} {b : Nat} {xs : List Value} {row : Option Nat} (h : VN W b xs) (hg : W.grownBy W' row) (hne : some b ≠ row) : VN W' b xs :=
  have e := hg.block b h.lt hne
  ⟨Nat.lt_of_lt_of_le h.lt hg.size, fun j v hv => (World.cell?_of_block e).trans (h.c j v hv), fun i => (World.frozen?_of_block (w := W) e).trans (h.z i), fun i hi => (World.cell?_of_block e).trans (h.top i hi)⟩
set_option maxRecDepth 8000 in
set_option maxHeartbeats 1000000 in
theorem RProrate_arg (D : Int) (A1 : Option Addr) (c1 : Nat) (a : List Int) (A2 : Option Addr) (c2 : Nat) (d : List Int) (w : World) (h : a.length ≠ d.length ∨ a.length < 1 ∨ 100 < a.length ∨ D < 1 ∨ 10000 < D) :
    Calls Try.prog 13 #[.slice A1 a.length c1, .slice A2 d.length c2, .int .i64 D] w (PrPost a d D w) := by
  have HP := Lib.hid (show BadR a d D from by
    rcases h with h | h | h | h | h
    · exact .inl h
    · exact .inr (.inl h)
    · exact .inr (.inr (.inl h))
    · exact .inr (.inr (.inr (.inr (.inl (wnB_f (k := 0) (by simp) (.inl (by simpa using h)))))))
    · exact .inr (.inr (.inr (.inr (.inl (wnB_f (k := 0) (by simp) (.inr (by simpa using h))))))))
  obtain ⟨n, hn⟩ := named a.length
  obtain ⟨m, hm⟩ := named d.length
  rw [hn, hm] at h ⊢
  clear hn hm
  have hc : n ≠ m ∨ (n = m ∧ n < 1) ∨ (n = m ∧ ¬ n < 1 ∧ 100 < n) ∨ (n = m ∧ ¬ n < 1 ∧ ¬ 100 < n ∧ D < 1) ∨ (n = m ∧ ¬ n < 1 ∧ ¬ 100 < n ∧ ¬ D < 1 ∧ 10000 < D) := by omega
  clear h
  rcases hc with h | ⟨rfl, h⟩ | ⟨rfl, h, h2⟩ | ⟨rfl, h, h2, h3⟩ | ⟨rfl, h, h2, h3, h4⟩
  · have z1 := ne_i h
    have z2 : ((n : Int) = (m : Int)) = False := eq_false (by omega)
    have z3 : ((n : Int) != (m : Int)) = true := by rw [bne, z1]; rfl
    clear h
    go_enter Try.func13, Try.ntmps13
    go_wp2_with fail
    go_ret2
    exact PrPost.no HP.out (Below.refl _ _)
  · have z1 : ((n : Int) < 1) = True := eq_true (by omega)
    clear h
    go_enter Try.func13, Try.ntmps13
    go_wp2_with fail
    go_ret2
    exact PrPost.no HP.out (Below.refl _ _)
  · have z1 : ((n : Int) < 1) = False := eq_false (by omega)
    have z2 : (100 < (n : Int)) = True := eq_true (by omega)
    clear h h2
    go_enter Try.func13, Try.ntmps13
    go_wp2_with fail
    go_ret2
    exact PrPost.no HP.out (Below.refl _ _)
  · have z1 : ((n : Int) < 1) = False := eq_false (by omega)
    have z2 : (100 < (n : Int)) = False := eq_false (by omega)
    have z3 : (D < 1) = True := eq_true h3
    clear h h2 h3
    go_enter Try.func13, Try.ntmps13
    go_wp2_with fail
    go_ret2
    exact PrPost.no HP.out (Below.refl _ _)
  · have z1 : ((n : Int) < 1) = False := eq_false (by omega)
    have z2 : (100 < (n : Int)) = False := eq_false (by omega)
    have z3 : (D < 1) = False := eq_false h3
    have z4 : (10000 < D) = True := eq_true h4
    clear h h2 h3 h4
    go_enter Try.func13, Try.ntmps13
    go_wp2_with fail
    go_ret2
    exact PrPost.no HP.out (Below.refl _ _)

theorem own_set {e : TypeId} {W : World} {base k : Nat} {v : Value} {l : List Int} (h : OwnJ e W base v l) (hk : k < base) (i : Nat) (u : Value) : OwnJ e (W.setCell ⟨k, i, none⟩ u) base v l :=
  ⟨h.1, h.2.imp id fun ⟨g, cap, cur, e1, hle, hh, r⟩ => ⟨g, cap, cur, e1, hle, by rw [Below.heap_setCell _ _ _ _ (show g ≠ k by omega)]; exact hh, r⟩⟩
/-- So far all may be prorated. -/
def OkR (a d : Nat → Int) (k : Nat) (D : Int) : Prop := ∀ j, j < k → (0 ≤ a j ∧ a j ≤ 1125899906842624) ∧ (0 ≤ d j ∧ d j ≤ D)
theorem OkR.succ {a d : Nat → Int} {k : Nat} {D : Int} (h : OkR a d k D) (h1 : (0 ≤ a k ∧ a k ≤ 1125899906842624) ∧ (0 ≤ d k ∧ d k ≤ D)) : OkR a d (k + 1) D := fun j hj => by
  rcases Nat.lt_or_eq_of_le (Nat.le_of_lt_succ hj) with y | rfl
  · exact h j y
  · exact h1
theorem bad_a {a d : List Int} {D : Int} {k : Nat} (hk : k < a.length) (h : gv a k < 0 ∨ 1125899906842624 < gv a k) : BadR a d D :=
  .inr (.inr (.inr (.inl (wnB_f hk (by rwa [gv_at hk] at h)))))
theorem bad_d {a d : List Int} {D : Int} {k : Nat} (hk : k < d.length) (h : gv d k < 0 ∨ D < gv d k) : BadR a d D :=
  .inr (.inr (.inr (.inr (.inr (wnB_f hk (by rwa [gv_at hk] at h))))))
theorem ok_not {a d : List Int} {D : Int} (hlen : a.length = d.length) (h0 : 1 ≤ a.length) (h1 : a.length ≤ 100) (hD0 : 1 ≤ D) (hD1 : D ≤ 10000) (h : OkR (gv a) (gv d) a.length D) : ¬ BadR a d D := by
  unfold BadR
  rintro (b | b | b | b | b | b)
  · exact b hlen
  · omega
  · omega
  · rw [wnB_t fun k hk => by have := (h k hk).1; rwa [gv_at hk] at this] at b; cases b
  · rw [wnB_t fun k hk => by have : k = 0 := by simpa using hk
                             subst this; exact ⟨hD0, hD1⟩] at b; cases b
  · rw [wnB_t fun k hk => by have := (h k (by omega)).2; rwa [gv_at hk] at this] at b; cases b

set_option maxRecDepth 8000 in
set_option maxHeartbeats 8000000 in
theorem RProrate_go (D : Int) (A1 : Option Addr) (c1 : Nat) (a : List Int) (A2 : Option Addr) (c2 : Nat) (d : List Int) (w : World) (hr1 : RdI w w.heap.size A1 c1 a) (hr2 : RdI w w.heap.size A2 c2 d) (hlen : a.length = d.length) (h0 : 1 ≤ a.length) (h1 : a.length ≤ 100) (hD0 : 1 ≤ D) (hD1 : D ≤ 10000)
    (hna : Nums a) (hnd : Nums d) :
    Calls Try.prog 13 #[.slice A1 a.length c1, .slice A2 d.length c2, .int .i64 D] w (PrPost a d D w) := by
  obtain ⟨b1, o1, rfl, hb1, hc1⟩ := hr1.2.2.2 (by omega)
  obtain ⟨b2, o2, rfl, hb2, hc2⟩ := hr2.2.2.2 (by omega)
  rw [← hlen]
  obtain ⟨n, hn⟩ := named a.length
  have HCA := Lib.hid (fun k (hk : k < n) W (h : Below w.heap.size w W) => (show W.cell? ⟨b1, o1 + k, none⟩ = some (.int .i64 (gv a k)) from by
    rw [gv_at (by omega), ← hc1 k (by omega)]; exact h.cell (p := ⟨b1, o1 + k, none⟩) hb1))
  have HCD := Lib.hid (fun k (hk : k < n) W (h : Below w.heap.size w W) => (show W.cell? ⟨b2, o2 + k, none⟩ = some (.int .i64 (gv d k)) from by
    rw [gv_at (by omega), ← hc2 k (by omega)]; exact h.cell (p := ⟨b2, o2 + k, none⟩) hb2))
  rw [hn]
  have z1 : ((n : Int) < 1) = False := eq_false (by omega)
  have z2 : (100 < (n : Int)) = False := eq_false (by omega)
  have z3 : (D < 1) = False := eq_false (by omega)
  have z4 : (10000 < D) = False := eq_false (by omega)
  have HLN := Lib.hid (And.intro hlen hn)
  have HD := Lib.hid (And.intro hD0 hD1)
  have hn1 : n < 101 := by omega
  have hn0 : 1 ≤ n := by omega
  have HNUM := Lib.hid (And.intro hna hnd)
  clear hr1 hr2 hlen h0 h1 hD0 hD1 hb1 hb2 hc1 hc2 hn hna hnd
  go_enter Try.func13, Try.ntmps13
  go_wp2_with fail
  clear z1 z2 z3 z4
  obtain ⟨nb, hnb⟩ := named w.heap.size
  have HNB := Lib.hid hnb
  have HV0 := Lib.hid (VN.new w #[.int .u64 0, .int .u64 0, .int .u64 0, .int .u64 0] 46)
  rw [hnb] at HV0 ⊢
  clear hnb
  go_loopw [9, 11, 12, 13, 14] (fun u9 u11 u12 _ _ wr => ∃ (k : Nat) (A3 : Option Addr) (c3 : Nat), k ≤ n ∧ u9 = .slice A3 k c3 ∧ u11 = .int .i64 (sm (fun j => gv a j * gv d j / D) k) ∧ u12 = .int .i64 k ∧ Hid (OkR (gv a) (gv d) k D) ∧
      Hid (OwnJ 2 wr (nb + 1) (.slice A3 k c3) (tl k (fun j => gv a j * gv d j / D))) ∧ Hid (VN wr nb (bl (sm (fun j => gv a j * gv d j) k))) ∧ Hid (Below w.heap.size w wr)) (fun _ _ u12 _ _ _ => n - (intOf u12).toNat)
  · exact ⟨0, none, 0, Nat.zero_le _, rfl, rfl, rfl, Lib.hid (fun j hj => by omega), Lib.hid (OwnJ.nil _ _ _), HV0, Lib.hid (Ba _ _)⟩
  · clear HV0
    obtain ⟨k, A3, c3, hk, rfl, rfl, rfl, HOK, HO, HV, HB⟩ := hrel
    by_cases hkn : k < n
    · have zz := lt_t hkn
      have e1 := HCA.out k hkn wr HB.out
      have e2 := HCD.out k hkn wr HB.out
      have CA := Lib.hid (HCA.out k hkn)
      have CD := Lib.hid (HCD.out k hkn)
      have hok := HOK.out
      have hsx := OkR.succ (k := k) hok
      have hmx : ∀ h : OkR (gv a) (gv d) (k + 1) D, True := fun _ => trivial
      obtain ⟨x, hx⟩ := named (gv a k)
      obtain ⟨y, hy⟩ := named (gv d k)
      rw [hx] at e1 CA
      rw [hy] at e2 CD
      have HXY := Lib.hid (And.intro hx hy)
      by_cases q1 : x < 0
      · have z1 : (x < 0) = True := eq_true q1
        have HP := Lib.hid (bad_a (a := a) (d := d) (D := D) (k := k) (by have := HLN.out.2; omega) (by rw [hx]; exact .inl q1))
        clear q1 hx hy hok hsx hmx
        go_wp2_with fail
        go_ret2
        exact PrPost.no HP.out HB.out
      have z1 : (x < 0) = False := eq_false q1
      by_cases q2 : 1125899906842624 < x
      · have z2 : (1125899906842624 < x) = True := eq_true q2
        have HP := Lib.hid (bad_a (a := a) (d := d) (D := D) (k := k) (by have := HLN.out.2; omega) (by rw [hx]; exact .inr q2))
        clear q1 q2 hx hy hok hsx hmx
        go_wp2_with fail
        go_ret2
        exact PrPost.no HP.out HB.out
      have z2 : (1125899906842624 < x) = False := eq_false q2
      by_cases q3 : y < 0
      · have z3 : (y < 0) = True := eq_true q3
        have HP := Lib.hid (bad_d (a := a) (d := d) (D := D) (k := k) (by have := HLN.out; omega) (by rw [hy]; exact .inl q3))
        clear q1 q2 q3 hx hy hok hsx hmx
        go_wp2_with fail
        go_ret2
        exact PrPost.no HP.out HB.out
      have z3 : (y < 0) = False := eq_false q3
      by_cases q4 : D < y
      · have z4 : (D < y) = True := eq_true q4
        have HP := Lib.hid (bad_d (a := a) (d := d) (D := D) (k := k) (by have := HLN.out; omega) (by rw [hy]; exact .inr q4))
        clear q1 q2 q3 q4 hx hy hok hsx hmx
        go_wp2_with fail
        go_ret2
        exact PrPost.no HP.out HB.out
      have z4 : (D < y) = False := eq_false q4
      have HOK2 := Lib.hid (hsx (by rw [hx, hy]; omega))
      have hdd := HD.out
      have hm0 : 0 ≤ x * y := Int.mul_nonneg (by omega) (by omega)
      have hm1 : x * y ≤ 1125899906842624 * y := Int.mul_le_mul_of_nonneg_right (by omega) (by omega)
      have hq0 : 0 ≤ x * y / D := Int.ediv_nonneg hm0 (by omega)
      have hq1 : x * y / D ≤ x * y := Int.ediv_le_self _ hm0
      have hq2 : x * y / D ≤ 1125899906842624 := by
        have e := Int.ediv_le_ediv (show 0 < D by omega) (show x * y ≤ 1125899906842624 * D from Int.le_trans hm1 (Int.mul_le_mul_of_nonneg_left (by omega) (by omega)))
        rwa [Int.mul_ediv_cancel _ (show D ≠ 0 by omega)] at e
      have t1 := tl_succ k (fun j => gv a j * gv d j / D)
      have l1 := tl_len k (fun j => gv a j * gv d j / D)
      have s1 : sm (fun j => gv a j * gv d j / D) (k + 1) = sm (fun j => gv a j * gv d j / D) k + x * y / D := by show _ + gv a k * gv d k / D = _; rw [hx, hy]
      have s2 : sm (fun j => gv a j * gv d j) (k + 1) = sm (fun j => gv a j * gv d j) k + x * y := by show _ + gv a k * gv d k = _; rw [hx, hy]
      have sb : 0 ≤ sm (fun j => gv a j * gv d j / D) k ∧ sm (fun j => gv a j * gv d j / D) k ≤ 1125899906842624 * k := by
        refine ⟨sm_nonneg fun j hj => ?_, sm_up fun j hj => ?_⟩
        · have h := hok j hj; exact Int.ediv_nonneg (Int.mul_nonneg h.1.1 h.2.1) (by omega)
        · have h := hok j hj
          have e0 : gv a j * gv d j ≤ 1125899906842624 * D := Int.le_trans (Int.mul_le_mul_of_nonneg_right h.1.2 h.2.1) (Int.mul_le_mul_of_nonneg_left h.2.2 (by omega))
          have e := Int.ediv_le_ediv (show 0 < D by omega) e0
          rwa [Int.mul_ediv_cancel _ (show D ≠ 0 by omega)] at e
      rw [hx, hy] at t1
      have COf1 := Lib.hid (fun W => Of_any x W (by omega) (by omega))
      have COf2 := Lib.hid (fun W => Of_any y W (by omega) (by omega))
      have CMul := Lib.hid (fun W => RMul_any x y W)
      obtain ⟨V, hV⟩ := named (sm (fun j => gv a j * gv d j) k)
      rw [hV] at s2 HV
      have CAdd := Lib.hid (fun W => RAdd_any V (x * y) W)
      rw [← s2] at CAdd
      obtain ⟨V2, hV2⟩ := named (sm (fun j => gv a j * gv d j) (k + 1))
      have HV2 := Lib.hid hV2
      rw [hV2] at CAdd
      obtain ⟨m, hm⟩ := named (x * y)
      rw [hm] at hm0 hm1 hq0 hq1 hq2 CMul CAdd t1 s1
      obtain ⟨pw, hpw⟩ := named (IntKind.i64.wrap m)
      have K1 := Lib.hid (show IntKind.i64.wrap (x * y) = pw by rw [hm]; exact hpw)
      have K2 := Lib.hid (show IntKind.u64.wrap pw = m by rw [← hpw, IntKind.wrap_i64, IntKind.wrap_u64]; omega)
      have K3 := Lib.hid (show IntKind.u64.wrap D = D by rw [IntKind.wrap_u64]; omega)
      obtain ⟨q, hq⟩ := named (m / D)
      rw [hq] at hq0 hq1 hq2 t1 s1
      have K4 := Lib.hid (show m.tdiv D = q by rw [Int.tdiv_eq_ediv_of_nonneg hm0]; exact hq)
      have K5 := Lib.hid hq
      have K6 := Lib.hid (show wrap64 (IntKind.u64.wrap q) = q by rw [← wrapEq, IntKind.wrap_i64, IntKind.wrap_u64]; omega)
      obtain ⟨s, hs⟩ := named (sm (fun j => gv a j * gv d j / D) k)
      rw [hs] at s1 sb ⊢
      have K7 := Lib.hid (show wrap64 (s + q) = sm (fun j => gv a j * gv d j / D) (k + 1) by rw [s1, ← wrapEq, IntKind.wrap_i64]; omega)
      have zD : (D == 0) = false := by simp; omega
      have zD2 : (D = 0) = False := eq_false (by omega)
      obtain ⟨L1, hL1⟩ := named (tl k (fun j => gv a j * gv d j / D))
      rw [hL1] at t1 HO l1
      have HT1 := Lib.hid t1
      have HL1 := Lib.hid l1
      unfold bl at HV
      unfold bg at COf1 COf2 CMul CAdd
      clear q1 q2 q3 q4 hx hy hok hsx hmx hdd hm0 hm1 hq0 hq1 hq2 t1 l1 s1 s2 sb hV hV2 hs hq hpw hL1
      obtain ⟨s0, hs0⟩ := named (dg0 x)
      obtain ⟨s1, hs1⟩ := named (dg1 x)
      obtain ⟨s2, hs2⟩ := named (dg2 x)
      obtain ⟨s3, hs3⟩ := named (dg3 x)
      rw [hs0, hs1, hs2, hs3] at COf1 CMul
      clear hs0 hs1 hs2 hs3
      obtain ⟨t0, hs0⟩ := named (dg0 y)
      obtain ⟨t1, hs1⟩ := named (dg1 y)
      obtain ⟨t2, hs2⟩ := named (dg2 y)
      obtain ⟨t3, hs3⟩ := named (dg3 y)
      rw [hs0, hs1, hs2, hs3] at COf2 CMul
      clear hs0 hs1 hs2 hs3
      obtain ⟨y0, hs0⟩ := named (dg0 m)
      obtain ⟨y1, hs1⟩ := named (dg1 m)
      obtain ⟨y2, hs2⟩ := named (dg2 m)
      obtain ⟨y3, hs3⟩ := named (dg3 m)
      rw [hs0, hs1, hs2, hs3] at CMul CAdd
      clear hs0 hs1 hs2 hs3
      obtain ⟨v0, hs0⟩ := named (dg0 V)
      obtain ⟨v1, hs1⟩ := named (dg1 V)
      obtain ⟨v2, hs2⟩ := named (dg2 V)
      obtain ⟨v3, hs3⟩ := named (dg3 V)
      rw [hs0, hs1, hs2, hs3] at CAdd HV
      clear hs0 hs1 hs2 hs3
      obtain ⟨r0, hs0⟩ := named (dg0 V2)
      obtain ⟨r1, hs1⟩ := named (dg1 V2)
      obtain ⟨r2, hs2⟩ := named (dg2 V2)
      obtain ⟨r3, hs3⟩ := named (dg3 V2)
      have HRR : Hid (bl (sm (fun j => gv a j * gv d j) (k + 1)) = [.int .u64 r0, .int .u64 r1, .int .u64 r2, .int .u64 r3]) := Lib.hid (by unfold bl; rw [HV2.out, hs0, hs1, hs2, hs3])
      rw [hs0, hs1, hs2, hs3] at CAdd
      clear hs0 hs1 hs2 hs3 hm
      have k1 := K1.out
      go_wp2_with fail
      go_quiet (fail)
      rename_i nq
      have HV1 := Lib.hid (HV.out.drewN nq)
      have HB1 := Lib.hid (below_drewN HB.out nq)
      have HO1 := Lib.hid (HO.out.below (below_drewN (Below.refl _ wr) nq) (Nat.le_refl _))
      clear e1 e2 HV HB HO k1 z1 z2 z3 z4
      generalize wr.drewN nq = W1 at *
      have k2 := K2.out
      have k3 := K3.out
      have k4 := K4.out
      have k5 := K5.out
      have k6 := K6.out
      have kd0 := HV1.out.c 0 _ rfl
      have kd1 := HV1.out.c 1 _ rfl
      have kd2 := HV1.out.c 2 _ rfl
      have kd3 := HV1.out.c 3 _ rfl
      have e1 := CA.out W1 HB1.out
      have e2 := CD.out W1 HB1.out
      go_wp2_with fail
      rw [k6]
      clear k2 k3 k4 k5 k6
      have HBd : Hid (Below w.heap.size w W1.drew) := Lib.hid HB1.out.drew
      have Vd := Lib.hid HV1.out.drew
      have Od : Hid (OwnJ 2 W1.drew (nb + 1) (.slice A3 k c3) L1) := Lib.hid HO1.out
      go_cut [] from 40 to 106 (fun wz => Hid (VN wz nb [.int .u64 r0, .int .u64 r1, .int .u64 r2, .int .u64 r3]) ∧ Hid (Below w.heap.size w wz) ∧ Hid (OwnJ 2 wz (nb + 1) (.slice A3 k c3) L1))
      case first =>
        go_region_with (first | (go_at_call 23; with_reducible refine (CAdd.out _).mono ?_; rintro e wf ⟨rfl, hb⟩; have HBf := Lib.hid (HBe.out.trans (hb.mono HBe.out.size)); have Vf := Lib.hid (Ve.out.bel hb); have Of := Lib.hid (Oe.out.below hb (Nat.le_refl _)); have kf0 := Vf.out.c 0 _ rfl; have kf1 := Vf.out.c 1 _ rfl; have kf2 := Vf.out.c 2 _ rfl; have kf3 := Vf.out.c 3 _ rfl; have zf0 := Vf.out.z 0; have zf1 := Vf.out.z 1; have zf2 := Vf.out.z 2; have zf3 := Vf.out.z 3; have eaf := CA.out wf HBf.out; have edf := CD.out wf HBf.out; clear hb) | (go_at_call 24; with_reducible refine (CMul.out _).mono ?_; rintro e we ⟨rfl, hb⟩; have HBe := Lib.hid (HBc.out.trans (hb.mono HBc.out.size)); have Ve := Lib.hid (Vc.out.bel hb); have Oe := Lib.hid (Oc.out.below hb (Nat.le_refl _)); have ke0 := Ve.out.c 0 _ rfl; have ke1 := Ve.out.c 1 _ rfl; have ke2 := Ve.out.c 2 _ rfl; have ke3 := Ve.out.c 3 _ rfl; have ze0 := Ve.out.z 0; have ze1 := Ve.out.z 1; have ze2 := Ve.out.z 2; have ze3 := Ve.out.z 3; have eae := CA.out we HBe.out; have ede := CD.out we HBe.out; clear hb) | (go_at_call 25; with_reducible refine (COf2.out _).mono ?_; rintro e wc ⟨rfl, hb⟩; have HBc := Lib.hid (HBb.out.trans (hb.mono HBb.out.size)); have Vc := Lib.hid (Vb.out.bel hb); have Oc := Lib.hid (Ob.out.below hb (Nat.le_refl _)); have kc0 := Vc.out.c 0 _ rfl; have kc1 := Vc.out.c 1 _ rfl; have kc2 := Vc.out.c 2 _ rfl; have kc3 := Vc.out.c 3 _ rfl; have zc0 := Vc.out.z 0; have zc1 := Vc.out.z 1; have zc2 := Vc.out.z 2; have zc3 := Vc.out.z 3; have eac := CA.out wc HBc.out; have edc := CD.out wc HBc.out; clear hb) | (go_at_call 25; with_reducible refine (COf1.out _).mono ?_; rintro e wb ⟨rfl, hb⟩; have HBb := Lib.hid (HBd.out.trans (hb.mono HBd.out.size)); have Vb := Lib.hid (Vd.out.bel hb); have Ob := Lib.hid (Od.out.below hb (Nat.le_refl _)); have kb0 := Vb.out.c 0 _ rfl; have kb1 := Vb.out.c 1 _ rfl; have kb2 := Vb.out.c 2 _ rfl; have kb3 := Vb.out.c 3 _ rfl; have zb0 := Vb.out.z 0; have zb1 := Vb.out.z 1; have zb2 := Vb.out.z 2; have zb3 := Vb.out.z 3; have eab := CA.out wb HBb.out; have edb := CD.out wb HBb.out; clear hb))
        all_goals
          have B2 := Lib.hid (bel_set (k := nb) (i := 3) (bel_set (k := nb) (i := 2) (bel_set (k := nb) (i := 1) (bel_set (k := nb) (i := 0) HBf.out (Nat.le_of_eq HNB.out) (.int .u64 r0)) (Nat.le_of_eq HNB.out) (.int .u64 r1)) (Nat.le_of_eq HNB.out) (.int .u64 r2)) (Nat.le_of_eq HNB.out) (.int .u64 r3))
          have V2' := Lib.hid ((((Vf.out.set 0 (by simp) (.int .u64 r0)).set 1 (by simp) (.int .u64 r1)).set 2 (by simp) (.int .u64 r2)).set 3 (by simp) (.int .u64 r3))
          have O2 := Lib.hid (own_set (own_set (own_set (own_set Of.out (Nat.lt_succ_self nb) 0 (.int .u64 r0)) (Nat.lt_succ_self nb) 1 (.int .u64 r1)) (Nat.lt_succ_self nb) 2 (.int .u64 r2)) (Nat.lt_succ_self nb) 3 (.int .u64 r3))
          clear kf0 kf1 kf2 kf3 zf0 zf1 zf2 zf3
          go_wp2_with fail
          go_meet
          case rel => exact ⟨V2', B2, O2⟩
      case rest =>
        obtain ⟨HV3, HB3, HO3⟩ := hcut
        clear kd0 kd1 kd2 kd3 e1 e2 Vd HBd Od HO1 HV1 HB1 CA CD COf1 COf2 CMul CAdd
        have HZ2 := Lib.hid (show L1.length + [q].length ≤ 17592186044416 by have := HL1.out; simp; omega)
        have hoA : Hid (OwnJ 2 (wc.alloc (.cells #[.int .i64 q] 2)) (nb + 1) (.slice A3 k c3) L1) := Lib.hid (HO3.out.below (Ba _ _) (Nat.le_refl _))
        have hrA : Hid (RdI (wc.alloc (.cells #[.int .i64 q] 2)) (wc.heap.size + 1) (some ⟨wc.heap.size, 0, none⟩) 1 [q]) := Lib.hid (RdI.lit wc [q] 2 (by unfold maxLen; simp))
        have hvA : Hid (VN (wc.alloc (.cells #[.int .i64 q] 2)) nb [.int .u64 r0, .int .u64 r1, .int .u64 r2, .int .u64 r3]) := Lib.hid (HV3.out.alloc _)
        go_upto_region 16 with (at_builtin; refine wpList_append_j ityL rfl _ _ rfl (nb + 1) _ _ rfl hoA.out (wc.heap.size + 1) _ _ 1 [q] rfl rfl hrA.out HZ2.out (by have := HV3.out.lt; simp; omega) ?_; intro v4 w4 hown4 hg4 hat4)
        obtain ⟨A4, c4, hv4, _⟩ := hown4.form
        rw [show (L1 ++ [q]).length = k + 1 by have := HL1.out; simp; omega] at hv4
        subst hv4
        have HO4 := Lib.hid hown4
        have hge := fun j (e : (Value.slice A3 k c3).ownBlock = some j) => (World.ownsRow.lt hoA.out j e).1
        have B4 := Lib.hid ((HB3.out.alloc HB3.out.size (.cells #[.int .i64 q] 2)).grown hg4 (by have := HB3.out.size; simp; omega) (fun j e => by have := hge j e; have := HNB.out; omega))
        have HV4 := Lib.hid (vn_grown hvA.out hg4 (fun e => by have := hge nb e.symm; omega))
        clear hown4 hg4 hat4 hoA hrA hvA hge
        go_wp2_with fail
        go_roundw
        case rel => exact ⟨k + 1, A4, c4, by omega, by first | rfl | go_num, by rw [K7.out], by go_num, HOK2, by rw [HT1.out]; exact HO4, by rw [HRR.out]; exact HV4, B4⟩
        case measure => simp [intOf]; omega
    · obtain rfl : k = n := by omega
      have zz := lt_f (Nat.le_refl k)
      have hll := HLN.out
      have hdd := HD.out
      have hok := HOK.out
      have hnb := ok_not hll.1 (by omega) (by omega) hdd.1 hdd.2 (by rw [hll.2]; exact hok)
      have hP := pr_of hnb
      rw [hll.2] at hP
      have HNB2 := Lib.hid hnb
      have HPP := Lib.hid hP
      obtain ⟨g, cc, hv, hg, hz⟩ := ownJ_row HO.out hn0
      rw [hv]
      have HG := Lib.hid hg
      have HZ := Lib.hid hz
      have hcap : k ≤ cc := hg.2.1
      have hN0 : 0 ≤ sm (fun j => gv a j * gv d j) k := sm_nonneg fun j hj => (hP.mul hj).1
      have hN1 := sm_up (f := fun j => gv a j * gv d j) (n := k) fun j hj => (hP.mul hj).2.2
      obtain ⟨N, hN⟩ := Int.eq_ofNat_of_zero_le hN0
      rw [hN] at HV hN0 hN1
      have hwhl : whl (gv a) (gv d) k D = (N : Int) / D := by unfold whl; rw [hN]
      have hwb : (N : Int) / D ≤ 112589990784163000 := by
        rw [← hwhl]
        have h1 := hP.more
        have h2 := hP.rdiv
        have h3 := sm_up (f := fun k => gv a k * gv d k / D) (n := k) fun j hj => (hP.q hj).2
        omega
      have hN2 : N < 2 ^ 128 := by omega
      have HW := Lib.hid (And.intro hwhl hwb)
      have HLd := Lib.hid (Ld.zero (N := N) (i := 128) (D := D) (by omega) hN2)
      have HVN := Lib.hid HV.out
      have hd1 : 1 ≤ D := hdd.1
      have hd2 : D ≤ 10000 := hdd.2
      clear hkn hll hdd hok hnb hP hv hg hz hN0 hN1 hN hwhl hwb hN2 hk HO HV HCA HCD
      go_wp2_with fail
      clear zz
      go_loopw [15, 16, 17] (fun u15 u16 u17 wr2 => ∃ (j : Nat) (t r : Int), j ≤ 128 ∧ u15 = .int .i64 t ∧ u16 = .int .i64 r ∧ u17 = .int .i64 ((127 : Int) - (j : Int)) ∧ Hid (Ld N D (128 - j) t r) ∧ Hid (wr2 = wr)) (fun _ _ u17 _ => (intOf u17 + 1).toNat)
      · exact ⟨0, 0, 0, by omega, rfl, rfl, rfl, HLd, Lib.hid rfl⟩
      · clear HLd
        obtain ⟨j, t, r, hj, rfl, rfl, rfl, HL, HWW⟩ := hrel
        have hww := HWW.out.symm
        subst hww
        by_cases hj2 : j < 128
        · obtain ⟨i, hi⟩ : ∃ i, i + j = 127 := ⟨127 - j, by omega⟩
          have e1 : 128 - j = i + 1 := by omega
          have e2 : 128 - (j + 1) = i := by omega
          have hl := HL.out
          rw [e1] at hl
          have hmore := hl.more (by omega)
          have hlt := hl.t
          have hlr := hl.r
          have hr0 := Int.emod_nonneg ((N / 2 ^ (i + 1) : Nat) : Int) (show D ≠ 0 by omega)
          have hr1 := Int.emod_lt_of_pos ((N / 2 ^ (i + 1) : Nat) : Int) (show 0 < D by omega)
          have ht0 : 0 ≤ t := by rw [hlt]; exact Int.ediv_nonneg (Int.natCast_nonneg _) (by omega)
          have ht1 : t ≤ (N : Int) / D := by
            rw [hlt]; exact Int.ediv_le_ediv (by omega) (by have := Nat.div_le_self N (2 ^ (i + 1)); omega)
          have hwb := HW.out.2
          rw [← hlr] at hr0 hr1
          obtain ⟨bb, hbb⟩ := named (N / 2 ^ i % 2)
          have hb2 : bb ≤ 1 := by omega
          rw [hbb] at hmore
          obtain ⟨x, hx⟩ := named (i / 32)
          obtain ⟨m, hm⟩ := named (i % 32)
          have hx4 : x < 4 := by omega
          have hm32 : m < 32 := by omega
          have hbit := bit_of N x m hm32
          rw [show 32 * x + m = i by omega, hbb] at hbit
          have dcell := HVN.out.c x _ (bl_at _ x hx4)
          rw [dgn_nat N x hx4] at dcell
          have K1 := Lib.hid (show IntKind.i64.wrap ((127 - (j : Int)).tdiv 32) = (x : Int) by rw [Int.tdiv_eq_ediv_of_nonneg (by omega), IntKind.wrap_i64]; omega)
          have K2 := Lib.hid (show (127 - (j : Int)).tmod 32 = (m : Int) by rw [Int.tmod_eq_emod_of_nonneg (by omega)]; omega)
          have K3 := Lib.hid (show (((N / 2 ^ (32 * x) % 2 ^ 32 : Nat) : Int) / 2 ^ m).tmod 2 = (bb : Int) by
            rw [show (2 : Int) ^ m = ((2 ^ m : Nat) : Int) by simp, ← Int.natCast_ediv, Int.tmod_eq_emod_of_nonneg (Int.natCast_nonneg _), ← hbit]; rfl)
          have K4 := Lib.hid (show wrap64 (2 * r) = 2 * r by rw [← wrapEq, IntKind.wrap_i64]; omega)
          have K5 := Lib.hid (show wrap64 (2 * r + (bb : Int)) = 2 * r + (bb : Int) by rw [← wrapEq, IntKind.wrap_i64]; omega)
          have K6 := Lib.hid (show wrap64 (2 * t) = 2 * t by rw [← wrapEq, IntKind.wrap_i64]; omega)
          have K7 := Lib.hid (show wrap64 (2 * r + (bb : Int) - D) = 2 * r + (bb : Int) - D by rw [← wrapEq, IntKind.wrap_i64]; omega)
          have K8 := Lib.hid (show wrap64 (2 * t + 1) = 2 * t + 1 by rw [← wrapEq, IntKind.wrap_i64]; omega)
          have K9 := Lib.hid (show wrap64 ((127 - (j : Int)).tdiv 32) = (x : Int) by rw [← wrapEq]; exact K1.out)
          have K10 := Lib.hid (show wrap64 (bb : Int) = (bb : Int) by rw [← wrapEq, IntKind.wrap_i64]; omega)
          have HE := Lib.hid e2
          obtain ⟨dg, hdg⟩ := named ((N / 2 ^ (32 * x) % 2 ^ 32 : Nat) : Int)
          rw [hdg] at dcell
          have K3b := K3.out
          rw [hdg] at K3b
          have K3 := Lib.hid (show (dg / 2 ^ min m 64).tmod 2 = (bb : Int) by rw [show min m 64 = m by omega]; exact K3b)
          have K11 := Lib.hid (show wrap64 (127 - (j : Int) - 1) = 127 - ((j + 1 : Nat) : Int) by rw [← wrapEq, IntKind.wrap_i64]; omega)
          have hjp : (0 : Int) ≤ 127 - (j : Int) := by omega
          have hjp2 : ((0 : Int) ≤ 127 - (j : Int)) = True := eq_true hjp
          have x4 : (x : Int) < 4 := by omega
          have hcase : D ≤ 2 * r + (bb : Int) ∨ ¬ D ≤ 2 * r + (bb : Int) := Decidable.em _
          have hj3 : j < 128 := hj2
          clear hl hlt hlr hr0 hr1 ht0 ht1 hwb hbb hb2 hx hm hx4 hm32 hbit hdg K3b e1 e2 hi hj2 HWW
          rcases hcase with hc | hc
          · have z2 : (D ≤ 2 * r + (bb : Int)) = True := eq_true hc
            rw [if_pos hc, if_pos hc] at hmore
            have HM := Lib.hid hmore
            clear hmore hc
            have k1 := K1.out
            have k2 := K2.out
            have k3 := K3.out
            have k4 := K4.out
            have k5 := K5.out
            have k6 := K6.out
            have k9 := K9.out
            have k10 := K10.out
            go_wp2_with fail
            clear k1 k2 k3 k4 k5 k6 k9 k10
            go_roundw
            case rel => exact ⟨j + 1, 2 * t + 1, 2 * r + (bb : Int) - D, by omega, by first | rfl | rw [K8.out] | rw [K6.out, K8.out], by first | rfl | rw [K7.out], by first | rfl | rw [K11.out] | (congr 1; omega), by rw [HE.out]; exact HM, Lib.hid (by first | rfl | trivial)⟩
            case measure => first | rw [K11.out] | skip
                            clear K1 K2 K3 K4 K5 K6 K7 K8 K9 K10 K11; simp only [intOf]; omega
          · have z2 : (D ≤ 2 * r + (bb : Int)) = False := eq_false hc
            rw [if_neg hc, if_neg hc, Int.add_zero, Int.sub_zero] at hmore
            have HM := Lib.hid hmore
            clear hmore hc
            have k1 := K1.out
            have k2 := K2.out
            have k3 := K3.out
            have k4 := K4.out
            have k5 := K5.out
            have k6 := K6.out
            have k9 := K9.out
            have k10 := K10.out
            go_wp2_with fail
            clear k1 k2 k3 k4 k5 k6 k9 k10
            go_roundw
            case rel => exact ⟨j + 1, 2 * t, 2 * r + (bb : Int), by omega, by first | rfl | rw [K6.out], by first | rfl | rw [K5.out], by first | rfl | rw [K11.out] | (congr 1; omega), by rw [HE.out]; exact HM, Lib.hid (by first | rfl | trivial)⟩
            case measure => first | rw [K11.out] | skip
                            clear K1 K2 K3 K4 K5 K6 K7 K8 K9 K10 K11; simp only [intOf]; omega
        · obtain rfl : j = 128 := by omega
          have zz : ((0 : Int) ≤ 127 - ((128 : Nat) : Int)) = False := eq_false (by omega)
          have zz2 : ((0 : Int) ≤ -1) = False := eq_false (by omega)
          have hdone := HL.out
          rw [Nat.sub_self] at hdone
          have ht := hdone.done
          have hw := HW.out
          rw [← ht] at hw
          obtain ⟨p, hp⟩ : ∃ p, p + 1 = k := ⟨k - 1, by omega⟩
          have hq := HPP.out.q (k := p) (by omega)
          have hmr := HPP.out.more
          have hrd := HPP.out.rdiv
          have hsq := sm_nonneg (f := fun j => gv a j * gv d j / D) (n := k) fun j hj => (HPP.out.q hj).1
          have c1 := HZ.out.c p (by omega)
          have f1 := HZ.out.z p
          have hpr : ∀ i, (if i = p then gv a p * gv d p / D + t - sm (fun j => gv a j * gv d j / D) k else gv a i * gv d i / D) = prt (gv a) (gv d) k D i := fun i => by
            unfold prt
            by_cases e : i = p
            · rw [if_pos e, if_pos (by omega), hw.1, e]; omega
            · rw [if_neg e, if_neg (by omega), Int.add_zero]
          rw [hw.1] at hmr
          have HR2 := Lib.hid ((HZ.out.set (i := p) (by omega) (gv a p * gv d p / D + t - sm (fun j => gv a j * gv d j / D) k)).congr fun i _ => hpr i)
          have HB2 := Lib.hid (bel_set (k := g) (i := p) HB.out (by have := HG.out; have := HNB.out; omega) (.int .i64 (gv a p * gv d p / D + t - sm (fun j => gv a j * gv d j / D) k)))
          obtain ⟨s, hs⟩ := named (sm (fun j => gv a j * gv d j / D) k)
          rw [hs] at hsq HR2 HB2 hmr ⊢
          obtain ⟨q, hqq⟩ := named (gv a p * gv d p / D)
          rw [hqq] at hq c1 HR2 HB2
          have K1 := Lib.hid (show wrap64 (q + t) = q + t by rw [← wrapEq, IntKind.wrap_i64]; omega)
          have K2 := Lib.hid (show wrap64 (q + t - s) = q + t - s by rw [← wrapEq, IntKind.wrap_i64]; omega)
          have K3 := Lib.hid (show wrap64 ((k : Int) - 1) = (p : Int) from wr64 (by omega) (by omega))
          have i1 : (p : Int) < (k : Int) := by omega
          have hpk := Lib.hid hp
          have K4 := Lib.hid (show (k : Int) - 1 = (p : Int) by omega)
          clear hj hj2 hdone ht hw hp hq hmr hrd hsq hpr hs hqq HL HWW
          have k1 := K1.out
          have k2 := K2.out
          have k3 := K3.out
          have k4 := K4.out
          go_wp2_with fail
          go_ret2
          exact PrPost.yes HLN.out.2 HNB2.out (HR2.out.rd HG.out.2.1 HG.out.2.2) HB2.out
end Go.Proofs.Ytbiofjddclbncaa.Sr
