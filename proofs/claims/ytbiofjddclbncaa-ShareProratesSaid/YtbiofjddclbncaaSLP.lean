import Derived.Test.YtbiofjddclbncaaSLO
namespace Go.Proofs.Ytbiofjddclbncaa
set_option linter.unusedVariables false
set_option linter.unusedSimpArgs false
set_option maxRecDepth 8000
open Go.RowKit Mem Mo Sr
set_option maxHeartbeats 4000000 in
theorem shareProration_walk (T : Int) (A : Option Addr) (len c : Nat) (l : List Int) (hl : l.length = len) (w : World) (hT : (Lit.int .i64 T).wf = true) (hr : RdI w w.heap.size A c l ∧ ∀ x ∈ l, -9223372036854775808 ≤ x ∧ x ≤ 9223372036854775807) :
    Calls Try.prog 5 #[.int .i64 T, .slice A len c] w fun e w' => e = .returned (.bool true) ∧ Below w.heap.size w w' := by
  have hTb := i64_bd hT
  have HR := Lib.hid hr.1
  have HNm := Lib.hid (show Nums l from hr.2)
  have G := Lib.hid (fun W => goes_any W)
  have hcm : l.length ≤ maxLen := by have := hr.1.1; have := hr.1.2.1; omega
  unfold maxLen at hcm
  have HN := Lib.hid hl
  by_cases h1 : 100 < len
  · have z1 : (100 < (len : Int)) = True := eq_true (by omega)
    clear hr hT hTb h1 hcm hl
    go_enter Try.func5, Try.ntmps5
    go_wp2_with fail
    go_ret
    exact ⟨rfl, Below.refl _ _⟩
  have z1 : (100 < (len : Int)) = False := eq_false (by omega)
  have hlen : len ≤ 100 := by omega
  have SM := Lib.hid (Sum_any A c l w w.heap.size hr.1 (Nat.le_refl _) hr.2 (by omega))
  rw [hl] at SM
  have hsum := Nums.sum (l := l) hr.2
  rw [hl] at hsum
  obtain ⟨S, hS⟩ := named l.sum
  rw [hS] at SM hsum
  have HSS := Lib.hid hS
  have HTB := Lib.hid hTb
  have HSB := Lib.hid hsum
  have hn3 : len < 101 := by omega
  have PR := Lib.hid (fun A1 c1 W (h1 : RdI W W.heap.size A1 c1 (tl len (fun _ => T))) (h2 : RdI W W.heap.size A c l) => Prorate_any (na S) A1 c1 (tl len (fun _ => T)) A c l W h1 h2)
  unfold PrPost at PR
  rw [tl_len, hl] at PR
  clear hr hT hTb h1 hcm hl hS hsum
  go_enter Try.func5, Try.ntmps5
  go_wp2_with fail
  refine SM.out.mono ?_
  rintro e w1 ⟨rfl, hb⟩
  have B1 := Lib.hid hb
  clear hb
  go_wp2_with fail
  clear z1
  go_loopw [7, 26] (fun u v wr => ∃ (k : Nat) (A2 : Option Addr) (c2 : Nat), k ≤ len ∧ v = .int .i64 k ∧ u = .slice A2 k c2 ∧ Hid (OwnJ 2 wr w.heap.size (.slice A2 k c2) (tl k (fun _ => T))) ∧ Hid (Below w.heap.size w wr)) (fun _ v _ => len - (intOf v).toNat)
  · exact ⟨0, none, 0, Nat.zero_le _, rfl, rfl, Lib.hid (OwnJ.nil _ _ _), B1⟩
  · clear B1
    obtain ⟨k, A2, c2, hk, rfl, rfl, HO, HB⟩ := hrel
    by_cases hkn : k < len
    · have z1 := lt_t hkn
      have t1 := tl_succ k (fun _ => T)
      have l1 := tl_len k (fun _ => T)
      obtain ⟨L1, hL1⟩ := named (tl k (fun _ => T))
      rw [hL1] at t1 HO l1
      have HT1 := Lib.hid t1
      have HL1 := Lib.hid l1
      have HZ2 := Lib.hid (show L1.length + [T].length ≤ 17592186044416 by simp; omega)
      have hoA : Hid (OwnJ 2 (wr.alloc (.cells #[.int .i64 T] 2)) w.heap.size (.slice A2 k c2) L1) := Lib.hid (HO.out.below (Ba _ _) (Nat.le_refl _))
      have hrA : Hid (RdI (wr.alloc (.cells #[.int .i64 T] 2)) (wr.heap.size + 1) (some ⟨wr.heap.size, 0, none⟩) 1 [T]) := Lib.hid (RdI.lit wr [T] 2 (by unfold maxLen; simp))
      clear t1 l1 hL1
      go_upto_region 8 with (at_builtin; refine wpList_append_j ityL rfl _ _ rfl w.heap.size _ _ rfl hoA.out (wr.heap.size + 1) _ _ 1 [T] rfl rfl hrA.out HZ2.out (by have := HB.out.size; simp; omega) ?_; intro v4 w4 hown4 hg4 hat4)
      obtain ⟨A3, c3, hv4, _⟩ := hown4.form
      rw [show (L1 ++ [T]).length = k + 1 by have := HL1.out; simp; omega] at hv4
      subst hv4
      have HO4 := Lib.hid hown4
      have B4 := Lib.hid ((HB.out.alloc HB.out.size (.cells #[.int .i64 T] 2)).grown hg4 (by have := HB.out.size; simp; omega) (fun j e => (World.ownsRow.lt hoA.out j e).1))
      clear hown4 hg4 hat4 hoA hrA
      go_wp2_with fail
      go_roundw
      case rel => exact ⟨k + 1, A3, c3, by omega, by go_num, by first | rfl | go_num, by rw [HT1.out]; exact HO4, B4⟩
      case measure => simp [intOf]; omega
    · obtain rfl : k = len := by omega
      have z1 := lt_f (Nat.le_refl k)
      obtain ⟨A3, c3, hv4, hr4, _⟩ := HO.out.form
      rw [tl_len] at hv4
      injection hv4 with e1 _ e3
      subst e1 e3
      have R4 := Lib.hid hr4
      have PR2 := Lib.hid (PR.out A2 c2 wr R4.out (Rb HR.out HB.out))
      clear hkn hr4 PR
      by_cases hbad : BadR (tl k (fun _ => T)) l (na S)
      · have P2 := PR2.out
        unfold prE prl at P2
        rw [if_pos hbad, if_pos hbad] at P2
        have HP2 := Lib.hid P2
        clear hbad P2 PR2
        by_cases hne : ne S = 0
        · rw [hne]
          clear hne
          go_wp2_with fail
          refine HP2.out.mono ?_
          rintro e w2 ⟨Aa, ca, rfl, hr, hb⟩
          have B2 := Lib.hid (Bt HB.out hb)
          clear hr hb
          go_wp2_with fail
          refine (G.out _).mono ?_
          rintro e w3 ⟨rfl, hb⟩
          have B3 := Lib.hid (Bt B2.out hb)
          clear hb
          go_wp2_with fail
          go_ret
          exact ⟨rfl, B3.out⟩
        · have h30 : ne S = 30 := by unfold ne at *; split at hne; omega; rename_i h; rw [if_neg h]
          rw [h30]
          clear hne h30
          go_wp2_with fail
          refine HP2.out.mono ?_
          rintro e w2 ⟨Aa, ca, rfl, hr, hb⟩
          have B2 := Lib.hid (Bt HB.out hb)
          clear hr hb
          go_wp2_with fail
          refine (G.out _).mono ?_
          rintro e w3 ⟨rfl, hb⟩
          have B3 := Lib.hid (Bt B2.out hb)
          clear hb
          go_wp2_with fail
          go_ret
          exact ⟨rfl, B3.out⟩
      · have P2 := PR2.out
        have hP := pr_of hbad
        rw [tl_len] at hP
        unfold prE prl at P2
        rw [if_neg hbad, if_neg hbad, tl_len, tl_len] at P2
        have HP2 := Lib.hid P2
        clear hbad P2 PR2
        cases hi : isn S with
        | false =>
          rw [ne_f hi]
          clear hi hP
          go_wp2_with fail
          refine HP2.out.mono ?_
          rintro e w2 ⟨Aa, ca, rfl, hr, hb⟩
          have B2 := Lib.hid (Bt HB.out hb)
          clear hr hb
          go_wp2_with fail
          refine (G.out _).mono ?_
          rintro e w3 ⟨rfl, hb⟩
          have B3 := Lib.hid (Bt B2.out hb)
          clear hb
          go_wp2_with fail
          go_ret
          exact ⟨rfl, B3.out⟩
        | true =>
          rw [na_t hi] at HP2 hP ⊢
          rw [ne_t hi]
          have HP := Lib.hid hP
          have hsm : sm (gv l) k = S := by rw [← HSS.out, sum_gv, HN.out]
          have hgt : ∀ i, i < k → gv (tl k (fun _ => T)) i = T := fun i hi => gv_tl hi
          have hwh : whl (gv (tl k (fun _ => T))) (gv l) k S = T := by
            refine Eq.trans ?_ (whl_one T (gv l) k (D := S) (by have := hP.D0; omega) hsm)
            unfold whl
            rw [sm_congr (f := fun i => gv (tl k (fun _ => T)) i * gv l i) (g := fun i => T * gv l i) fun i hi => by rw [hgt i hi]]
          have hps : sm (prt (gv (tl k (fun _ => T))) (gv l) k S) k = T := by rw [prt_sum _ _ _ (by have := hP.n0; omega), hwh]
          have HPS := Lib.hid hps
          have HPA := Lib.hid (show ∀ i, i + 1 < k → prt (gv (tl k (fun _ => T))) (gv l) k S i = T * gv l i / S from fun i hi => by unfold prt; rw [if_neg (by omega), hgt i (by omega), Int.add_zero])
          have HTR := Lib.hid (show 0 ≤ T ∧ T ≤ 1125899906842624 by have := hP.a 0 (by have := hP.n0; omega); rwa [hgt 0 (by have := hP.n0; omega)] at this)
          have hk1 : 1 ≤ k := hP.n0
          obtain ⟨f, hf⟩ := named (prt (gv (tl k (fun _ => T))) (gv l) k S)
          have HBD := Lib.hid (show ∀ i, i < k → 0 ≤ f i ∧ f i ≤ 1125899907842624 from fun i hi => by rw [← hf]; exact prt_bd hP hi)
          rw [hf] at HP2 HPS HPA
          clear hi hP hsm hgt hwh hps hf
          go_wp2_with fail
          refine HP2.out.mono ?_
          rintro e w2 ⟨Aa, ca, rfl, hr, hb⟩
          have Ra := Lib.hid hr
          have B2 := Lib.hid (Bt HB.out hb)
          have S2 := Lib.hid (Sum_any Aa ca (tl k f) w2 w2.heap.size hr (Nat.le_refl _) (fun x hx => by obtain ⟨j, hj, rfl⟩ := tl_mem hx; have := HBD.out j hj; omega) (by rw [tl_len]; omega))
          rw [tl_len, tl_sum, HPS.out, na_t ((isn_iff T).2 (by have := HTB.out; omega)), ne_t ((isn_iff T).2 (by have := HTB.out; omega))] at S2
          clear hr hb
          go_wp2_with fail
          refine S2.out.mono ?_
          rintro e w3 ⟨rfl, hb⟩
          have Ra3 := Lib.hid (Rb Ra.out hb)
          have B3 := Lib.hid (Bt B2.out hb)
          clear hb
          obtain ⟨p, hp⟩ : ∃ p, p + 1 = k := ⟨k - 1, by omega⟩
          have K1 := Lib.hid (show wrap64 ((k : Int) - 1) = (p : Int) from wr64 (by omega) (by omega))
          have HPK := Lib.hid hp
          have hp2 : p < 100 := by omega
          clear hp hk1 z1
          go_wp2_with fail
          go_loopw [12, 13, 14, 15] (fun v _ _ _ wr4 => ∃ i : Nat, i ≤ p ∧ v = .int .i64 i ∧ Hid (RdI wr4 wr4.heap.size Aa ca (tl k f)) ∧ Hid (Below w.heap.size w wr4)) (fun v _ _ _ _ => p - (intOf v).toNat)
          · exact ⟨0, Nat.zero_le _, rfl, Ra3, B3⟩
          · clear Ra3 B3
            obtain ⟨i, hip, rfl, HRa, HB4⟩ := hrel
            by_cases hlt : i < p
            · have z1 := lt_t hlt
              have hpk := HPK.out
              have z2 : ((i : Int) < (k : Int) - 1) = True := eq_true (by omega)
              obtain ⟨b, o, rfl, e1⟩ := rd_cell (HR.out.below HB4.out) (j := i) (by rw [HN.out]; omega)
              have hd := HP.out.d i (by omega)
              have hD0 := HP.out.D0
              have hD1 := HP.out.D1
              have hq0 := HPA.out i (by omega)
              have hq1 := HBD.out i (by omega)
              rw [hq0] at hq1
              have C := Part_yes T (gv l i) S wr HTR.out.1 (by have := HTR.out.2; omega) hd.1 (by omega) hD0 (by omega)
              have C := fun W => Part_yes T (gv l i) S W HTR.out.1 (by have := HTR.out.2; omega) hd.1 (by omega) hD0 (by omega)
              have hisn : isn (T * gv l i / S) = true := (isn_iff _).2 (by omega)
              unfold pr at C
              rw [na_t hisn, ne_t hisn, hisn] at C
              simp only [if_true] at C
              have HR2 := Lib.hid (fun W (h : Below wr.heap.size wr W) => rd_cell (Rb HRa.out h) (j := i) (by rw [tl_len]; omega))
              rw [gv_tl (by omega), hq0] at HR2
              generalize T * gv l i % S = rr at *
              obtain ⟨q, hq⟩ := named (T * gv l i / S)
              rw [hq] at C HR2
              obtain ⟨x, hx⟩ := named (gv l i)
              rw [hx] at e1 C
              have HC := Lib.hid C
              have i1 : (i : Int) < (k : Int) := by omega
              clear hpk hd hD0 hD1 hq0 hq1 C hisn hq hx
              have k1 := K1.out
              go_wp2_with fail
              refine (HC.out wr).mono ?_
              rintro e w5 ⟨rfl, hb⟩
              obtain ⟨b', o', hAe, e2⟩ := HR2.out w5 hb
              have HRa5 := Lib.hid (Rb HRa.out hb)
              have B5 := Lib.hid (Bt HB4.out hb)
              subst hAe
              clear hb
              go_wp2_with fail
              clear k1
              go_roundw
              case rel => exact ⟨i + 1, by omega, by go_num, HRa5, B5⟩
              case measure => simp [intOf]; omega
            · obtain rfl : i = p := by omega
              have z1 := lt_f (Nat.le_refl i)
              have z2 : ((i : Int) < (k : Int) - 1) = False := eq_false (by have := HPK.out; omega)
              have k1 := K1.out
              clear hlt
              go_wp2_with fail
              refine (G.out _).mono ?_
              rintro e w5 ⟨rfl, hb⟩
              have B5 := Lib.hid (Bt HB4.out hb)
              clear hb
              go_wp2_with fail
              go_ret
              exact ⟨rfl, B5.out⟩
end Go.Proofs.Ytbiofjddclbncaa
