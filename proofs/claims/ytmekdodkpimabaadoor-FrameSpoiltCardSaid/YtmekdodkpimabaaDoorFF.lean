import Derived.Test.YtmekdodkpimabaaDoorFD
import Derived.Test.YtmekdodkpimabaaDoorFE
namespace Go.Proofs.YtmekdodkpimabaaDoor
set_option linter.unusedVariables false
set_option linter.unusedSimpArgs false
open Go.RowKit Mem
attribute [local go_sem] Oper.semAt_some

theorem run_cut4 (fr g c : Nat) (hc : fr + 4 ≤ c) (W : World) : (Instr.sliceAt 23 (.slice (some ⟨g, 0, none⟩) 4096 c) (some (.int .i64 (fr : Int))) (some (.int .i64 ((fr : Int) + 4))) none).run Tryd.prog W = .ok (.slice (some ⟨g, fr, none⟩) 4 (c - fr)) W := by
  have f1 : ((fr : Int) + 4).toNat = fr + 4 := by omega
  have f2 : (fr : Int) + 4 ≤ (c : Int) := by omega
  have f3 : ¬ (c = fr) := by omega
  have f4 : (0 : Int) ≤ (fr : Int) + 4 := by omega
  have f5 : fr + 4 - fr = 4 := by omega
  have f6 : (fr : Int) ≤ (fr : Int) + 4 := by omega
  go_simp
theorem splice_same (p : List UInt8) (q : Nat) (s : List UInt8) (h : (p.drop q).take 4 = s) (hs : s.length = 4) : splice p q s = p := by
  unfold splice
  rw [← h, List.length_take, ← List.drop_drop]
  have hl : min 4 (p.drop q).length = 4 := by rw [← h, List.length_take] at hs; exact hs
  rw [hl, List.take_append_drop, List.take_append_drop]

set_option maxRecDepth 20000 in
set_option maxHeartbeats 2000000 in
theorem spoilt_main (a : Int) (k s n c pl : Nat) (A : Option Addr) (b : List UInt8) (x0 x1 x2 x3 : UInt8) (w : World) (hT : Tab w) (hk : k < 256) (hs : s < 18446744073709551616) (hp : pl < 65536)
    (hb : Rd w w.heap.size A c b) (hbl : b.length = n) (h : may a s n = 0) :
    Calls Tryd.prog 6 #[.int .i64 a, .int .u8 k, .int .u64 s, .slice A n c, .int .u16 pl, .agg #[bv x0, bv x1, bv x2, bv x3]] w fun e w' => e = .returned (.bool true) ∧ Below w.heap.size w w' := by
  obtain ⟨q, hq⟩ : ∃ q, q = pl % 4093 := ⟨_, rfl⟩
  have hq1 : (wrap64 (pl : Int)).tmod 4093 = q := by rw [show wrap64 (pl : Int) = pl by unfold wrap64; omega, Int.tmod_eq_emod_of_nonneg (by omega)]; omega
  have hq3 : wrap64 ((q : Int) + 4) = q + 4 := by unfold wrap64; omega
  have hq2 : q ≤ 4092 := by omega
  have lb : b.length ≤ 4011 := by rw [hbl]; exact ((may_zero _ _ _).1 h).2.2.2
  obtain ⟨P, hP⟩ : ∃ P, Frm.frame a.toNat k s b = P := ⟨_, rfl⟩
  have hPl : P.length = 4096 := by rw [← hP]; exact Frm.length_frame _ _ _ _ lb
  have HT := Lib.hid hT
  have HB := Lib.hid hb
  have HBL := Lib.hid hbl
  have HM := Lib.hid h
  have EP := Lib.hid hP
  have LP := Lib.hid hPl
  have HS := Lib.hid hs
  have HQ := Lib.hid hq
  have HQ2 := Lib.hid hq2
  have HW : Hid (Below w.heap.size w (w.alloc (.cells #[bv x0, bv x1, bv x2, bv x3] 37))) := Lib.hid ((Below.refl _ w).alloc (Nat.le_refl _) _)
  have HR : Hid (Rd (w.alloc (.cells #[bv x0, bv x1, bv x2, bv x3] 37)) (w.alloc (.cells #[bv x0, bv x1, bv x2, bv x3] 37)).heap.size (some ⟨w.heap.size, 0, none⟩) 4 [x0, x1, x2, x3]) := Lib.hid (Rd.lit w [x0, x1, x2, x3] 37 _ (by rw [size_alloc']; omega) (by unfold maxLen; simp))
  clear hT hb hbl h hP hPl hs hq hq2 hp lb
  go_enter Tryd.func6, Tryd.ntmps6
  obtain ⟨U, hU⟩ : ∃ U, (P.drop q).take 4 = U := ⟨_, rfl⟩
  have hUl : U.length = 4 := by rw [← hU, List.length_take, List.length_drop, LP.out]; have := HQ2.out; omega
  have HU := Lib.hid hU
  have HUL := Lib.hid hUl
  clear hU hUl
  go_wp2_with (first
    | (go_at_call 8; refine (put_yes (HT.out.low HW.out) hk HS.out ((HB.out.below HW.out).more HW.out.size) HBL.out HM.out).mono ?_; rintro e w1 ⟨g1, c1, rfl, ho1, hr1, hb1⟩; rw [EP.out] at ho1 hr1; have s1 := run_cut4 q g1 c1 (by have := hr1.1; rw [LP.out] at this; have := HQ2.out; omega); have k1 : (convert 23 9 (.slice (some ⟨g1, q, none⟩) 4 (c1 - q))).run Tryd.prog w1 = .ok (.string (str U)) w1 := (by have h5 := (hr1.drop q (by have := HQ2.out; rw [LP.out]; omega)).take 4; rw [HU.out, Nat.zero_add] at h5; have h6 := run_str_rd w1 h5; rw [HUL.out] at h6; exact h6); have O1 := Lib.hid ho1; have R1 := Lib.hid hr1; have V1 := Lib.hid ((HR.out.below hb1).more hb1.size); have B1 := Lib.hid hb1; clear ho1 hr1 hb1)
    | fail)
  have hq0 := HQ2.out
  have hoD := Mem.Own.below O1.out ((Below.refl _ w1).drew) (Nat.le_refl _)
  have hrD := V1.out.below ((Below.refl w1.heap.size w1).drew)
  rw [← LP.out] at hoD
  obtain ⟨W', hcp, hown', hg'⟩ := run_copy_own w1.drew 3 g1 q 4 (c1 - q) c1 _ P [x0, x1, x2, x3] hoD _ 4 4 _ hrD (by simp) rfl 4 rfl (by rw [LP.out]; omega)
  rw [show List.take 4 [x0, x1, x2, x3] = [x0, x1, x2, x3] from rfl, LP.out] at hown'
  have u1 : IntKind.i64.wrap (q : Int) = q := by rw [IntKind.wrap_i64]; omega
  have u2 : IntKind.i64.wrap ((q : Int) + 4) = q + 4 := by rw [IntKind.wrap_i64]; omega
  have hlow := (own_lt O1.out).1
  have PO := Lib.hid hown'
  have PB : Hid (Below w.heap.size w W') := Lib.hid (((HW.out.trans (B1.out.mono HW.out.size)).drew).grown hg' (Nat.le_trans HW.out.size B1.out.size) (fun k e => by injection e with e; subst e; exact Nat.le_trans HW.out.size hlow))
  have PV : Hid (Rd W' W'.heap.size (some ⟨w.heap.size, 0, none⟩) 4 [x0, x1, x2, x3]) := by
    have hb3 : Below (w.alloc (.cells #[bv x0, bv x1, bv x2, bv x3] 37)).heap.size (w.alloc (.cells #[bv x0, bv x1, bv x2, bv x3] 37)) W' := (B1.out.drew).grown hg' B1.out.size (fun k e => by injection e with e; subst e; exact hlow)
    exact Lib.hid ((HR.out.below hb3).more hb3.size)
  clear hown' hg' hoD hrD hlow
  obtain ⟨V, hV⟩ : ∃ V, [x0, x1, x2, x3] = V := ⟨_, rfl⟩
  have hVl : V.length = 4 := by rw [← hV]; rfl
  rw [hV] at PO PV
  obtain ⟨Z, hZ⟩ : ∃ Z, splice P q V = Z := ⟨_, rfl⟩
  have hZl : Z.length = 4096 := by rw [← hZ, length_splice _ _ _ (by rw [hVl, LP.out]; omega)]; exact LP.out
  rw [hZ] at PO
  have PR := Lib.hid (own_rd PO.out hZl)
  have LZ := Lib.hid hZl
  have LV := Lib.hid hVl
  have lb : b.length ≤ 4011 := by rw [HBL.out]; exact ((may_zero _ _ _).1 HM.out).2.2.2
  have BK := Lib.hid (HB.out.below PB.out)
  by_cases hUV : U = V
  · subst hUV
    have hzp : Z = P := by rw [← hZ]; exact splice_same P q U HU.out HUL.out
    have q1 : gets Z a k := by rw [hzp, ← EP.out]; exact (gets_put (by rw [HBL.out]; exact HM.out) hk HS.out a k hk).2 ⟨rfl, rfl⟩
    have q2 : Frm.newest Z = s := by rw [hzp, ← EP.out]; exact Frm.newest_frame _ _ _ _ lb HS.out
    have q3 : Frm.held Z = b := by rw [hzp, ← EP.out]; exact Frm.held_frame _ _ _ _ lb
    have Q1 := Lib.hid q1
    have Q2 := Lib.hid q2
    have Q3 := Lib.hid q3
    clear hzp q1 q2 q3 hZ lb hV hVl hZl hq0
    go_still_tail 6, (by kernel_rfl)
    change wpList _ _ _ _ _ w1.drew
    go_wp2_with (first
      | (go_at_call 10; refine (goes_any w4 (HT.out.low (PB.out.trans (B4.out.mono PB.out.size)))).mono ?_; rintro e w5 ⟨rfl, hb5⟩; have B5 := Lib.hid (B4.out.trans (hb5.mono B4.out.size)); clear hb5)
      | (go_at_call 13; refine (get_yes (HT.out.low PB.out) PR.out LZ.out hk Q1.out s Q2.out b Q3.out).mono ?_; rintro e w4 ⟨v4, rfl, ho4, hb4⟩; obtain ⟨A4, c4, rfl, hr4, _⟩ := ho4.form; rw [HBL.out]; have k2 : (convert 23 9 (.slice (some ⟨w.heap.size, 0, none⟩) 4 4)).run Tryd.prog w4 = .ok (.string (str U)) w4 := (by rw [← LV.out]; exact run_str_rd w4 (by rw [LV.out]; exact PV.out.below hb4)); have k3 : (convert 23 9 (.slice A4 n c4)).run Tryd.prog w4 = .ok (.string (str b)) w4 := (by rw [← HBL.out]; exact run_str_rd w4 hr4); have k4 : (convert 23 9 (.slice A n c)).run Tryd.prog w4 = .ok (.string (str b)) w4 := (by rw [← HBL.out]; exact run_str_rd w4 (BK.out.below (hb4.mono PB.out.size))); have B4 := Lib.hid hb4; clear ho4 hr4 hb4)
      | fail)
    go_ret
    exact ⟨rfl, PB.out.trans (B5.out.mono PB.out.size)⟩
  · have q1 : ¬ gets Z a k := fun hg => by
      have e := EP.out
      have h2 := spoilt a.toNat k s b V q lb HS.out hVl hq0 a k (by rw [e, hZ]; exact hg)
      rw [e, hZ] at h2
      apply hUV
      rw [← HU.out]
      have h3 : (Z.drop q).take 4 = V := by
        rw [← hZ]
        unfold splice
        rw [List.drop_left' (by rw [List.length_take, LP.out]; omega), List.take_left' hVl]
      rw [← h3, h2]
    have hne : ((str U).toList == (str V).toList) = false := by rw [str_toList, str_toList]; simpa using hUV
    have Q1 := Lib.hid q1
    clear q1 hZ lb hV hVl hZl hq0 hUV
    go_still_tail 6, (by kernel_rfl)
    change wpList _ _ _ _ _ w1.drew
    go_wp2_with (first
      | (go_at_call 10; refine (goes_any w4 (HT.out.low (PB.out.trans (B4.out.mono PB.out.size)))).mono ?_; rintro e w5 ⟨rfl, hb5⟩; have B5 := Lib.hid (B4.out.trans (hb5.mono B4.out.size)); clear hb5)
      | (go_at_call 13; refine (get_no (HT.out.low PB.out) PR.out LZ.out hk Q1.out).mono ?_; rintro e w4 ⟨rfl, hb4⟩; have k2 : (convert 23 9 (.slice (some ⟨w.heap.size, 0, none⟩) 4 4)).run Tryd.prog w4 = .ok (.string (str V)) w4 := (by rw [← LV.out]; exact run_str_rd w4 (by rw [LV.out]; exact PV.out.below hb4)); have B4 := Lib.hid hb4; clear hb4)
      | fail)
    go_ret
    exact ⟨rfl, PB.out.trans (B5.out.mono PB.out.size)⟩

set_option maxRecDepth 20000 in
set_option maxHeartbeats 2000000 in
theorem spoilt_bad (a : Int) (k s n c pl : Nat) (A : Option Addr) (x0 x1 x2 x3 : UInt8) (w : World) (hT : Tab w) (hn : n ≤ 9223372036854775807) (m : Int) (hm : may a s n = m) (h : ¬ m = 0) :
    Calls Tryd.prog 6 #[.int .i64 a, .int .u8 k, .int .u64 s, .slice A n c, .int .u16 pl, .agg #[bv x0, bv x1, bv x2, bv x3]] w fun e w' => e = .returned (.bool true) ∧ Below w.heap.size w w' := by
  have HT := Lib.hid hT
  have HM := Lib.hid hm
  have HN := Lib.hid hn
  have HH := Lib.hid h
  have HW : Hid (Below w.heap.size w (w.alloc (.cells #[bv x0, bv x1, bv x2, bv x3] 37))) := Lib.hid ((Below.refl _ w).alloc (Nat.le_refl _) _)
  clear hT hm hn
  go_enter Tryd.func6, Tryd.ntmps6
  go_wp2_with (first
    | (go_at_call 10; refine (goes_any _ (HT.out.low HW.out)).mono ?_; rintro e w2 ⟨rfl, hb2⟩; have B2 := Lib.hid (HW.out.trans (hb2.mono HW.out.size)); clear hb2)
    | (go_at_call 8; refine (put_no HN.out m HM.out HH.out).mono ?_; rintro e w1 ⟨rfl, rfl⟩)
    | fail)
  go_ret
  exact ⟨by simp [h], B2.out⟩

theorem frameSpoilt_walk (a0 a1 a2 : Int) (A3 : Option Addr) (n3 c3 : Nat) (b : List UInt8) (hn : b.length = n3) (a4 : Int) (x0 x1 x2 x3 : UInt8) (w : World) (hw : Tab w) (w0 : (Lit.int .i64 a0).wf = true) (w1 : (Lit.int .u8 a1).wf = true) (w2 : (Lit.int .u64 a2).wf = true) (w3 : Rd w w.heap.size A3 c3 b) (w4 : (Lit.int .u16 a4).wf = true) :
    Calls Tryd.prog 6 #[.int .i64 a0, .int .u8 a1, .int .u64 a2, .slice A3 n3 c3, .int .u16 a4, .agg #[bv x0, bv x1, bv x2, bv x3]] w fun e w' => e = .returned (.bool true) ∧ Below w.heap.size w w' := by
  have b1 := bounds_u8 w1
  have b2 := bounds_u64 w2
  have b4 := bounds_u16 w4
  obtain ⟨k, rfl⟩ := Int.eq_ofNat_of_zero_le b1.1
  obtain ⟨s, rfl⟩ := Int.eq_ofNat_of_zero_le b2.1
  obtain ⟨pl, rfl⟩ := Int.eq_ofNat_of_zero_le b4.1
  by_cases h : may a0 s n3 = 0
  · exact spoilt_main a0 k s n3 c3 pl A3 b x0 x1 x2 x3 w hw (by omega) (by omega) (by omega) w3 hn h
  · exact spoilt_bad a0 k s n3 c3 pl A3 x0 x1 x2 x3 w hw (by rw [← hn]; exact rd_le w3) _ rfl h
end Go.Proofs.YtmekdodkpimabaaDoor
