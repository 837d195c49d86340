import Derived.Test.YtmekdodkpimabaaDoorF8
namespace Go.Proofs.YtmekdodkpimabaaDoor
set_option linter.unusedVariables false
set_option linter.unusedSimpArgs false
open Go.RowKit Mem
attribute [local go_sem] Oper.semAt_some

/-- Put of what may be. -/
theorem put_yes {a : Int} {k s n c : Nat} {A : Option Addr} {b : List UInt8} {w : World} (hT : Tab w) (hk : k < 256) (hs : s < 18446744073709551616) (hb : Rd w w.heap.size A c b) (hbl : b.length = n) (h : may a s n = 0) :
    Calls Tryd.prog 8 #[.int .i64 a, .int .u8 k, .int .u64 s, .slice A n c] w fun e w' => ∃ g c', e = .returned (.tuple #[.slice (some ⟨g, 0, none⟩) 4096 c', .int .i64 0]) ∧ Mem.Own 5 w' w.heap.size (.slice (some ⟨g, 0, none⟩) 4096 c') (Frm.frame a.toNat k s b) ∧ Rd w' w'.heap.size (some ⟨g, 0, none⟩) c' (Frm.frame a.toNat k s b) ∧ Below w.heap.size w w' := by
  refine (Put_any a k s A n c b w hT hk hs hb hbl).mono ?_
  rintro e w' ⟨v, rfl, ho, _, hbb⟩
  have ho := ho h
  rw [h]
  have hl : (Frm.frame a.toNat k s b).length = 4096 := Frm.length_frame _ _ _ _ (by rw [hbl]; exact ((may_zero _ _ _).1 h).2.2.2)
  rcases ho.2 with ⟨_, h0⟩ | ⟨g, cap, cur, rfl, hg, _⟩
  · omega
  · rw [hl] at ho ⊢
    exact ⟨g, cap, rfl, ho, own_rd ho hl, hbb⟩
theorem put_no {a : Int} {k s n c : Nat} {A : Option Addr} {w : World} (hn : n ≤ 9223372036854775807) (m : Int) (hm : may a s n = m) (h0 : ¬ m = 0) :
    Calls Tryd.prog 8 #[.int .i64 a, .int .u8 k, .int .u64 s, .slice A n c] w fun e w' => e = .returned (.tuple #[.slice none 0 0, .int .i64 m]) ∧ w = w' := by
  subst hm
  exact put_bad a k s A n c w hn h0
theorem rd_le {w : World} {B : Nat} {A : Option Addr} {c : Nat} {l : List UInt8} (h : Rd w B A c l) : l.length ≤ 9223372036854775807 := by
  have := h.1; have := h.2.1; unfold maxLen at this; omega
theorem gets_put {a : Int} {k s : Nat} {b : List UInt8} (h : may a s b.length = 0) (hk : k < 256) (hs : s < 18446744073709551616) (i : Int) (j : Nat) (hj : j < 256) : gets (Frm.frame a.toNat k s b) i j ↔ i = a ∧ j = k := by
  obtain ⟨h1, h2, h3, h4⟩ := (may_zero _ _ _).1 h
  rw [gets_frame a.toNat k s b i j h4 (by omega) hk hj hs h3]
  omega

set_option maxRecDepth 20000 in
set_option maxHeartbeats 1000000 in
theorem back_bad (a o : Int) (k s j n c : Nat) (A : Option Addr) (w : World) (hT : Tab w) (hn : n ≤ 9223372036854775807) (h : ¬ may a s n = 0) :
    Calls Tryd.prog 5 #[.int .i64 a, .int .u8 k, .int .u64 s, .slice A n c, .int .i64 o, .int .u8 j] w fun e w' => e = .returned (.bool true) ∧ Below w.heap.size w w' := by
  obtain ⟨m, hm⟩ : ∃ m, may a s n = m := ⟨_, rfl⟩
  rw [hm] at h
  have HT := Lib.hid hT
  have HM := Lib.hid hm
  have HN := Lib.hid hn
  have HH := Lib.hid h
  clear hT hm hn
  go_enter Tryd.func5, Tryd.ntmps5
  go_wp2_with (first
    | (go_at_call 10; refine (goes_any w HT.out).mono ?_; rintro e w2 ⟨rfl, hb2⟩; have B2 := Lib.hid hb2; clear hb2)
    | (go_at_call 8; refine (put_no HN.out m HM.out HH.out).mono ?_; rintro e w1 ⟨rfl, rfl⟩)
    | fail)
  go_ret
  exact ⟨rfl, B2.out⟩

set_option maxRecDepth 20000 in
set_option maxHeartbeats 2000000 in
theorem back_ok (a o : Int) (k s j n c : Nat) (A : Option Addr) (b : List UInt8) (w : World) (hT : Tab w) (hr : Rd w w.heap.size A c b) (hbl : b.length = n) (hk : k < 256) (hs : s < 18446744073709551616) (hj : j < 256) (h : may a s n = 0) (ans : Bool) (hans : ans = decide (o = a ∧ j = k)) :
    Calls Tryd.prog 5 #[.int .i64 a, .int .u8 k, .int .u64 s, .slice A n c, .int .i64 o, .int .u8 j] w fun e w' => e = .returned (.bool true) ∧ Below w.heap.size w w' := by
  have hb' : may a s b.length = 0 := by rw [hbl]; exact h
  have hle : b.length ≤ 4011 := ((may_zero _ _ _).1 hb').2.2.2
  have hpl : (Frm.frame a.toNat k s b).length = 4096 := Frm.length_frame _ _ _ _ hle
  have hnw : Frm.newest (Frm.frame a.toNat k s b) = s := Frm.newest_frame _ _ _ _ hle hs
  have hhd : Frm.held (Frm.frame a.toNat k s b) = b := Frm.held_frame _ _ _ _ hle
  have hg1 : gets (Frm.frame a.toNat k s b) a k := (gets_put hb' hk hs a k hk).2 ⟨rfl, rfl⟩
  have hg2 := gets_put hb' hk hs o j hj
  obtain ⟨P, hP⟩ : ∃ P, Frm.frame a.toNat k s b = P := ⟨_, rfl⟩
  rw [hP] at hpl hnw hhd hg1 hg2
  have HG : Hid (∀ W : World, Tab W → ∀ A' c', Rd W W.heap.size A' c' P → Calls Tryd.prog 13 #[.slice A' 4096 c', .int .i64 o, .int .u8 j] W fun e w' => ∃ v q, e = .returned (.tuple #[v, q, .bool ans]) ∧ Below W.heap.size W w') := by
    refine Lib.hid fun W hTW A' c' hrW => ?_
    refine (Get_any A' 4096 c' P o j W hTW hrW hpl hj).mono ?_
    rintro e w' ⟨h1, h2, h3⟩
    rw [hg2] at h1 h2
    by_cases hc : o = a ∧ j = k
    · obtain ⟨v, he, _⟩ := h1 hc
      exact ⟨v, _, by rw [he, hans, decide_eq_true hc], h3⟩
    · exact ⟨_, _, by rw [h2 hc, hans, decide_eq_false hc], h3⟩
  have HT := Lib.hid hT
  have HR := Lib.hid hr
  have HL := Lib.hid hbl
  have HH := Lib.hid h
  have HP := Lib.hid hP
  have HPL := Lib.hid hpl
  have HNW := Lib.hid hnw
  have HHD := Lib.hid hhd
  have HG1 := Lib.hid hg1
  have HS := Lib.hid hs
  clear hT hr hbl h hP hpl hnw hhd hg1 hg2 hs hb' hle
  by_cases h1 : o = a
  · subst h1
    by_cases h2 : j = k
    · subst h2
      obtain rfl : ans = true := by rw [hans]; simp
      clear hans
      go_enter Tryd.func5, Tryd.ntmps5
      go_wp2_with (first
        | (go_at_call 10; refine (goes_any w3 (HT.out.below B3.out HT.out.1)).mono ?_; rintro e w4 ⟨rfl, hb4⟩; have B4 := Lib.hid (B3.out.trans (hb4.mono B3.out.size)); clear hb4)
        | (go_at_call 13; refine (HG.out w2 (HT.out.below B2.out HT.out.1) _ _ R2.out).mono ?_; rintro e w3 ⟨v3, q3, rfl, hb3⟩; have k3 : (convert 23 9 (.slice A2 n c2)).run Tryd.prog w3 = .ok (.string (str b)) w3 := (by rw [← HL.out]; exact run_str_rd w3 (S2.out.below hb3)); have k4 : (convert 23 9 (.slice A n c)).run Tryd.prog w3 = .ok (.string (str b)) w3 := (by rw [← HL.out]; exact run_str_rd w3 (HR.out.below (B2.out.trans (hb3.mono B2.out.size)))); have B3 := Lib.hid (B2.out.trans (hb3.mono B2.out.size)); clear hb3)
        | (go_at_call 13; refine (get_yes (HT.out.below B1.out HT.out.1) R1.out HPL.out hk HG1.out s HNW.out b HHD.out).mono ?_; rintro e w2 ⟨v2, rfl, ho2, hb2⟩; obtain ⟨A2, c2, rfl, hr2, _⟩ := ho2.form; rw [HL.out]; have R2 := Lib.hid ((R1.out.below hb2).more hb2.size); have S2 := Lib.hid hr2; have B2 := Lib.hid (B1.out.trans (hb2.mono B1.out.size)); clear ho2 hr2 hb2)
        | (go_at_call 8; refine (put_yes HT.out hk HS.out HR.out HL.out HH.out).mono ?_; rintro e w1 ⟨g1, c1, rfl, _, hr1, hb1⟩; rw [HP.out] at hr1; have R1 := Lib.hid hr1; have B1 := Lib.hid hb1; clear hr1 hb1)
        | fail)
      go_ret
      exact ⟨rfl, B4.out⟩
    · obtain rfl : ans = false := by rw [hans]; simp [h2]
      clear hans
      have h2' : ¬ (j : Int) = k := by omega
      clear h2
      go_enter Tryd.func5, Tryd.ntmps5
      go_wp2_with (first
        | (go_at_call 10; refine (goes_any w3 (HT.out.below B3.out HT.out.1)).mono ?_; rintro e w4 ⟨rfl, hb4⟩; have B4 := Lib.hid (B3.out.trans (hb4.mono B3.out.size)); clear hb4)
        | (go_at_call 13; refine (HG.out w2 (HT.out.below B2.out HT.out.1) _ _ R2.out).mono ?_; rintro e w3 ⟨v3, q3, rfl, hb3⟩; have k3 : (convert 23 9 (.slice A2 n c2)).run Tryd.prog w3 = .ok (.string (str b)) w3 := (by rw [← HL.out]; exact run_str_rd w3 (S2.out.below hb3)); have k4 : (convert 23 9 (.slice A n c)).run Tryd.prog w3 = .ok (.string (str b)) w3 := (by rw [← HL.out]; exact run_str_rd w3 (HR.out.below (B2.out.trans (hb3.mono B2.out.size)))); have B3 := Lib.hid (B2.out.trans (hb3.mono B2.out.size)); clear hb3)
        | (go_at_call 13; refine (get_yes (HT.out.below B1.out HT.out.1) R1.out HPL.out hk HG1.out s HNW.out b HHD.out).mono ?_; rintro e w2 ⟨v2, rfl, ho2, hb2⟩; obtain ⟨A2, c2, rfl, hr2, _⟩ := ho2.form; rw [HL.out]; have R2 := Lib.hid ((R1.out.below hb2).more hb2.size); have S2 := Lib.hid hr2; have B2 := Lib.hid (B1.out.trans (hb2.mono B1.out.size)); clear ho2 hr2 hb2)
        | (go_at_call 8; refine (put_yes HT.out hk HS.out HR.out HL.out HH.out).mono ?_; rintro e w1 ⟨g1, c1, rfl, _, hr1, hb1⟩; rw [HP.out] at hr1; have R1 := Lib.hid hr1; have B1 := Lib.hid hb1; clear hr1 hb1)
        | fail)
      go_ret
      exact ⟨by simp [h2'], B4.out⟩
  · obtain rfl : ans = false := by rw [hans]; simp [h1]
    clear hans
    go_enter Tryd.func5, Tryd.ntmps5
    go_wp2_with (first
      | (go_at_call 10; refine (goes_any w3 (HT.out.below B3.out HT.out.1)).mono ?_; rintro e w4 ⟨rfl, hb4⟩; have B4 := Lib.hid (B3.out.trans (hb4.mono B3.out.size)); clear hb4)
      | (go_at_call 13; refine (HG.out w2 (HT.out.below B2.out HT.out.1) _ _ R2.out).mono ?_; rintro e w3 ⟨v3, q3, rfl, hb3⟩; have k3 : (convert 23 9 (.slice A2 n c2)).run Tryd.prog w3 = .ok (.string (str b)) w3 := (by rw [← HL.out]; exact run_str_rd w3 (S2.out.below hb3)); have k4 : (convert 23 9 (.slice A n c)).run Tryd.prog w3 = .ok (.string (str b)) w3 := (by rw [← HL.out]; exact run_str_rd w3 (HR.out.below (B2.out.trans (hb3.mono B2.out.size)))); have B3 := Lib.hid (B2.out.trans (hb3.mono B2.out.size)); clear hb3)
      | (go_at_call 13; refine (get_yes (HT.out.below B1.out HT.out.1) R1.out HPL.out hk HG1.out s HNW.out b HHD.out).mono ?_; rintro e w2 ⟨v2, rfl, ho2, hb2⟩; obtain ⟨A2, c2, rfl, hr2, _⟩ := ho2.form; rw [HL.out]; have R2 := Lib.hid ((R1.out.below hb2).more hb2.size); have S2 := Lib.hid hr2; have B2 := Lib.hid (B1.out.trans (hb2.mono B1.out.size)); clear ho2 hr2 hb2)
      | (go_at_call 8; refine (put_yes HT.out hk HS.out HR.out HL.out HH.out).mono ?_; rintro e w1 ⟨g1, c1, rfl, _, hr1, hb1⟩; rw [HP.out] at hr1; have R1 := Lib.hid hr1; have B1 := Lib.hid hb1; clear hr1 hb1)
      | fail)
    go_ret
    exact ⟨rfl, B4.out⟩
theorem frameBack_walk (a0 a1 a2 : Int) (A : Option Addr) (n c : Nat) (b : List UInt8) (hn : b.length = n) (a4 a5 : Int) (w : World) (hw : Tab w) (w0 : (Lit.int .i64 a0).wf = true) (w1 : (Lit.int .u8 a1).wf = true) (w2 : (Lit.int .u64 a2).wf = true) (w3 : Rd w w.heap.size A c b) (w4 : (Lit.int .i64 a4).wf = true) (w5 : (Lit.int .u8 a5).wf = true) :
    Calls Tryd.prog 5 #[.int .i64 a0, .int .u8 a1, .int .u64 a2, .slice A n c, .int .i64 a4, .int .u8 a5] w fun e w' => e = .returned (.bool true) ∧ Below w.heap.size w w' := by
  have b1 := bounds_u8 w1
  have b2 := bounds_u64 w2
  have b5 := bounds_u8 w5
  obtain ⟨k, rfl⟩ := Int.eq_ofNat_of_zero_le b1.1
  obtain ⟨s, rfl⟩ := Int.eq_ofNat_of_zero_le b2.1
  obtain ⟨j, rfl⟩ := Int.eq_ofNat_of_zero_le b5.1
  by_cases h : may a0 s n = 0
  · exact back_ok a0 a4 k s j n c A b w hw w3 hn (by omega) (by omega) (by omega) h _ rfl
  · exact back_bad a0 a4 k s j n c A w hw (by rw [← hn]; exact rd_le w3) h
end Go.Proofs.YtmekdodkpimabaaDoor
