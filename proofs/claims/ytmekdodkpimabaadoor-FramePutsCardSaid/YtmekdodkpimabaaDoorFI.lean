import Derived.Test.YtmekdodkpimabaaDoorF9
import Derived.Test.YtmekdodkpimabaaDoorFH
namespace Go.Proofs.YtmekdodkpimabaaDoor
set_option linter.unusedVariables false
set_option linter.unusedSimpArgs false
open Go.RowKit Mem
attribute [local go_sem] Oper.semAt_some

theorem tab_low {w w' : World} (h : Tab w) (hb : Below w.heap.size w w') : Tab w' := h.below hb h.1

set_option maxRecDepth 20000 in
set_option maxHeartbeats 2000000 in
theorem puts_bad (a : Int) (k s n c : Nat) (A : Option Addr) (b : List UInt8) (w : World) (hT : Tab w) (hr : Rd w w.heap.size A c b) (hbl : b.length = n) (hn : n ≤ 5000) (m : Int) (hm : may a s n = m) (h : ¬ m = 0) :
    Calls Tryd.prog 3 #[.int .i64 a, .int .u8 k, .int .u64 s, .slice A n c] w fun e w' => e = .returned (.bool true) ∧ Below w.heap.size w w' := by
  have k0 : (convert 23 9 (.slice A n c)).run Tryd.prog w = .ok (.string (str b)) w := by rw [← hbl]; exact run_str_rd w hr
  have HT := Lib.hid hT
  have HM := Lib.hid hm
  have HH := Lib.hid h
  have i0 : ¬ (5000 : Int) < n := by omega
  clear hT hm hr hbl
  go_enter Tryd.func3, Tryd.ntmps3
  go_wp2_with (first
    | (go_at_call 10; refine (goes_any w HT.out).mono ?_; rintro e w3 ⟨rfl, hb3⟩; have B3 := Lib.hid hb3; clear hb3)
    | (go_at_call 9; refine (May_any a s n w (by omega)).mono ?_; rintro e w2 ⟨rfl, rfl⟩; rw [HM.out])
    | (go_at_call 8; refine (put_no (by omega) m HM.out HH.out).mono ?_; rintro e w1 ⟨rfl, rfl⟩)
    | fail)
  go_ret
  exact ⟨rfl, B3.out⟩

set_option maxRecDepth 20000 in
set_option maxHeartbeats 2000000 in
theorem puts_ok (a : Int) (k s n c : Nat) (A : Option Addr) (b : List UInt8) (w : World) (hT : Tab w) (hr : Rd w w.heap.size A c b) (hbl : b.length = n) (hk : k < 256) (hs : s < 18446744073709551616) (h : may a s n = 0) :
    Calls Tryd.prog 3 #[.int .i64 a, .int .u8 k, .int .u64 s, .slice A n c] w fun e w' => e = .returned (.bool true) ∧ Below w.heap.size w w' := by
  obtain ⟨h1, h2, h3, h4⟩ := (may_zero a s n).1 h
  obtain ⟨a', rfl⟩ := Int.eq_ofNat_of_zero_le h1
  have k0 : (convert 23 9 (.slice A n c)).run Tryd.prog w = .ok (.string (str b)) w := by rw [← hbl]; exact run_str_rd w hr
  obtain ⟨P, hP⟩ : ∃ P, Frm.frame a' k s b = P := ⟨_, rfl⟩
  have hPl : P.length = 4096 := by rw [← hP]; exact Frm.length_frame _ _ _ _ (by omega)
  have hPn : Frm.newest P = s := by rw [← hP]; exact Frm.newest_frame _ _ _ _ (by omega) hs
  have HF : Hid (∀ W : World, Calls Tryd.prog 11 #[.int .i64 a', .int .u8 k, .int .u64 s, .string (str b)] W fun e w' => e = .returned (.string (str P)) ∧ Below W.heap.size W w') := Lib.hid fun W => by
    rw [← hP]
    exact frame_ref a' k s n b W (by omega) hk hs hbl h4
  have HP : Hid (Calls Tryd.prog 8 #[.int .i64 a', .int .u8 k, .int .u64 s, .slice A n c] w fun e w' => ∃ A1 c1, e = .returned (.tuple #[.slice A1 4096 c1, .int .i64 0]) ∧ Rd w' w'.heap.size A1 c1 P ∧ Below w.heap.size w w') := by
    refine Lib.hid ((put_yes hT hk hs hr hbl h).mono ?_)
    rintro e w' ⟨g, c', he, _, hrd, hb⟩
    rw [Int.toNat_natCast, hP] at hrd
    exact ⟨_, _, he, hrd, hb⟩
  have HT := Lib.hid hT
  have HM := Lib.hid h
  have HR := Lib.hid hr
  have HL := Lib.hid hbl
  have LP := Lib.hid hPl
  have NP := Lib.hid hPn
  have i0 : ¬ (5000 : Int) < n := by omega
  have hn5 : n ≤ 9223372036854775807 := by omega
  clear hT h hr hbl hP hPl hPn h1 h2 h3 h4 hs
  go_enter Tryd.func3, Tryd.ntmps3
  go_upto_region 10 with (first
    | (go_at_call 9; refine (May_any a' s n w1 hn5).mono ?_; rintro e w2 ⟨rfl, rfl⟩; rw [HM.out])
    | (go_at_call 8; refine HP.out.mono ?_; rintro e w1 ⟨A1, c1, rfl, hr1, hb1⟩; have k1 : (convert 23 9 (.slice A n c)).run Tryd.prog w1 = .ok (.string (str b)) w1 := (by rw [← HL.out]; exact run_str_rd w1 (HR.out.below hb1)); have R1 := Lib.hid hr1; have B1 := Lib.hid hb1; clear hr1 hb1)
    | fail)
  have k2 : (convert 23 9 (.slice A1 4096 c1)).run Tryd.prog w1.drew = .ok (.string (str P)) w1.drew := by rw [← LP.out]; exact run_str_rd _ (R1.out.below ((Below.refl w1.heap.size w1).drew))
  have RD : Hid (Rd w1.drew w1.drew.heap.size A1 c1 P) := Lib.hid (R1.out.below ((Below.refl w1.heap.size w1).drew))
  have BD : Hid (Below w.heap.size w w1.drew) := Lib.hid B1.out.drew
  clear k0 k1
  go_region_with (first
    | (go_at_call 10; refine (goes_any w4 (tab_low HT.out B4.out)).mono ?_; rintro e w5 ⟨rfl, hb5⟩; have B5 := Lib.hid (B4.out.trans (hb5.mono B4.out.size)); clear hb5)
    | (go_at_call 12; refine (Newest_any A1 4096 c1 P w3 R3.out LP.out).mono ?_; rintro e w4 ⟨rfl, hb4⟩; rw [NP.out]; have B4 := Lib.hid (B3.out.trans (hb4.mono B3.out.size)); clear hb4)
    | (go_at_call 11; refine (HF.out _).mono ?_; rintro e w3 ⟨rfl, hb3⟩; have k3 : (convert 23 9 (.slice A1 4096 c1)).run Tryd.prog w3 = .ok (.string (str P)) w3 := (by rw [← LP.out]; exact run_str_rd _ (RD.out.below hb3)); have R3 := Lib.hid ((RD.out.below hb3).more hb3.size); have B3 := Lib.hid (BD.out.trans (hb3.mono BD.out.size)); clear hb3)
    | fail)
  all_goals go_wp2_with fail
  all_goals go_ret
  all_goals exact ⟨rfl, B5.out⟩

theorem framePuts_walk (a0 a1 a2 : Int) (A3 : Option Addr) (n3 c3 : Nat) (b : List UInt8) (hn : b.length = n3) (w : World) (hw : Tab w) (w0 : (Lit.int .i64 a0).wf = true) (w1 : (Lit.int .u8 a1).wf = true) (w2 : (Lit.int .u64 a2).wf = true) (w3 : Rd w w.heap.size A3 c3 b) :
    Calls Tryd.prog 3 #[.int .i64 a0, .int .u8 a1, .int .u64 a2, .slice A3 n3 c3] w fun e w' => e = .returned (.bool true) ∧ Below w.heap.size w w' := by
  have b1 := bounds_u8 w1
  have b2 := bounds_u64 w2
  obtain ⟨k, rfl⟩ := Int.eq_ofNat_of_zero_le b1.1
  obtain ⟨s, rfl⟩ := Int.eq_ofNat_of_zero_le b2.1
  have hc : (n3 : Int) ≤ 9223372036854775807 := by have := rd_le w3; omega
  by_cases hbig : 5000 < n3
  · have i0 : (5000 : Int) < n3 := by omega
    clear w3 b1 b2
    go_enter Tryd.func3, Tryd.ntmps3
    go_wp2
    go_ret
    exact ⟨rfl, Below.refl _ _⟩
  · by_cases h : may a0 s n3 = 0
    · exact puts_ok a0 k s n3 c3 A3 b w hw w3 hn (by omega) (by omega) h
    · exact puts_bad a0 k s n3 c3 A3 b w hw w3 hn (by omega) _ rfl h
end Go.Proofs.YtmekdodkpimabaaDoor
