import Derived.Test.YtmekdodkpimabaaDoorF9
namespace Go.Proofs.YtmekdodkpimabaaDoor
open Go.RowKit Mem
attribute [local go_sem] Oper.semAt_some

theorem val_zeros (n : Nat) : val (List.replicate n 0) = 0 := by
  induction n with
  | zero => rfl
  | succ n ih =>
    rw [List.replicate_succ']
    simp [val] at ih ⊢
    try omega
theorem newest_zpage : Frm.newest zpage = 0 := by
  unfold Frm.newest
  rw [if_pos length_zpage]
  refine Frm.newest_marks _ 0 8 (fun k hk => ?_) (by omega)
  unfold Frm.mark zpage
  rw [List.drop_replicate, List.take_replicate]
  exact val_zeros _
theorem not_gets_zpage (a : Int) (k : Nat) : ¬ gets zpage a k := fun h => by
  have := h.2.2.1
  rw [newest_zpage] at this
  omega
theorem not_gets_nil (a : Int) (k : Nat) : ¬ gets [] a k := fun h => by
  have := Frm.length_whole _ _ _ h.2
  simp at this
/-- A new slice of bytes 0. -/
theorem make_z (n : Nat) (hn : n ≤ 10000) (C : Array Value) (hC : bcs (zeros n) = C) : ∀ W, (Instr.makeSlice 23 (.int .i64 (n : Int)) (.int .i64 (n : Int))).run Tryd.prog W = .ok (.slice (some ⟨W.heap.size, 0, none⟩) n n) (W.alloc (.cells C 5)) := by
  intro W
  have hr := run_make_row' (P := Tryd.prog) 23 5 (.int .u8 0) 1 Tryd.underlying23 u8_info rfl .i64 .i64 n (by omega) (by omega) W
  rw [bcs_zeros] at hr
  rw [← hC]
  exact hr
theorem rd_z (w : World) (n : Nat) (hn : n ≤ 10000) (C : Array Value) (hC : bcs (zeros n) = C) : Rd (w.alloc (.cells C 5)) (w.alloc (.cells C 5)).heap.size (some ⟨w.heap.size, 0, none⟩) n (zeros n) := by
  subst hC
  have := rd_litc w (zeros n) _ rfl (by unfold zeros; rw [List.length_replicate]; omega)
  unfold zeros at *
  rw [List.length_replicate] at this
  exact this
theorem length_zeros (n : Nat) : (zeros n).length = n := List.length_replicate
theorem zpage_zeros : zeros 4096 = zpage := rfl

theorem Tab.low {w w' : World} (h : Tab w) (hb : Below w.heap.size w w') : Tab w' := h.below hb h.1
theorem big : ((18446744073709551615 : Nat) : Int) = 18446744073709551615 := rfl
theorem kPut (W : World) (hT : Tab W) (A : Option Addr) (c : Nat) (Z : List UInt8) (hZ : Z.length = 4011) (hr : Rd W W.heap.size A c Z) (hm : may 0 18446744073709551615 4011 = 0) (P : List UInt8) (hP : Frm.frame (0 : Int).toNat 255 18446744073709551615 Z = P) :
    Calls Tryd.prog 8 #[.int .i64 0, .int .u8 255, .int .u64 18446744073709551615, .slice A 4011 c] W fun e w' => ∃ A c', e = .returned (.tuple #[.slice A 4096 c', .int .i64 0]) ∧ Rd w' w'.heap.size A c' P ∧ Below W.heap.size W w' := by
  have h := put_yes (a := 0) (k := 255) (s := 18446744073709551615) (n := 4011) (c := c) (A := A) (b := Z) (w := W) hT (by decide) (by decide) hr hZ hm
  rw [big, hP] at h
  refine h.mono ?_
  rintro e w' ⟨g, c', he, _, h1, h2⟩
  exact ⟨_, _, he, h1, h2⟩
theorem kGet (W : World) (hT : Tab W) (A : Option Addr) (c : Nat) (Z P : List UInt8) (hr : Rd W W.heap.size A c P) (hp : P.length = 4096) (hZ : Z.length = 4011) (hpg : gets P 0 255) (hpn : Frm.newest P = 18446744073709551615) (hph : Frm.held P = Z) :
    Calls Tryd.prog 13 #[.slice A 4096 c, .int .i64 0, .int .u8 255] W fun e w' => ∃ A c, e = .returned (.tuple #[.slice A 4011 c, .int .u64 18446744073709551615, .bool true]) ∧ Below W.heap.size W w' := by
  have h := get_yes (a := 0) (k := 255) (n := 4096) (c := c) (A := A) hT hr hp (by decide) hpg 18446744073709551615 hpn Z hph
  rw [big] at h
  refine h.mono ?_
  rintro e w' ⟨v, he, ho, hb⟩
  obtain ⟨A2, c2, rfl, _, _⟩ := ho.form
  rw [hZ] at he
  exact ⟨A2, c2, he, hb⟩

theorem kNo1 (w : World) : Calls Tryd.prog 8 #[.int .i64 (-1), .int .u8 1, .int .u64 1, .slice none 0 0] w fun e w' => e = .returned (.tuple #[.slice none 0 0, .int .i64 1]) ∧ w = w' := put_no (a := -1) (k := 1) (s := 1) (by decide) 1 (by decide) (by decide)
theorem kNo2 (w : World) : Calls Tryd.prog 8 #[.int .i64 4096, .int .u8 1, .int .u64 1, .slice none 0 0] w fun e w' => e = .returned (.tuple #[.slice none 0 0, .int .i64 1]) ∧ w = w' := put_no (a := 4096) (k := 1) (s := 1) (by decide) 1 (by decide) (by decide)
theorem kNo3 (w : World) (A : Option Addr) (c : Nat) : Calls Tryd.prog 8 #[.int .i64 0, .int .u8 1, .int .u64 1, .slice A 4012 c] w fun e w' => e = .returned (.tuple #[.slice none 0 0, .int .i64 2]) ∧ w = w' := put_no (a := 0) (k := 1) (s := 1) (by decide) 2 (by decide) (by decide)

set_option maxRecDepth 20000 in
set_option maxHeartbeats 2000000 in
theorem frameKnown_walk (w : World) (hw : Tab w) : Calls Tryd.prog 7 #[] w fun e w' => e = .returned (.bool true) ∧ Below w.heap.size w w' := by
  obtain ⟨C1, hC1⟩ : ∃ C, bcs (zeros 4011) = C := ⟨_, rfl⟩
  obtain ⟨C2, hC2⟩ : ∃ C, bcs (zeros 4012) = C := ⟨_, rfl⟩
  obtain ⟨C3, hC3⟩ : ∃ C, bcs (zeros 4096) = C := ⟨_, rfl⟩
  have m1 : ∀ W, (Instr.makeSlice 23 (.int .i64 4011) (.int .i64 4011)).run Tryd.prog W = .ok (.slice (some ⟨W.heap.size, 0, none⟩) 4011 4011) (W.alloc (.cells C1 5)) := make_z 4011 (by omega) C1 hC1
  have m2 : ∀ W, (Instr.makeSlice 23 (.int .i64 4012) (.int .i64 4012)).run Tryd.prog W = .ok (.slice (some ⟨W.heap.size, 0, none⟩) 4012 4012) (W.alloc (.cells C2 5)) := make_z 4012 (by omega) C2 hC2
  have m3 : ∀ W, (Instr.makeSlice 23 (.int .i64 4096) (.int .i64 4096)).run Tryd.prog W = .ok (.slice (some ⟨W.heap.size, 0, none⟩) 4096 4096) (W.alloc (.cells C3 5)) := make_z 4096 (by omega) C3 hC3
  obtain ⟨Z, hZ⟩ : ∃ Z, zeros 4011 = Z := ⟨_, rfl⟩
  have hZl : Z.length = 4011 := by rw [← hZ]; exact length_zeros _
  have r1 : ∀ W : World, Rd (W.alloc (.cells C1 5)) (W.alloc (.cells C1 5)).heap.size (some ⟨W.heap.size, 0, none⟩) 4011 Z := fun W => by rw [← hZ]; exact rd_z W 4011 (by omega) C1 hC1
  have r3 : ∀ (W : World) (q : Nat), W.heap.size = q → Rd (W.alloc (.cells C3 5)) (W.alloc (.cells C3 5)).heap.size (some ⟨q, 0, none⟩) 4096 zpage := fun W q hq => by subst hq; exact rd_z W 4096 (by omega) C3 hC3
  have hm : may 0 18446744073709551615 4011 = 0 := by decide
  obtain ⟨P, hP⟩ : ∃ P, Frm.frame (0 : Int).toNat 255 18446744073709551615 Z = P := ⟨_, rfl⟩
  have hpl : P.length = 4096 := by rw [← hP]; exact Frm.length_frame _ _ _ _ (by omega)
  have hpn : Frm.newest P = 18446744073709551615 := by rw [← hP]; exact Frm.newest_frame _ _ _ _ (by omega) (by decide)
  have hph : Frm.held P = Z := by rw [← hP]; exact Frm.held_frame _ _ _ _ (by omega)
  have hpg : gets P 0 255 := by rw [← hP]; exact (gets_put (by rw [hZl]; exact hm) (by decide) (by decide) 0 255 (by decide)).2 ⟨rfl, rfl⟩
  have HT := Lib.hid hw
  have R1 := Lib.hid r1
  have R3 := Lib.hid r3
  have HZ := Lib.hid hZl
  have HM := Lib.hid hm
  have HP := Lib.hid hP
  have HPL := Lib.hid hpl
  have HPN := Lib.hid hpn
  have HPH := Lib.hid hph
  have HPG := Lib.hid hpg
  have HE : Hid (∀ (W : World) (o : Obj), Below W.heap.size W (W.alloc o)) := Lib.hid fun W o => (Below.refl _ W).alloc (Nat.le_refl _) o
  clear hw r1 r3 hZl hm hP hpl hpn hph hpg hZ hC1 hC2 hC3
  go_enter Tryd.func7, Tryd.ntmps7
  go_wp2_with (first
    | (go_at_call 10; refine (goes_any w6 (HT.out.low B6.out)).mono ?_; rintro e w7 ⟨rfl, hb7⟩; have B7 := Lib.hid (B6.out.trans (hb7.mono B6.out.size)); clear hb7)
    | (go_at_call 12; refine (Newest_any none 0 0 [] w5 (Rd.nil _ _) rfl).mono ?_; rintro e w6 ⟨rfl, hb6⟩; rw [show Frm.newest [] = 0 from rfl]; have B6 := Lib.hid (B5.out.trans (hb6.mono B5.out.size)); clear hb6)
    | (go_at_call 12; refine (Newest_any _ 4096 4096 zpage _ (R3.out w4 _ rfl) length_zpage).mono ?_; rintro e w5 ⟨rfl, hb5⟩; rw [newest_zpage]; have B5 := Lib.hid (B4.out.trans (((HE.out w4 _).trans (hb5.mono (HE.out w4 _).size)).mono B4.out.size)); clear hb5)
    | (go_at_call 13; refine (get_no (HT.out.low B3.out) (Rd.nil w3 _) (n := 0) rfl (by decide) (not_gets_nil 0 0)).mono ?_; rintro e w4 ⟨rfl, hb4⟩; have B4 := Lib.hid (B3.out.trans (hb4.mono B3.out.size)); clear hb4)
    | (go_at_call 13; refine (get_no (HT.out.low (B2.out.trans (((HE.out w2 (.cells C2 5)).trans ((HE.out (w2.alloc (.cells C2 5)) (.cells C3 5)).mono (HE.out w2 (.cells C2 5)).size)).mono B2.out.size))) (R3.out (w2.alloc (.cells C2 5)) (w2.heap.size + 1) (size_alloc' _ _)) length_zpage (by decide) (not_gets_zpage 0 0)).mono ?_; rintro e w3 ⟨rfl, hb3⟩; have B3 := Lib.hid (B2.out.trans ((((HE.out w2 (.cells C2 5)).trans ((HE.out (w2.alloc (.cells C2 5)) (.cells C3 5)).mono (HE.out w2 (.cells C2 5)).size)).trans (hb3.mono (Nat.le_trans (HE.out w2 (.cells C2 5)).size (HE.out (w2.alloc (.cells C2 5)) (.cells C3 5)).size))).mono B2.out.size)); clear hb3)
    | (go_at_call 8; (with_reducible refine (kNo1 _).mono ?_); rintro e wx ⟨rfl, rfl⟩)
    | (go_at_call 8; (with_reducible refine (kNo2 _).mono ?_); rintro e wx ⟨rfl, rfl⟩)
    | (go_at_call 8; (with_reducible refine (kNo3 _ _ _).mono ?_); rintro e wx ⟨rfl, rfl⟩)
    | (go_at_call 13; (with_reducible refine (kGet w1 (HT.out.low B1.out) A1 c1 Z P Q1.out HPL.out HZ.out HPG.out HPN.out HPH.out).mono ?_); rintro e w2 ⟨A2, c2, rfl, hb2⟩; have B2 := Lib.hid (B1.out.trans (hb2.mono B1.out.size)); clear hb2)
    | (go_at_call 8; (with_reducible refine (kPut _ (HT.out.alloc _) _ _ Z HZ.out (R1.out w) HM.out P HP.out).mono ?_); rintro e w1 ⟨A1, c1, rfl, hr1, hb1⟩; have Q1 := Lib.hid hr1; have B1 := Lib.hid ((HE.out w _).trans (hb1.mono (HE.out w _).size)); clear hr1 hb1)
    | fail)
  go_ret
  exact ⟨rfl, B7.out⟩
end Go.Proofs.YtmekdodkpimabaaDoor
