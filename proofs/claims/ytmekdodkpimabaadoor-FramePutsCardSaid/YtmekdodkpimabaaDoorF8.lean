import Derived.Test.YtmekdodkpimabaaDoorF7
namespace Go.Proofs.YtmekdodkpimabaaDoor
open Go.RowKit Mem
attribute [local go_sem] Oper.semAt_some

theorem gets_frame (a k s : Nat) (b : List UInt8) (i : Int) (j : Nat) (hb : b.length ≤ 4011) (ha : a < 4096) (hk : k < 256) (hj : j < 256) (hs : s < 18446744073709551616) (hs0 : s ≠ 0) : gets (Frm.frame a k s b) i j ↔ i = a ∧ j = k := by
  unfold gets
  rw [Frm.whole_frame a k s i.toNat j b hb ha hk hj hs (by omega)]
  omega
def pg5 : List UInt8 := Frm.frame 5 1 9 [97, 98]
theorem pg5_len : pg5.length = 4096 := Frm.length_frame _ _ _ _ (by decide)
theorem pg5_new : Frm.newest pg5 = 9 := Frm.newest_frame _ _ _ _ (by decide) (by decide)
theorem pg5_held : Frm.held pg5 = [97, 98] := Frm.held_frame _ _ _ _ (by decide)
theorem pg5_gets (i : Int) (j : Nat) (hj : j < 256) : gets pg5 i j ↔ i = 5 ∧ j = 1 := gets_frame 5 1 9 [97, 98] i j (by decide) (by decide) (by decide) hj (by decide) (by decide)

set_option maxRecDepth 20000 in
set_option maxHeartbeats 1000000 in
theorem goes_any (w : World) (hT : Tab w) : Calls Tryd.prog 10 #[] w fun e w' => e = .returned (.bool true) ∧ Below w.heap.size w w' := by
  have kc := fun (w : World) (C : Array Value) (n c : Nat) => Lib.run_convert_bytes_const (P := Tryd.prog) w 23 5 C n c Tryd.underlying23 Tryd.underlying5
  have h0 := rd_lit w [97, 98] (bcs [97, 98]) rfl (by decide) (2, 3)
  have HT := Lib.hid hT
  have H0 : Hid (Rd (w.alloc (.cells #[.int .u8 97, .int .u8 98] 5 (2, 3))) (w.alloc (.cells #[.int .u8 97, .int .u8 98] 5 (2, 3))).heap.size (some ⟨w.heap.size, 0, none⟩) 2 [97, 98]) := Lib.hid h0
  have B0 : Hid (Below w.heap.size w (w.alloc (.cells #[.int .u8 97, .int .u8 98] 5 (2, 3)))) := Lib.hid ((Below.refl _ w).alloc (Nat.le_refl _) _)
  clear hT h0
  go_enter Tryd.func10, Tryd.ntmps10
  go_wp2_with (first
    | (go_at_call 12; refine (Newest_any A1 4096 c1 pg5 w4 R4.out pg5_len).mono ?_; rintro e w6 ⟨rfl, hb6⟩; rw [pg5_new]; have B6 := Lib.hid (B4.out.trans (hb6.mono B4.out.size)); clear hb6)
    | (go_at_call 8; refine (put_bad 5 1 0 none 0 0 w4 (by decide) (by decide)).mono ?_; rintro e w5 ⟨rfl, rfl⟩; rw [show may 5 0 0 = 1 by decide]; have k5 : (convert 23 9 (.slice A2 2 c2)).run Tryd.prog w4 = .ok (.string ⟨#[97, 98]⟩) w4 := run_str_rd w4 S4.out)
    | (go_at_call 13; refine (get_no (HT.out.below B3.out HT.out.1) R3.out pg5_len (by decide) (fun h => absurd ((pg5_gets 5 2 (by decide)).1 h).2 (by decide))).mono ?_; rintro e w4 ⟨rfl, hb4⟩; have R4 := Lib.hid ((R3.out.below hb4).more hb4.size); have S4 := Lib.hid ((S3.out.below hb4).more hb4.size); have B4 := Lib.hid (B3.out.trans (hb4.mono B3.out.size)); clear hb4)
    | (go_at_call 13; refine (get_no (HT.out.below B2.out HT.out.1) R2.out pg5_len (by decide) (fun h => absurd ((pg5_gets 6 1 (by decide)).1 h).1 (by decide))).mono ?_; rintro e w3 ⟨rfl, hb3⟩; have R3 := Lib.hid ((R2.out.below hb3).more hb3.size); have S3 := Lib.hid ((S2.out.below hb3).more hb3.size); have B3 := Lib.hid (B2.out.trans (hb3.mono B2.out.size)); clear hb3)
    | (go_at_call 13; refine (get_yes (HT.out.below B1.out HT.out.1) R1.out pg5_len (by decide) ((pg5_gets 5 1 (by decide)).2 ⟨rfl, rfl⟩) 9 pg5_new _ pg5_held).mono ?_; rintro e w2 ⟨v2, rfl, ho2, hb2⟩; obtain ⟨A2, c2, rfl, hr2, _⟩ := ho2.form; have R2 := Lib.hid ((R1.out.below hb2).more hb2.size); have S2 := Lib.hid hr2; have B2 := Lib.hid (B1.out.trans (hb2.mono B1.out.size)); clear ho2 hr2 hb2)
    | (go_at_call 8; refine (put_ok 5 1 9 (some ⟨w.heap.size, 0, none⟩) 2 2 [97, 98] _ (HT.out.alloc _) (by decide) (by decide) (by decide) (by decide) H0.out rfl (by decide)).mono ?_; rintro e w1 ⟨v1, rfl, ho1, hb1⟩; obtain ⟨A1, c1, rfl, hr1, _⟩ := ho1.form; rw [show (Frm.frame 5 1 9 [97, 98]).length = 4096 from pg5_len]; have R1 : Hid (Rd w1 w1.heap.size A1 c1 pg5) := Lib.hid hr1; have B1 := Lib.hid (B0.out.trans (hb1.mono B0.out.size)); clear ho1 hr1 hb1)
    | fail)
  go_ret
  exact ⟨rfl, B6.out⟩
end Go.Proofs.YtmekdodkpimabaaDoor
