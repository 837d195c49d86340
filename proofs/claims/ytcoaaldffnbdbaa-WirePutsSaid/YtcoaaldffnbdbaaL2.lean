import Derived.Test.YtcoaaldffnbdbaaL1
namespace Go.Proofs.Ytcoaaldffnbdbaa
open Go.RowKit Mem

theorem New_lit (cs : Array Value) (l : List UInt8) (w : World) (n : Nat) (hn : n = l.length) (hc : cs = bcs l) (h : l.length ≤ 1000) :
    Calls Try.prog 17 #[.slice (some ⟨w.heap.size, 0, none⟩) n n] (w.alloc (.cells cs 5)) fun e w' => ∃ g, e = .returned (.pointer (some ⟨g, 0, none⟩)) ∧ w.heap.size ≤ g ∧ RdrS w' g ⟨l, false⟩ ∧ Below w.heap.size w w' := by
  subst hn
  refine (New_any _ _ l.length l _ (rd_lit w l cs hc h) rfl (by omega)).mono ?_
  rintro e w1 ⟨g, rfl, hg, hs, hb⟩
  rw [size_alloc'] at hg hb
  exact ⟨g, rfl, by omega, hs, below_alloc w _ hb⟩

set_option maxHeartbeats 2000000 in
theorem wireKnown_walk (w : World) : Calls Try.prog 9 #[] w fun e w' => e = .returned (.bool true) ∧ Below w.heap.size w w' := by
  go_enter Try.func9, Try.ntmps9
  go_wp2_with fail
  refine (Bad_nil _).mono ?_
  rintro e w1 ⟨rfl, rfl⟩
  go_wp2_with fail
  refine (RByte_nil _).mono ?_
  rintro e w1 ⟨rfl, rfl⟩
  go_wp2_with fail
  refine (RUint_nil _).mono ?_
  rintro e w1 ⟨rfl, rfl⟩
  go_wp2_with fail
  refine (RInt_nil _).mono ?_
  rintro e w1 ⟨rfl, rfl⟩
  go_wp2_with fail
  refine (RText_nil _).mono ?_
  rintro e w1 ⟨rfl, rfl⟩
  go_wp2_with fail
  refine (RCount_nil _ 5).mono ?_
  rintro e w1 ⟨rfl, hb⟩
  have HB1 := Lib.hid hb
  clear hb
  go_wp2_with fail
  refine (RDone_nil _).mono ?_
  rintro e w2 ⟨rfl, rfl⟩
  go_wp2_with fail
  -- r
  refine (Int_any none 0 [] (-2) w1 (Rd.nil _ _) (by simp)).mono ?_
  rintro e w2 ⟨v2, rfl, hown, hb⟩
  rw [show [] ++ be 8 (unsig (-2)) = [255, 255, 255, 255, 255, 255, 255, 254] by kernel_rfl] at hown
  obtain ⟨A2, c2, rfl, hr2, _, _⟩ := hown.form
  have HB2 := Lib.hid (HB1.out.trans (hb.mono HB1.out.size))
  have HR2 := Lib.hid hr2
  clear hown hb hr2
  go_wp2_with fail
  refine (Uint_any A2 c2 _ 3 w2 HR2.out (by simp) (by omega) (by omega)).mono ?_
  rintro e w3 ⟨v3, rfl, hown, hb⟩
  rw [show [255, 255, 255, 255, 255, 255, 255, 254] ++ be 8 (3 : Int).toNat = [255, 255, 255, 255, 255, 255, 255, 254, 0, 0, 0, 0, 0, 0, 0, 3] by kernel_rfl] at hown
  obtain ⟨A3, c3, rfl, hr3, _, _⟩ := hown.form
  have HB3 := Lib.hid (HB2.out.trans (hb.mono HB2.out.size))
  have HR3 := Lib.hid hr3
  clear hown hb hr3
  go_wp2_with fail
  refine (New_any A3 c3 _ _ w3 HR3.out rfl (by simp)).mono ?_
  rintro e w4 ⟨g, rfl, hg, hs, hb⟩
  have HG := Lib.hid (Nat.le_trans HB3.out.size hg)
  have HS := Lib.hid hs
  have HB4 := Lib.hid (HB3.out.trans (hb.mono HB3.out.size))
  clear hg hs hb
  go_wp2_with fail
  refine (RInt_any g _ w4 HS.out).mono ?_
  rintro e w5 ⟨rfl, hl⟩
  rw [show wrap64 (((⟨[255, 255, 255, 255, 255, 255, 255, 254, 0, 0, 0, 0, 0, 0, 0, 3], false⟩ : St).num 8 : Nat) : Int) = -2 by kernel_rfl]
  rw [show (⟨[255, 255, 255, 255, 255, 255, 255, 254, 0, 0, 0, 0, 0, 0, 0, 3], false⟩ : St).after 8 = ⟨[0, 0, 0, 0, 0, 0, 0, 3], false⟩ by kernel_rfl] at hl
  have HS5 := Lib.hid hl.1
  have HB5 := Lib.hid (HB4.out.trans (hl.below HG.out HB4.out.size))
  clear hl
  go_wp2_with fail
  refine (RCount_any g _ w5 3 HS5.out (by omega) (by omega)).mono ?_
  rintro e w6 ⟨rfl, hl⟩
  rw [show (⟨[0, 0, 0, 0, 0, 0, 0, 3], false⟩ : St).count 3 = 3 by kernel_rfl]
  rw [show (⟨[0, 0, 0, 0, 0, 0, 0, 3], false⟩ : St).countAfter 3 = ⟨[], false⟩ by kernel_rfl] at hl
  have HS6 := Lib.hid hl.1
  have HB6 := Lib.hid (HB5.out.trans (hl.below HG.out HB5.out.size))
  clear hl
  go_wp2_with fail
  refine (RDone_any g _ w6 HS6.out).mono ?_
  rintro e w7 ⟨rfl, rfl⟩
  rw [show (⟨[], false⟩ : St).done = 0 by kernel_rfl]
  go_wp2_with fail
  -- s
  refine (Uint_any none 0 [] 3 w6 (Rd.nil _ _) (by simp) (by omega) (by omega)).mono ?_
  rintro e w7 ⟨v7, rfl, hown, hb⟩
  rw [show [] ++ be 8 (3 : Int).toNat = [0, 0, 0, 0, 0, 0, 0, 3] by kernel_rfl] at hown
  obtain ⟨A7, c7, rfl, hr7, _, _⟩ := hown.form
  have HB7 := Lib.hid (HB6.out.trans (hb.mono HB6.out.size))
  have HR7 := Lib.hid hr7
  clear hown hb hr7
  go_wp2_with fail
  refine (New_any A7 c7 _ _ w7 HR7.out rfl (by simp)).mono ?_
  rintro e w8 ⟨gs, rfl, hg, hs, hb⟩
  have HG8 := Lib.hid (Nat.le_trans HB7.out.size hg)
  have HS8 := Lib.hid hs
  have HB8 := Lib.hid (HB7.out.trans (hb.mono HB7.out.size))
  clear hg hs hb
  go_wp2_with fail
  refine (RCount_any gs _ w8 2 HS8.out (by omega) (by omega)).mono ?_
  rintro e w9 ⟨rfl, hl⟩
  rw [show (⟨[0, 0, 0, 0, 0, 0, 0, 3], false⟩ : St).count 2 = 0 by kernel_rfl]
  rw [show (⟨[0, 0, 0, 0, 0, 0, 0, 3], false⟩ : St).countAfter 2 = ⟨[], true⟩ by kernel_rfl] at hl
  have HS9 := Lib.hid hl.1
  have HB9 := Lib.hid (HB8.out.trans (hl.below HG8.out HB8.out.size))
  clear hl
  go_wp2_with fail
  -- none
  refine (New_any none 0 0 [] w9 (Rd.nil _ _) rfl (by omega)).mono ?_
  rintro e w10 ⟨gn, rfl, hg, hs, hb⟩
  have HS10 := Lib.hid hs
  have HSs := Lib.hid (Rdr.below HS9.out hb HS9.out.lt)
  have HB10 := Lib.hid (HB9.out.trans (hb.mono HB9.out.size))
  clear hg hs hb
  go_wp2_with fail
  refine (RDone_any gs ⟨[], true⟩ w10 HSs.out).mono ?_
  rintro e w11 ⟨rfl, rfl⟩
  rw [show (⟨[], true⟩ : St).done = 21 by kernel_rfl]
  go_wp2_with fail
  refine (RDone_any gn ⟨[], false⟩ w10 HS10.out).mono ?_
  rintro e w11 ⟨rfl, rfl⟩
  rw [show (⟨[], false⟩ : St).done = 0 by kernel_rfl]
  go_wp2_with fail
  refine (New_lit _ [1] w10 1 rfl (by rfl) (by simp)).mono ?_
  rintro e w11 ⟨g1, rfl, hg, hs, hb⟩
  have HS11 := Lib.hid hs
  have HB11 := Lib.hid (HB10.out.trans (hb.mono HB10.out.size))
  clear hg hs hb
  go_wp2_with fail
  refine (RDone_any g1 ⟨[1], false⟩ w11 HS11.out).mono ?_
  rintro e w12 ⟨rfl, rfl⟩
  rw [show (⟨[1], false⟩ : St).done = 21 by kernel_rfl]
  go_wp2_with fail
  refine (goes_any w11).mono ?_
  rintro e w12 ⟨rfl, hb⟩
  have HB12 := Lib.hid (HB11.out.trans (hb.mono HB11.out.size))
  go_wp2
  go_ret
  exact ⟨rfl, HB12.out⟩
end Go.Proofs.Ytcoaaldffnbdbaa
