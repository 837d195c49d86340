import Derived.Test.YtlfkafcmdndlgaaDoorCiT
namespace Go.Proofs.YtlfkafcmdndlgaaDoor
open Go.RowKit Mem Ci
namespace Ci
def bads : List (List UInt8) := [[50, 48, 50, 52, 45, 48, 50, 45, 51, 48], [50, 52, 45, 50, 45, 51], [50, 48, 50, 52, 45, 49, 51, 45, 48, 49], [48, 48, 48, 48, 45, 48, 49, 45, 48, 49], [50, 48, 50, 52, 47, 48, 49, 47, 48, 49], [43, 48, 50, 52, 45, 48, 49, 45, 48, 49], [50, 48, 50, 52, 45, 49, 45, 48, 48, 49], []]
theorem bads_no : ∀ k, k < 8 → readB (bads.getD k []) = false ∧ (bads.getD k []).length ≤ 10 := by
  have : ∀ k : Fin 8, readB (bads.getD k.val []) = false ∧ (bads.getD k.val []).length ≤ 10 := by decide +kernel
  exact fun k h => this ⟨k, h⟩
end Ci
set_option maxHeartbeats 4000000 in
theorem civilKnown_walk (w : World) (hw : Lw w) : Calls Tryd.prog 9 #[] w fun e w' => e = .returned (.bool true) ∧ Below w.heap.size w w' := by
  have HL := Lib.hid (fun W (h : Below w.heap.size w W) => hw.below h (Nat.le_refl _))
  have hs := hw.size; clear hw
  have c1 := fun W (hB : Below w.heap.size w W) => day_yes (y := 1970) (m := 1) (d := 1) W (HL.out _ hB).lens (by have := hB.size; omega) (by decide)
  rw [show num 1970 1 1 = 0 by decide] at c1
  have c2 := fun W (hB : Below w.heap.size w W) => day_yes (y := 1) (m := 1) (d := 1) W (HL.out _ hB).lens (by have := hB.size; omega) (by decide)
  rw [show num 1 1 1 = -719162 by decide] at c2
  have c3 := fun W (hB : Below w.heap.size w W) => day_yes (y := 9999) (m := 12) (d := 31) W (HL.out _ hB).lens (by have := hB.size; omega) (by decide)
  rw [show num 9999 12 31 = 2932896 by decide] at c3
  have c4 := fun W (hB : Below w.heap.size w W) => day_no (y := 2023) (m := 2) (d := 29) W (HL.out _ hB).lens (by have := hB.size; omega) (by decide)
  have c5 := fun W => of_out (z := -719163) W (by decide)
  have c6 := fun W => of_out (z := 2932897) W (by decide)
  have l1 := fun W (hB : Below w.heap.size w W) => length_any 11 W (HL.out _ hB).lens
  rw [show lenM 11 = 0 by decide] at l1
  have l2 := fun W (hB : Below w.heap.size w W) => length_any 12 W (HL.out _ hB).lens
  rw [show lenM 12 = 31 by decide] at l2
  have l3 := fun W (hB : Below w.heap.size w W) => length_any 120000 W (HL.out _ hB).lens
  rw [show lenM 120000 = 0 by decide] at l3
  have l4 := fun W (hB : Below w.heap.size w W) => length_any 24289 W (HL.out _ hB).lens
  rw [show lenM 24289 = 29 by decide] at l4
  have t1 := fun W (hB : Below w.heap.size w W) => text_yes (y := 7) (m := 8) (d := 9) W (HL.out _ hB) (by decide)
  rw [show st (txt 7 8 9) = ⟨#[48, 48, 48, 55, 45, 48, 56, 45, 48, 57]⟩ by decide +kernel] at t1
  have C1 := Lib.hid c1; have C2 := Lib.hid c2; have C3 := Lib.hid c3; have C4 := Lib.hid c4; have C5 := Lib.hid c5; have C6 := Lib.hid c6
  have L1 := Lib.hid l1; have L2 := Lib.hid l2; have L3 := Lib.hid l3; have L4 := Lib.hid l4; have T1 := Lib.hid t1
  clear c1 c2 c3 c4 c5 c6 l1 l2 l3 l4 t1
  go_enter Tryd.func9, Tryd.ntmps9
  go_wp2_with fail
  refine (C1.out _ (Below.refl _ _)).mono ?_
  rintro e w1 ⟨rfl, hb⟩
  have B1 := Lib.hid hb; clear hb
  go_wp2_with fail
  refine (C2.out _ B1.out).mono ?_
  rintro e w2 ⟨rfl, hb⟩
  have B2 := Lib.hid (B1.out.trans (hb.mono B1.out.size)); clear hb
  go_wp2_with fail
  refine (C3.out _ B2.out).mono ?_
  rintro e w3 ⟨rfl, hb⟩
  have B3 := Lib.hid (B2.out.trans (hb.mono B2.out.size)); clear hb
  go_wp2_with fail
  refine (C4.out _ B3.out).mono ?_
  rintro e w4 ⟨rfl, hb⟩
  have B4 := Lib.hid (B3.out.trans (hb.mono B3.out.size)); clear hb
  go_wp2_with fail
  refine (C5.out _).mono ?_
  rintro e w5 ⟨rfl, hb⟩
  have B5 := Lib.hid (B4.out.trans (hb.mono B4.out.size)); clear hb
  have B5a := Lib.hid (B5.out.alloc B5.out.size (.cells #[.int .i64 0, .int .i64 0, .int .i64 0] 23))
  go_wp2_with fail
  refine (C6.out _).mono ?_
  rintro e w6 ⟨rfl, hb⟩
  have B6 := Lib.hid (B5a.out.trans (hb.mono B5a.out.size)); clear hb
  go_wp2_with fail
  generalize hV : (w6.alloc (.cells #[.int .i64 0, .int .i64 0, .int .i64 0] 23)).alloc (.cells #[.string ⟨#[50, 48, 50, 52, 45, 48, 50, 45, 51, 48]⟩, .string ⟨#[50, 52, 45, 50, 45, 51]⟩, .string ⟨#[50, 48, 50, 52, 45, 49, 51, 45, 48, 49]⟩, .string ⟨#[48, 48, 48, 48, 45, 48, 49, 45, 48, 49]⟩, .string ⟨#[50, 48, 50, 52, 47, 48, 49, 47, 48, 49]⟩, .string ⟨#[43, 48, 50, 52, 45, 48, 49, 45, 48, 49]⟩, .string ⟨#[50, 48, 50, 52, 45, 49, 45, 48, 48, 49]⟩, .string ⟨#[]⟩] 9) = V
  have BV := Lib.hid (show Below w.heap.size w V from hV ▸ ((B6.out.alloc B6.out.size _).alloc (Nat.le_trans B6.out.size (by simp)) _))
  have KV := Lib.hid (show ∀ k, k < 8 → V.cell? ⟨w6.heap.size + 1, k, none⟩ = some (.string (st (bads.getD k []))) by
    intro k hk
    rw [← hV]
    have : ∀ j, j < 8 → (#[.string ⟨#[50, 48, 50, 52, 45, 48, 50, 45, 51, 48]⟩, .string ⟨#[50, 52, 45, 50, 45, 51]⟩, .string ⟨#[50, 48, 50, 52, 45, 49, 51, 45, 48, 49]⟩, .string ⟨#[48, 48, 48, 48, 45, 48, 49, 45, 48, 49]⟩, .string ⟨#[50, 48, 50, 52, 47, 48, 49, 47, 48, 49]⟩, .string ⟨#[43, 48, 50, 52, 45, 48, 49, 45, 48, 49]⟩, .string ⟨#[50, 48, 50, 52, 45, 49, 45, 48, 48, 49]⟩, .string ⟨#[]⟩] : Array Value)[j]? = some (.string (st (bads.getD j []))) := by
      intro j hj
      match j, hj with
      | 0, _ | 1, _ | 2, _ | 3, _ | 4, _ | 5, _ | 6, _ | 7, _ => rfl
    have e : w6.heap.size + 1 = (w6.alloc (.cells #[.int .i64 0, .int .i64 0, .int .i64 0] 23)).heap.size := by simp
    rw [e, World.cell?_alloc_new]; exact this k hk)
  have zV : w6.heap.size + 1 < V.heap.size := by rw [← hV]; simp
  clear hV
  go_loopw [14] (fun i wr => ∃ k : Nat, k ≤ 8 ∧ i = .int .i64 k ∧ Hid (Below V.heap.size V wr)) (fun i _ => 8 - (intOf i).toNat)
  case atStart => exact ⟨0, Nat.zero_le _, rfl, Lib.hid (Below.refl _ _)⟩
  case round =>
    obtain ⟨k, hk, rfl, HB⟩ := hrel
    have BR := Lib.hid (BV.out.trans (HB.out.mono BV.out.size))
    by_cases hlt : k < 8
    · have hlt' : (k : Int) < 8 := by omega
      have q0 : wr.cell? ⟨w6.heap.size + 1, k, none⟩ = some (.string (st (bads.getD k []))) := ((bcell HB.out).1 _ _ zV).trans (KV.out k hlt)
      have CN := Lib.hid (bads_no k hlt)
      generalize bads.getD k [] = b at q0 CN
      go_wp2_with fail
      refine (parse_no _ (HL.out _ BR.out) CN.out.1 (by have := CN.out.2; omega)).mono ?_
      rintro e w7 ⟨rfl, hb⟩
      have B7 := Lib.hid ((HB.out.trans (hb.mono HB.out.size)).alloc (Nat.le_trans HB.out.size hb.size) (.cells #[.int .i64 0, .int .i64 0, .int .i64 0] 23)); clear hb
      go_wp2_with fail
      go_roundw
      case rel => exact ⟨k + 1, by omega, by go_num, B7⟩
      case measure => simp [intOf]; omega
    · obtain rfl : k = 8 := by omega
      clear hlt
      go_wp2_with fail
      refine (L1.out _ BR.out).mono ?_
      rintro e x1 ⟨rfl, rfl⟩
      go_wp2_with fail
      refine (L2.out _ BR.out).mono ?_
      rintro e x1 ⟨rfl, rfl⟩
      go_wp2_with fail
      refine (L3.out _ BR.out).mono ?_
      rintro e x1 ⟨rfl, rfl⟩
      go_wp2_with fail
      refine (L4.out _ BR.out).mono ?_
      rintro e x1 ⟨rfl, rfl⟩
      go_wp2_with fail
      refine (T1.out _ BR.out).mono ?_
      rintro e x2 ⟨rfl, hb⟩
      have X2 := Lib.hid (BR.out.trans (hb.mono BR.out.size)); clear hb
      go_wp2_with fail
      refine (goes_any _ (HL.out _ X2.out)).mono ?_
      rintro e x3 ⟨rfl, hb⟩
      have X3 := Lib.hid (X2.out.trans (hb.mono X2.out.size))
      clear hb
      go_wp2_with fail
      go_ret
      exact ⟨rfl, X3.out⟩
end Go.Proofs.YtlfkafcmdndlgaaDoor
