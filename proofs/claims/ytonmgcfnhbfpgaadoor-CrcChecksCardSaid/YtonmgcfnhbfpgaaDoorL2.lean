import Derived.Test.YtonmgcfnhbfpgaaDoorL1
namespace Go.Proofs.YtonmgcfnhbfpgaaDoor
open Go.RowKit Mem

theorem check_pl_ne (a o : Nat) (b : List UInt8) (ha : a < 4294967296) (ho : o < 4294967296) (h : a ≠ o) : Crc.check (pl a ++ b) ≠ Crc.check (pl o ++ b) := by
  refine Crc.check_ne _ _ 0 (a ^^^ o) (by simp [pl]) ?_ (Nat.zero_le _) (Nat.xor_lt_two_pow (n := 32) ha ho) (Crc.xor_ne _ _ h)
  rw [Crc.num_app, Crc.num_app, num_pl a ha, num_pl o ho, show (pl a).length = (pl o).length from rfl, Crc.xor_swap, Nat.xor_self, Nat.xor_zero, Nat.pow_zero, Nat.one_mul]
theorem check_lp_ne (a o : Nat) (b : List UInt8) (ha : a < 4294967296) (ho : o < 4294967296) (h : a ≠ o) : Crc.check (b ++ pl a) ≠ Crc.check (b ++ pl o) := by
  refine Crc.check_ne _ _ (8 * b.length) (a ^^^ o) (by simp [pl]) ?_ (by simp; omega) (Nat.xor_lt_two_pow (n := 32) ha ho) (Crc.xor_ne _ _ h)
  rw [Crc.num_app, Crc.num_app, num_pl a ha, num_pl o ho, Crc.xor_swap, Nat.xor_self, Nat.zero_xor]
  simp only [← Crc.shl_eq, Nat.shiftLeft_xor_distrib]

theorem Check_pl (W : World) (hW : Tab W) (n : Nat) (A : Option Addr) (c : Nat) (l : List UInt8) (hl : Rd W W.heap.size A c l) :
    Calls Tryd.prog 8 #[.slice (some ⟨W.heap.size + 1, 0, none⟩) 2 2] ((W.alloc (.cells (bcs (pl n)) 5)).alloc (.cells #[.slice (some ⟨W.heap.size, 0, none⟩) 4 4, .slice A l.length c] 23)) fun e w' => e = .returned (.int .u32 ((Crc.check (pl n ++ l) : Nat) : Int)) ∧ Below W.heap.size W w' := by
  have hr := rd_lit W (pl n) (bcs (pl n)) rfl (by simp [pl])
  have hc := Check_new (W.alloc (.cells (bcs (pl n)) 5)) [⟨some ⟨W.heap.size, 0, none⟩, 4, pl n⟩, ⟨A, c, l⟩] #[.slice (some ⟨W.heap.size, 0, none⟩) 4 4, .slice A l.length c] 2 rfl rfl (by simp) (hW.alloc _)
    (fun p hp => by
      rcases List.mem_cons.1 hp with rfl | hp
      · exact hr
      · obtain rfl := List.mem_singleton.1 hp
        exact (hl.alloc (Nat.le_refl _) _).more (by rw [size_alloc']; omega)) _ rfl
  rw [size_alloc'] at hc
  refine hc.mono ?_
  rintro e w' ⟨rfl, rfl⟩
  exact ⟨by simp [flat], below_two W _ _⟩
theorem Check_lp (W : World) (hW : Tab W) (n : Nat) (A : Option Addr) (c : Nat) (l : List UInt8) (hl : Rd W W.heap.size A c l) :
    Calls Tryd.prog 8 #[.slice (some ⟨W.heap.size + 1, 0, none⟩) 2 2] ((W.alloc (.cells (bcs (pl n)) 5)).alloc (.cells #[.slice A l.length c, .slice (some ⟨W.heap.size, 0, none⟩) 4 4] 23)) fun e w' => e = .returned (.int .u32 ((Crc.check (l ++ pl n) : Nat) : Int)) ∧ Below W.heap.size W w' := by
  have hr := rd_lit W (pl n) (bcs (pl n)) rfl (by simp [pl])
  have hc := Check_new (W.alloc (.cells (bcs (pl n)) 5)) [⟨A, c, l⟩, ⟨some ⟨W.heap.size, 0, none⟩, 4, pl n⟩] #[.slice A l.length c, .slice (some ⟨W.heap.size, 0, none⟩) 4 4] 2 rfl rfl (by simp) (hW.alloc _)
    (fun p hp => by
      rcases List.mem_cons.1 hp with rfl | hp
      · exact (hl.alloc (Nat.le_refl _) _).more (by rw [size_alloc']; omega)
      · obtain rfl := List.mem_singleton.1 hp
        exact hr) _ rfl
  rw [size_alloc'] at hc
  refine hc.mono ?_
  rintro e w' ⟨rfl, rfl⟩
  exact ⟨by simp [flat], below_two W _ _⟩

theorem same_cast (b : Bool) (x y : Nat) (h : b = decide (x = y)) : ((x : Int) == (y : Int)) = b := by
  subst h
  by_cases h : x = y
  · subst h; simp
  · simp [h]; omega

set_option maxHeartbeats 1000000 in
theorem crcPlace_core (A : Option Addr) (c : Nat) (l : List UInt8) (a o : Nat) (w : World) (hw : Tab w) (hl : Rd w w.heap.size A c l) (ha : a < 4294967296) (ho : o < 4294967296) :
    Calls Tryd.prog 4 #[.slice A l.length c, .int .u32 (a : Int), .int .u32 (o : Int)] w fun e w' => e = .returned (.bool true) ∧ Below w.heap.size w w' := by
  have hlen : l.length ≤ maxLen := Nat.le_trans hl.1 hl.2.1
  unfold maxLen at hlen
  have HL := Lib.hid hl
  have HW := Lib.hid hw
  clear hl hw
  by_cases hbig : 4200 < l.length
  · go_enter Tryd.func4, Tryd.ntmps4
    go_wp2_with fail
    go_ret
    exact ⟨rfl, Below.refl _ _⟩
  · go_enter Tryd.func4, Tryd.ntmps4
    go_wp2_with (go_at_call 11; refine (place_any a _ ha).mono ?_; rintro e w1 ⟨rfl, rfl⟩)
    refine (Check_pl w HW.out a A c l HL.out).mono ?_
    rintro e w1 ⟨rfl, hb⟩
    have HL1 := Lib.hid ((HL.out.below hb).more hb.size)
    have HW1 := Lib.hid (HW.out.below hb HW.out.1)
    have HB1 := Lib.hid hb
    clear hb
    go_wp2_with (go_at_call 11; refine (place_any o _ ho).mono ?_; rintro e w2 ⟨rfl, rfl⟩)
    refine (Check_pl w1 HW1.out o A c l HL1.out).mono ?_
    rintro e w2 ⟨rfl, hb⟩
    have HL2 := Lib.hid ((HL1.out.below hb).more hb.size)
    have HW2 := Lib.hid (HW1.out.below hb HW1.out.1)
    have HB2 := Lib.hid (HB1.out.trans (hb.mono HB1.out.size))
    clear hb
    go_wp2_with (go_at_call 11; refine (place_any a _ ha).mono ?_; rintro e w3 ⟨rfl, rfl⟩)
    refine (Check_lp w2 HW2.out a A c l HL2.out).mono ?_
    rintro e w3 ⟨rfl, hb⟩
    have HL3 := Lib.hid ((HL2.out.below hb).more hb.size)
    have HW3 := Lib.hid (HW2.out.below hb HW2.out.1)
    have HB3 := Lib.hid (HB2.out.trans (hb.mono HB2.out.size))
    clear hb
    go_wp2_with (go_at_call 11; refine (place_any o _ ho).mono ?_; rintro e w4 ⟨rfl, rfl⟩)
    refine (Check_lp w3 HW3.out o A c l HL3.out).mono ?_
    rintro e w4 ⟨rfl, hb⟩
    have HW4 := Lib.hid (HW3.out.below hb HW3.out.1)
    have HB4 := Lib.hid (HB3.out.trans (hb.mono HB3.out.size))
    clear hb
    by_cases hao : a = o
    · subst hao
      go_wp2_with (go_at_call 10; refine (goes_any _ HW4.out).mono ?_; rintro e w5 ⟨rfl, hb⟩)
      go_ret
      exact ⟨rfl, HB4.out.trans (hb.mono HB4.out.size)⟩
    · have h1 := same_cast false _ _ (by simpa using check_pl_ne a o l ha ho hao)
      have h2 := same_cast false _ _ (by simpa using check_lp_ne a o l ha ho hao)
      have h3 := same_cast false a o (by simpa using hao)
      go_wp2_with (go_at_call 10; refine (goes_any _ HW4.out).mono ?_; rintro e w5 ⟨rfl, hb⟩)
      go_ret
      exact ⟨rfl, HB4.out.trans (hb.mono HB4.out.size)⟩
theorem crcPlace_walk (A : Option Addr) (n c : Nat) (l : List UInt8) (hn : l.length = n) (a o : Int) (w : World) (hw : Tab w) (hl : Rd w w.heap.size A c l) (ha : (Lit.int .u32 a).wf = true) (ho : (Lit.int .u32 o).wf = true) :
    Calls Tryd.prog 4 #[.slice A n c, .int .u32 a, .int .u32 o] w fun e w' => e = .returned (.bool true) ∧ Below w.heap.size w w' := by
  subst hn
  have ba := bounds_u32 ha
  have bo := bounds_u32 ho
  obtain ⟨a, rfl⟩ := Int.eq_ofNat_of_zero_le ba.1
  obtain ⟨o, rfl⟩ := Int.eq_ofNat_of_zero_le bo.1
  exact crcPlace_core A c l a o w hw hl (by omega) (by omega)
end Go.Proofs.YtonmgcfnhbfpgaaDoor
