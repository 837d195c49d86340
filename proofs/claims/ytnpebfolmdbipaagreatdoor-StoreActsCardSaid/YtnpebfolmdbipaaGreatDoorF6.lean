import Derived.Test.YtnpebfolmdbipaaGreatDoorF5
namespace Go.Proofs.YtnpebfolmdbipaaGreatDoor.Fm
open Go.RowKit Mem
attribute [local go_sem] Oper.semAt_some

theorem lowest_any (n : Nat) (w : World) (hn : n < 4294967296) :
    Calls Tryz.prog 85 #[.int .u32 (n : Int)] w fun e w' => e = .returned (.slice (some ⟨w.heap.size, 0, none⟩) 4 4) ∧ w' = w.alloc (.cells (bcs (pl n)) 5) := by
  rw [← bcs_pl n hn]
  go_enter Tryz.func85, Tryz.ntmps85
  go_wp2
  go_ret
  exact ⟨rfl, rfl⟩

/-- What Put answers besides the frame. -/
def may (a : Int) (s n : Nat) : Int := if a < 0 ∨ 4096 ≤ a ∨ s = 0 then 1 else if 4011 < n then 2 else 0
theorem may_zero (a : Int) (s n : Nat) : may a s n = 0 ↔ 0 ≤ a ∧ a < 4096 ∧ s ≠ 0 ∧ n ≤ 4011 := by
  unfold may
  split
  · omega
  · split <;> omega
theorem unsig_nat (a : Int) (h0 : 0 ≤ a) (h1 : a < 4096) : unsig a = a.toNat := by
  unfold unsig
  rw [IntKind.wrap_u64]
  omega
/-- The numbers that stand ahead, each on what stands already. -/
theorem mark_any (s : Nat) (w : World) (hs : s < 18446744073709551616) :
    Calls Tryz.prog 81 #[.slice none 0 0, .int .u64 (s : Int)] w fun e w' => ∃ A c, e = .returned (.slice A 8 c) ∧ Rd w' w'.heap.size A c (be 8 s) ∧ Below w.heap.size w w' := by
  refine (Uint_any none 0 [] (s : Int) w (Rd.nil _ _) (by simp) (by omega) (by omega)).mono ?_
  rintro e w' ⟨v, rfl, ho, hb⟩
  obtain ⟨A, c, rfl, hr, _⟩ := ho.form
  rw [List.nil_append, Int.toNat_natCast] at hr ⊢
  exact ⟨A, c, by rw [length_be], hr, hb⟩
theorem head1_any (a : Nat) (w : World) (ha : a < 4096) :
    Calls Tryz.prog 83 #[.slice none 0 0, .int .i64 (a : Int)] w fun e w' => ∃ A c, e = .returned (.slice A 8 c) ∧ Rd w' w'.heap.size A c (be 8 a) ∧ Below w.heap.size w w' := by
  refine (Int_any none 0 [] (a : Int) w (Rd.nil _ _) (by simp)).mono ?_
  rintro e w' ⟨v, rfl, ho, hb⟩
  obtain ⟨A, c, rfl, hr, _⟩ := ho.form
  rw [List.nil_append, unsig_nat a (by omega) (by omega), Int.toNat_natCast] at hr ⊢
  exact ⟨A, c, by rw [length_be], hr, hb⟩
theorem head2_any (a k : Nat) (A : Option Addr) (c : Nat) (w : World) (hk : k < 256) (hr : Rd w w.heap.size A c (be 8 a)) :
    Calls Tryz.prog 82 #[.slice A 8 c, .int .u8 (k : Int)] w fun e w' => ∃ A c, e = .returned (.slice A 9 c) ∧ Rd w' w'.heap.size A c (be 8 a ++ be 1 k) ∧ Below w.heap.size w w' := by
  have h := Byte_any A c (be 8 a) (k : Int) w hr (by rw [length_be]; omega) (by omega) (by omega)
  rw [length_be] at h
  refine h.mono ?_
  rintro e w' ⟨v, rfl, ho, hb⟩
  obtain ⟨A, c, rfl, hr, _⟩ := ho.form
  rw [Int.toNat_natCast] at hr ⊢
  exact ⟨A, c, by rw [List.length_append, length_be, length_be], hr, hb⟩
theorem head3_any (a k n : Nat) (A : Option Addr) (c : Nat) (w : World) (hn : n ≤ 4011) (hr : Rd w w.heap.size A c (be 8 a ++ be 1 k)) :
    Calls Tryz.prog 81 #[.slice A 9 c, .int .u64 (n : Int)] w fun e w' => ∃ A c, e = .returned (.slice A 17 c) ∧ Rd w' w'.heap.size A c (Frm.head a k n) ∧ Below w.heap.size w w' := by
  have h := Uint_any A c (be 8 a ++ be 1 k) (n : Int) w hr (by rw [List.length_append, length_be, length_be]; omega) (by omega) (by omega)
  rw [List.length_append, length_be, length_be] at h
  refine h.mono ?_
  rintro e w' ⟨v, rfl, ho, hb⟩
  obtain ⟨A, c, rfl, hr, _⟩ := ho.form
  rw [Int.toNat_natCast, List.append_assoc] at hr ⊢
  exact ⟨A, c, by rw [show (be 8 a ++ (be 1 k ++ be 8 n)).length = 17 by simp [length_be]], hr, hb⟩
def zeros (n : Nat) : List UInt8 := List.replicate n 0
theorem make_n (n : Nat) (hn : n ≤ 4011) : ∀ W, (Instr.makeSlice 36 (.int .i64 (n : Int)) (.int .i64 (n : Int))).run Tryz.prog W = .ok (.slice (some ⟨W.heap.size, 0, none⟩) n n) (W.alloc (.cells (bcs (zeros n)) 5)) := by
  intro W
  have hr := run_make_row' (P := Tryz.prog) 36 5 (.int .u8 0) 1 Tryz.underlying36 u8_info rfl .i64 .i64 n (by omega) (by omega) W
  rw [bcs_zeros] at hr
  exact hr
theorem rd_zeros (w : World) (n : Nat) (hn : n ≤ 4011) : Rd (w.alloc (.cells (bcs (zeros n)) 5)) (w.alloc (.cells (bcs (zeros n)) 5)).heap.size (some ⟨w.heap.size, 0, none⟩) n (zeros n) := by
  have := rd_litc w (zeros n) _ rfl (by unfold zeros; rw [List.length_replicate]; omega)
  unfold zeros at *
  rw [List.length_replicate] at this
  exact this

/-- The parts of the inside, behind the mark. -/
def partsP (m h b z : Part) : List Part := [m, h, b, z]
theorem tail_check (w : World) (A1 A2 A : Option Addr) (c1 c2 c n r a k s : Nat) (b : List UInt8) (hT : Tab w) (h1 : Rd w w.heap.size A1 c1 (be 8 s)) (h2 : Rd w w.heap.size A2 c2 (Frm.head a k n)) (h3 : Rd w w.heap.size A c b) (hbl : b.length = n) (hn : n ≤ 4011) (hr : r = 4011 - n) :
    Calls Tryz.prog 86 #[.slice (some ⟨w.heap.size + 1, 0, none⟩) 4 4] ((w.alloc (.cells (bcs (zeros r)) 5)).alloc (.cells #[.slice A1 8 c1, .slice A2 17 c2, .slice A n c, .slice (some ⟨w.heap.size, 0, none⟩) r r] 36)) fun e w' => e = .returned (.int .u32 ((Crc.check (be 8 s ++ Frm.data a k b) : Nat) : Int)) ∧ (w.alloc (.cells (bcs (zeros r)) 5)).alloc (.cells #[.slice A1 8 c1, .slice A2 17 c2, .slice A n c, .slice (some ⟨w.heap.size, 0, none⟩) r r] 36) = w' := by
  subst hr
  have hz : (zeros (4011 - n)).length = 4011 - n := List.length_replicate
  have hh : (Frm.head a k n).length = 17 := Frm.length_head _ _ _
  have hu : ∀ p, p ∈ ([⟨A1, c1, be 8 s⟩, ⟨A2, c2, Frm.head a k n⟩, ⟨A, c, b⟩, ⟨some ⟨w.heap.size, 0, none⟩, 4011 - n, zeros (4011 - n)⟩] : List Part) → Rd (w.alloc (.cells (bcs (zeros (4011 - n))) 5)) (w.alloc (.cells (bcs (zeros (4011 - n))) 5)).heap.size p.A p.c p.l := by
    intro p hp
    have hbz := (Below.refl w.heap.size w).alloc (Nat.le_refl _) (.cells (bcs (zeros (4011 - n))) 5)
    simp only [List.mem_cons, List.not_mem_nil, or_false] at hp
    rcases hp with rfl | rfl | rfl | rfl
    · exact (h1.below hbz).more hbz.size
    · exact (h2.below hbz).more hbz.size
    · exact (h3.below hbz).more hbz.size
    · exact rd_zeros w _ (by omega)
  have h := Check_new (w.alloc (.cells (bcs (zeros (4011 - n))) 5)) _ (#[.slice A1 8 c1, .slice A2 17 c2, .slice A n c, .slice (some ⟨w.heap.size, 0, none⟩) (4011 - n) (4011 - n)]) 4 rfl (by simp [Part.v, length_be, hh, hbl, hz]) (by simp) (hT.alloc _) hu _ rfl
  have e : flat ([⟨A1, c1, be 8 s⟩, ⟨A2, c2, Frm.head a k n⟩, ⟨A, c, b⟩, ⟨some ⟨w.heap.size, 0, none⟩, 4011 - n, zeros (4011 - n)⟩] : List Part) = be 8 s ++ Frm.data a k b := by
    simp only [flat, List.map_cons, List.map_nil, List.flatten_cons, List.flatten_nil, List.append_nil, Frm.data, hbl, zeros]
  rw [e, size_alloc'] at h
  exact h
theorem tail_laid (W0 w : World) (A1 A2 A : Option Addr) (c1 c2 c n r a k s q g0 : Nat) (b : List UInt8) (hb : Below W0.heap.size W0 w) (h1 : Rd W0 W0.heap.size A1 c1 (be 8 s)) (h2 : Rd W0 W0.heap.size A2 c2 (Frm.head a k n)) (h3 : Rd W0 W0.heap.size A c b) (h4 : Rd W0 W0.heap.size (some ⟨g0, 0, none⟩) r (zeros r)) (hbl : b.length = n) (hn : n ≤ 4011) (hr : r = 4011 - n) (hq : q = Crc.check (be 8 s ++ Frm.data a k b)) :
    Calls Tryz.prog 84 #[.slice A1 8 c1, .slice (some ⟨w.heap.size + 1, 0, none⟩) 4 4] ((w.alloc (.cells (bcs (pl q)) 5)).alloc (.cells #[.slice A2 17 c2, .slice A n c, .slice (some ⟨g0, 0, none⟩) r r, .slice (some ⟨w.heap.size, 0, none⟩) 4 4] 36)) fun e w' => ∃ v, e = .returned v ∧ Mem.Own 5 w' w.heap.size v (Frm.frame a k s b) ∧ Below w.heap.size w w' := by
  subst hr
  have hz : (zeros (4011 - n)).length = 4011 - n := List.length_replicate
  have hh : (Frm.head a k n).length = 17 := Frm.length_head _ _ _
  have hbz := (Below.refl w.heap.size w).alloc (Nat.le_refl _) (.cells (bcs (pl q)) 5)
  have hb2 := hb.trans (hbz.mono hb.size)
  have hu : ∀ p, p ∈ ([⟨A2, c2, Frm.head a k n⟩, ⟨A, c, b⟩, ⟨some ⟨g0, 0, none⟩, 4011 - n, zeros (4011 - n)⟩, ⟨some ⟨w.heap.size, 0, none⟩, 4, pl q⟩] : List Part) → Rd (w.alloc (.cells (bcs (pl q)) 5)) (w.alloc (.cells (bcs (pl q)) 5)).heap.size p.A p.c p.l := by
    intro p hp
    simp only [List.mem_cons, List.not_mem_nil, or_false] at hp
    rcases hp with rfl | rfl | rfl | rfl
    · exact (h2.below hb2).more hb2.size
    · exact (h3.below hb2).more hb2.size
    · exact (h4.below hb2).more hb2.size
    · exact rd_litc w (pl q) _ rfl (by rw [Frm.length_pl]; omega)
  have hP := Pts.new (w.alloc (.cells (bcs (pl q)) 5)) _ 36 4 #[.slice A2 17 c2, .slice A n c, .slice (some ⟨g0, 0, none⟩) (4011 - n) (4011 - n), .slice (some ⟨w.heap.size, 0, none⟩) 4 4] rfl (by simp [Part.v, hh, hbl, hz, Frm.length_pl]) (by simp) hu
  have e : flat ([⟨A2, c2, Frm.head a k n⟩, ⟨A, c, b⟩, ⟨some ⟨g0, 0, none⟩, 4011 - n, zeros (4011 - n)⟩, ⟨some ⟨w.heap.size, 0, none⟩, 4, pl q⟩] : List Part) = Frm.inside a k s b := by
    simp only [flat, List.map_cons, List.map_nil, List.flatten_cons, List.flatten_nil, List.append_nil, Frm.inside, Frm.data, hbl, zeros, hq, List.append_assoc]
  have hb3 : Below W0.heap.size W0 ((w.alloc (.cells (bcs (pl q)) 5)).alloc (.cells #[.slice A2 17 c2, .slice A n c, .slice (some ⟨g0, 0, none⟩) (4011 - n) (4011 - n), .slice (some ⟨w.heap.size, 0, none⟩) 4 4] 36)) := hb2.alloc hb2.size _
  rw [size_alloc'] at hP
  have hb5 := below_two w (.cells (bcs (pl q)) 5) (.cells #[.slice A2 17 c2, .slice A n c, .slice (some ⟨g0, 0, none⟩) (4011 - n) (4011 - n), .slice (some ⟨w.heap.size, 0, none⟩) 4 4] 36)
  have hsz : ((w.alloc (.cells (bcs (pl q)) 5)).alloc (.cells #[.slice A2 17 c2, .slice A n c, .slice (some ⟨g0, 0, none⟩) (4011 - n) (4011 - n), .slice (some ⟨w.heap.size, 0, none⟩) 4 4] 36)).heap.size = w.heap.size + 1 + 1 := by rw [size_alloc', size_alloc']
  refine (laid_any A1 _ c1 4 4 (be 8 s) _ _ ((h1.below hb3).more hb3.size) (length_be 8 s) (by rw [hsz]; exact hP) rfl (by simp) (by simp) (by rw [e, Frm.length_inside _ _ _ _ (by omega)])).mono ?_
  rintro e' w' ⟨v, rfl, ho, hbb⟩
  rw [e] at ho
  exact ⟨v, rfl, ho.mono hb5.size, hb5.trans (hbb.mono hb5.size)⟩

theorem tail_step {w w5 : World} {r : Nat} {o : Obj} (h : (w.alloc (.cells (bcs (zeros r)) 5)).alloc o = w5) (hr : r ≤ 4011) : Below w.heap.size w w5 ∧ Rd w5 w5.heap.size (some ⟨w.heap.size, 0, none⟩) r (zeros r) := by
  subst h
  refine ⟨below_two w _ _, ?_⟩
  have hb := (Below.refl (w.alloc (.cells (bcs (zeros r)) 5)).heap.size (w.alloc (.cells (bcs (zeros r)) 5))).alloc (Nat.le_refl _) o
  exact ((rd_zeros w r hr).below hb).more hb.size

set_option maxRecDepth 20000 in
set_option maxHeartbeats 1000000 in
theorem put_ok (a k s : Nat) (A : Option Addr) (n c : Nat) (b : List UInt8) (w : World) (hT : Tab w) (ha : a < 4096) (hk : k < 256) (hs0 : s ≠ 0) (hs : s < 18446744073709551616) (hb : Rd w w.heap.size A c b) (hbl : b.length = n) (hn : n ≤ 4011) :
    Calls Tryz.prog 44 #[.int .i64 a, .int .u8 k, .int .u64 s, .slice A n c] w fun e w' => ∃ v, e = .returned (.tuple #[v, .int .i64 0]) ∧ Mem.Own 5 w' w.heap.size v (Frm.frame a k s b) ∧ Below w.heap.size w w' := by
  obtain ⟨r, hr⟩ : ∃ r, r = 4011 - n := ⟨_, rfl⟩
  have hmk : ∀ W, (Instr.makeSlice 36 (.int .i64 (4011 - (n : Int))) (.int .i64 (4011 - (n : Int)))).run Tryz.prog W = .ok (.slice (some ⟨W.heap.size, 0, none⟩) r r) (W.alloc (.cells (bcs (zeros r)) 5)) := by
    rw [show 4011 - (n : Int) = (r : Int) by omega]
    exact make_n r (by omega)
  have hrz := rd_zeros (n := r)
  obtain ⟨q, hq⟩ : ∃ q, q = Crc.check (be 8 s ++ Frm.data a k b) := ⟨_, rfl⟩
  have hq2 : q < 4294967296 := by rw [hq]; exact Crc.check_lt _
  have HT := Lib.hid hT
  have HB := Lib.hid hb
  have HL := Lib.hid hbl
  have HS := Lib.hid hs
  have HR := Lib.hid hr
  have HQ := Lib.hid hq
  have HQ2 := Lib.hid hq2
  have HZ := Lib.hid hrz
  have i1 : ¬ (a : Int) < 0 := by omega
  have i2 : ¬ (4096 : Int) ≤ a := by omega
  have i3 : ¬ (s : Int) = 0 := by omega
  have i4 : ¬ (4011 : Int) < n := by omega
  have hw2 : IntKind.u64.wrap (n : Int) = n := by rw [IntKind.wrap_u64]; omega
  clear hT hb hbl hs hr hq hq2 hrz
  go_enter Tryz.func44, Tryz.ntmps44
  go_wp2_with (first
    | (go_at_call 81; refine (mark_any s w HS.out).mono ?_; rintro e w1 ⟨A1, c1, rfl, hr1, hb1⟩; have X1 := Lib.hid hr1; have Y1 := Lib.hid hb1; clear hr1 hb1)
    | (go_at_call 83; refine (head1_any a w1 ha).mono ?_; rintro e w2 ⟨A2, c2, rfl, hr2, hb2⟩; have X2 := Lib.hid hr2; have Y2 := Lib.hid (Y1.out.trans (hb2.mono Y1.out.size)); have Z2 := Lib.hid ((X1.out.below hb2).more hb2.size); clear hr2 hb2)
    | (go_at_call 82; refine (head2_any a k A2 c2 w2 hk X2.out).mono ?_; rintro e w3 ⟨A3, c3, rfl, hr3, hb3⟩; have X3 := Lib.hid hr3; have Y3 := Lib.hid (Y2.out.trans (hb3.mono Y2.out.size)); have Z3 := Lib.hid ((Z2.out.below hb3).more hb3.size); clear hr3 hb3)
    | (go_at_call 81; refine (head3_any a k n A3 c3 w3 hn X3.out).mono ?_; rintro e w4 ⟨A4, c4, rfl, hr4, hb4⟩; have X4 := Lib.hid hr4; have Y4 := Lib.hid (Y3.out.trans (hb4.mono Y3.out.size)); have Z4 := Lib.hid ((Z3.out.below hb4).more hb4.size); clear hr4 hb4)
    | (go_at_call 86; refine (tail_check w4 A1 A4 A c1 c4 c n r a k s b (HT.out.below Y4.out HT.out.1) Z4.out X4.out ((HB.out.below Y4.out).more Y4.out.size) HL.out hn HR.out).mono ?_; rintro e w5 ⟨rfl, hw5⟩; rw [← HQ.out]; have hst := tail_step hw5 (by have := HR.out; omega); clear hw5; have Y5 := Lib.hid (Y4.out.trans (hst.1.mono Y4.out.size)); have Z5 := Lib.hid ((Z4.out.below hst.1).more hst.1.size); have V5 := Lib.hid ((X4.out.below hst.1).more hst.1.size); have U5 := Lib.hid hst.2; clear hst)
    | (go_at_call 85; refine (lowest_any q w5 HQ2.out).mono ?_; rintro e w6 ⟨rfl, rfl⟩)
    | (go_at_call 84; refine (tail_laid w5 w5 A1 A4 A c1 c4 c n r a k s q w4.heap.size b (Below.refl _ _) Z5.out V5.out ((HB.out.below Y5.out).more Y5.out.size) U5.out HL.out hn HR.out HQ.out).mono ?_; rintro e w7 ⟨v7, rfl, ho7, hb7⟩; have O7 := Lib.hid ho7; have B7 := Lib.hid hb7; clear ho7 hb7)
    | fail)
  go_ret2
  exact ⟨v7, rfl, O7.out.mono Y5.out.size, Y5.out.trans (B7.out.mono Y5.out.size)⟩

theorem put_bad (a : Int) (k s : Nat) (A : Option Addr) (n c : Nat) (w : World) (hn : n ≤ 9223372036854775807) (h0 : may a s n ≠ 0) :
    Calls Tryz.prog 44 #[.int .i64 a, .int .u8 k, .int .u64 s, .slice A n c] w fun e w' => e = .returned (.tuple #[.slice none 0 0, .int .i64 (may a s n)]) ∧ w = w' := by
  by_cases h1 : a < 0 ∨ 4096 ≤ a ∨ s = 0
  · have e1 : may a s n = 1 := by unfold may; rw [if_pos h1]
    rw [e1]
    by_cases i1 : a < 0
    · clear h0 h1 e1
      go_enter Tryz.func44, Tryz.ntmps44
      go_wp2_with fail
      go_ret2
      exact ⟨rfl, rfl⟩
    · by_cases i2 : 4096 ≤ a
      · clear h0 h1 e1
        go_enter Tryz.func44, Tryz.ntmps44
        go_wp2_with fail
        go_ret2
        exact ⟨rfl, rfl⟩
      · obtain rfl : s = 0 := by omega
        clear h0 h1 e1
        go_enter Tryz.func44, Tryz.ntmps44
        go_wp2_with fail
        go_ret2
        exact ⟨rfl, rfl⟩
  · have h2 : 4011 < n := by
      rw [Ne, may_zero] at h0; omega
    have e1 : may a s n = 2 := by unfold may; rw [if_neg h1, if_pos h2]
    rw [e1]
    have i1 : ¬ a < 0 := by omega
    have i2 : ¬ 4096 ≤ a := by omega
    have i3 : ¬ (s : Int) = 0 := by omega
    have i4 : (4011 : Int) < n := by omega
    clear h0 h1 e1
    go_enter Tryz.func44, Tryz.ntmps44
    go_wp2_with fail
    go_ret2
    exact ⟨rfl, rfl⟩

/-- Every Put. -/
theorem Put_any (a : Int) (k s : Nat) (A : Option Addr) (n c : Nat) (b : List UInt8) (w : World) (hT : Tab w) (hk : k < 256) (hs : s < 18446744073709551616) (hb : Rd w w.heap.size A c b) (hbl : b.length = n) :
    Calls Tryz.prog 44 #[.int .i64 a, .int .u8 k, .int .u64 s, .slice A n c] w fun e w' => ∃ v, e = .returned (.tuple #[v, .int .i64 (may a s n)]) ∧ (may a s n = 0 → Mem.Own 5 w' w.heap.size v (Frm.frame a.toNat k s b)) ∧ (may a s n ≠ 0 → v = .slice none 0 0) ∧ Below w.heap.size w w' := by
  by_cases h0 : may a s n = 0
  · obtain ⟨h1, h2, h3, h4⟩ := (may_zero a s n).1 h0
    obtain ⟨a', rfl⟩ := Int.eq_ofNat_of_zero_le h1
    refine (put_ok a' k s A n c b w hT (by omega) hk h3 hs hb hbl h4).mono ?_
    rintro e w' ⟨v, rfl, ho, hbb⟩
    exact ⟨v, by rw [h0], fun _ => ho, fun h => absurd h0 h, hbb⟩
  · refine (put_bad a k s A n c w (by have := hb.1; have := hb.2.1; unfold maxLen at this; omega) h0).mono ?_
    rintro e w' ⟨rfl, rfl⟩
    exact ⟨_, rfl, fun h => absurd h h0, fun _ => rfl, Below.refl _ _⟩
end Go.Proofs.YtnpebfolmdbipaaGreatDoor.Fm
