import Derived.Test.YtnaoodaadeimbaaPn13
import Derived.BigQuiet
import Derived.Deep.RegionHeld
namespace Go.Proofs.Ytnaoodaadeimbaa
set_option linter.unusedVariables false
set_option linter.unusedSimpArgs false
set_option maxRecDepth 8000
open Go.RowKit Mem Mo Ti Pl
theorem u32_bdB {x : Int} (h : (Lit.int .u32 x).wf = true) : 0 ≤ x ∧ x ≤ 4294967295 := by
  simpa [Lit.wf, IntKind.min, IntKind.max, IntKind.bits, IntKind.signed] using h
set_option maxRecDepth 100000 in
set_option maxHeartbeats 4000000 in
theorem planBack_walk (i x1 x2 x3 x4 x5 : Int) (A : Option Addr) (len c : Nat) (f : Nat → Nat → Value) (more : Int) (w : World)
    (hb : (Lit.int .u32 i).wf = true ∧ (Lit.int .i64 x1).wf = true ∧ (Lit.int .i64 x2).wf = true ∧ (Lit.int .i64 x3).wf = true ∧ (Lit.int .i64 x4).wf = true ∧ (Lit.int .i64 x5).wf = true) {fs : Array Field} (hu : Try.prog.underlying 58 = some (.struct fs)) (hf : Structs Try.prog w w.heap.size fs A len c f) (hmo : (Lit.int .u8 more).wf = true) :
    Calls Try.prog 5 #[.agg #[.int .u32 i, .int .i64 x1, .int .i64 x2, .int .i64 x3, .int .i64 x4, .int .i64 x5, .slice A len c], .int .u8 more] w fun e w' => e = .returned (.bool true) ∧ Below w.heap.size w w' := by
  obtain ⟨u, p, hr, hn⟩ := tiers_of hu hf
  obtain ⟨b0, b1, b2, b3, b4, b5⟩ := hb
  have bi := u32_bdB b0
  have k2 := i64_bd b2
  clear b0 b1 b2 b3 b4 b5 hu hf hn
  have G := Lib.hid (fun W => goes_any W)
  have bm : 0 ≤ more ∧ more ≤ 255 := by simpa [Lit.wf, IntKind.min, IntKind.max, IntKind.bits, IntKind.signed] using hmo
  clear hmo
  obtain ⟨W0, hW0⟩ : ∃ W0, w.alloc (.cells #[.int .u32 i, .int .i64 x1, .int .i64 x2, .int .i64 x3, .int .i64 x4, .int .i64 x5, .slice A len c] 25) = W0 := ⟨_, rfl⟩
  have V0 : VN W0 w.heap.size [.int .u32 i, .int .i64 x1, .int .i64 x2, .int .i64 x3, .int .i64 x4, .int .i64 x5, .slice A len c] := by rw [← hW0]; exact VN.new w #[.int .u32 i, .int .i64 x1, .int .i64 x2, .int .i64 x3, .int .i64 x4, .int .i64 x5, .slice A len c] 25
  have hb0 : Below w.heap.size w W0 := by rw [← hW0]; exact (Below.refl _ _).alloc (Nat.le_refl _) _
  have HV := Lib.hid V0
  have B0 := Lib.hid hb0
  have CK := Lib.hid (fun W (h : Below w.heap.size w W) => (show Calls Try.prog 11 #[.agg #[.int .u32 i, .int .i64 x1, .int .i64 x2, .int .i64 x3, .int .i64 x4, .int .i64 x5, .slice A len c]] W fun e w' => e = .returned (.bool (may (⟨i, x1, x2, x3, x4, x5, len, u, p⟩ : Pln))) ∧ Below W.heap.size W w' from Check_any (⟨i, x1, x2, x3, x4, x5, len, u, p⟩ : Pln) A c W w.heap.size (hr.below h) h.size bi.1))
  have d0 := V0.c 0 _ rfl
  have d1 := V0.c 1 _ rfl
  have d2 := V0.c 2 _ rfl
  have d3 := V0.c 3 _ rfl
  have d4 := V0.c 4 _ rfl
  have d5 := V0.c 5 _ rfl
  have d6 := V0.c 6 _ rfl
  cases hmay : may (⟨i, x1, x2, x3, x4, x5, len, u, p⟩ : Pln) with
  | false =>
    rw [hmay] at CK
    have CP := Lib.hid (fun W (h : Below w.heap.size w W) => (show Calls Try.prog 9 #[.agg #[.int .u32 i, .int .i64 x1, .int .i64 x2, .int .i64 x3, .int .i64 x4, .int .i64 x5, .slice A len c]] W fun e w' => e = .returned (.tuple #[.slice none 0 0, .int .i64 1]) ∧ Below W.heap.size W w' from Put_no (⟨i, x1, x2, x3, x4, x5, len, u, p⟩ : Pln) A c W w.heap.size (hr.below h) h.size bi.1 hmay))
    clear hr hmay V0 hb0 k2 bi bm
    by_cases h20 : 20 < len
    · have z1 : (20 < (len : Int)) = True := by simp; omega
      clear h20
      go_enter Try.func5, Try.ntmps5
      go_wp2_with fail
      refine (CP.out _ B0.out).mono ?_
      rintro e w1 ⟨rfl, hb⟩
      have B1 := Lib.hid (B0.out.trans (hb.mono B0.out.size))
      have V1 := HV.out.bel hb
      clear d0 d1 d2 d3 d4 d5 d6 hb
      have d0 := V1.c 0 _ rfl; have d1 := V1.c 1 _ rfl; have d2 := V1.c 2 _ rfl; have d3 := V1.c 3 _ rfl; have d4 := V1.c 4 _ rfl; have d5 := V1.c 5 _ rfl; have d6 := V1.c 6 _ rfl
      clear V1
      go_wp2_with fail
      refine (G.out _).mono ?_
      rintro e w4 ⟨rfl, hb⟩
      have B4 := Lib.hid (B1.out.trans (hb.mono B1.out.size)); clear hb
      go_wp2_with fail
      go_ret
      exact ⟨rfl, B4.out⟩
    · have z1 : (20 < (len : Int)) = False := by simp; omega
      clear h20
      go_enter Try.func5, Try.ntmps5
      go_wp2_with fail
      refine (CP.out _ B0.out).mono ?_
      rintro e w1 ⟨rfl, hb⟩
      have B1 := Lib.hid (B0.out.trans (hb.mono B0.out.size))
      have V1 := HV.out.bel hb
      clear d0 d1 d2 d3 d4 d5 d6 hb
      have d0 := V1.c 0 _ rfl; have d1 := V1.c 1 _ rfl; have d2 := V1.c 2 _ rfl; have d3 := V1.c 3 _ rfl; have d4 := V1.c 4 _ rfl; have d5 := V1.c 5 _ rfl; have d6 := V1.c 6 _ rfl
      clear V1
      go_wp2_with fail
      refine (CK.out _ B1.out).mono ?_
      rintro e w2 ⟨rfl, hb⟩
      have B2 := Lib.hid (B1.out.trans (hb.mono B1.out.size)); clear hb
      go_wp2_with fail
      refine (G.out _).mono ?_
      rintro e w4 ⟨rfl, hb⟩
      have B4 := Lib.hid (B2.out.trans (hb.mono B2.out.size)); clear hb
      go_wp2_with fail
      go_ret
      exact ⟨rfl, B4.out⟩
  | true =>
    have M := (may_iff _).1 hmay
    have h4 : len ≤ 4 := M.t.m4
    obtain ⟨ho, hsm⟩ := okG_of M bi (rfl : Pl.bytes (⟨i, x1, x2, x3, x4, x5, len, u, p⟩ : Pln) = _)
    have hbl := bytes_len (⟨i, x1, x2, x3, x4, x5, len, u, p⟩ : Pln)
    have CP := Lib.hid (fun W (h : Below w.heap.size w W) => (show Calls Try.prog 9 #[.agg #[.int .u32 i, .int .i64 x1, .int .i64 x2, .int .i64 x3, .int .i64 x4, .int .i64 x5, .slice A len c]] W fun e w' => ∃ A' n, e = .returned (.tuple #[.slice A' (Pl.bytes (⟨i, x1, x2, x3, x4, x5, len, u, p⟩ : Pln)).length n, .int .i64 0]) ∧ Rd w' w'.heap.size A' n (Pl.bytes (⟨i, x1, x2, x3, x4, x5, len, u, p⟩ : Pln)) ∧ Below W.heap.size W w' from Put_ok (⟨i, x1, x2, x3, x4, x5, len, u, p⟩ : Pln) A c W w.heap.size (hr.below h) h.size bi M))
    obtain ⟨L, hL⟩ : ∃ L, Pl.bytes (⟨i, x1, x2, x3, x4, x5, len, u, p⟩ : Pln) = L := ⟨_, rfl⟩
    rw [hL] at CP ho hsm hbl
    obtain ⟨Q, hQ⟩ : ∃ Q, rd L = Q := ⟨_, rfl⟩
    obtain ⟨m, hm⟩ : ∃ m, L.length = m + 1 := ⟨L.length - 1, by simp only at hbl; omega⟩
    simp only at hbl
    have hmb : m = 55 + 16 * len := by omega
    have hnt : ¬ OkG (L.take m) := fun o => by have := o.len; rw [List.length_take] at this; omega
    obtain ⟨x, hx⟩ : ∃ x : UInt8, x = UInt8.ofNat more.toNat := ⟨_, rfl⟩
    have hxc : (#[Value.int .u8 more] : Array Value) = bcs [x] := by
      rw [hx]; unfold bcs bv; simp; omega
    have hna : ¬ OkG (L ++ [x]) := fun o => by have := o.len; rw [List.length_append] at this; simp at this; omega
    have CG := Lib.hid (fun W A1 c1 (h : Rd W W.heap.size A1 c1 L) => (show Calls Try.prog 14 #[.slice A1 (m + 1) c1] W fun e w' => ∃ A3 c3, e = .returned (.tuple #[.agg #[.int .u32 Q.i, .int .i64 Q.dy, .int .i64 Q.mo, .int .i64 Q.ov, .int .i64 Q.ro, .int .i64 Q.ba, .slice A3 Q.n c3], .int .i64 0]) ∧ RdT w' w'.heap.size A3 c3 Q.u Q.p Q.n ∧ Below W.heap.size W w' from by
      have h2 := Get_any A1 c1 L W h (by omega)
      rw [hm, hQ] at h2
      exact h2.mono (fun e w' ⟨hb, hh⟩ => by
        rcases hh with ⟨_, A', c', rfl, hrt⟩ | ⟨hn, _⟩
        · exact ⟨A', c', rfl, hrt, hb⟩
        · exact absurd ho hn)))
    have CG2 := Lib.hid (fun W A1 c1 (h : Rd W W.heap.size A1 c1 (L.take m)) => (show Calls Try.prog 14 #[.slice A1 m c1] W fun e w' => e = .returned (.tuple #[.agg #[.int .u32 0, .int .i64 0, .int .i64 0, .int .i64 0, .int .i64 0, .int .i64 0, .slice none 0 0], .int .i64 21]) ∧ Below W.heap.size W w' from by
      have h2 := Get_any A1 c1 (L.take m) W h (by rw [List.length_take]; omega)
      rw [show (L.take m).length = m by rw [List.length_take]; omega] at h2
      exact h2.mono (fun e w' ⟨hb, hh⟩ => by
        rcases hh with ⟨hn, _⟩ | ⟨_, rfl⟩
        · exact absurd hn hnt
        · exact ⟨rfl, hb⟩)))
    have CG3 := Lib.hid (fun W A1 c1 (h : Rd W W.heap.size A1 c1 (L ++ [x])) => (show Calls Try.prog 14 #[.slice A1 (L ++ [x]).length c1] W fun e w' => e = .returned (.tuple #[.agg #[.int .u32 0, .int .i64 0, .int .i64 0, .int .i64 0, .int .i64 0, .int .i64 0, .slice none 0 0], .int .i64 21]) ∧ Below W.heap.size W w' from by
      have h2 := Get_any A1 c1 (L ++ [x]) W h (by rw [List.length_append]; simp; omega)
      exact h2.mono (fun e w' ⟨hb, hh⟩ => by
        rcases hh with ⟨hn, _⟩ | ⟨_, rfl⟩
        · exact absurd hn hna
        · exact ⟨rfl, hb⟩)))
    have CS := Lib.hid (fun W A3 c3 (hw : Below w.heap.size w W) (h : RdT W W.heap.size A3 c3 Q.u Q.p Q.n) => (show Calls Try.prog 16 #[.agg #[.int .u32 i, .int .i64 x1, .int .i64 x2, .int .i64 x3, .int .i64 x4, .int .i64 x5, .slice A len c], .agg #[.int .u32 Q.i, .int .i64 Q.dy, .int .i64 Q.mo, .int .i64 Q.ov, .int .i64 Q.ro, .int .i64 Q.ba, .slice A3 Q.n c3]] W fun e w' => e = .returned (.bool true) ∧ Below W.heap.size W w' from
      Same_yes (⟨i, x1, x2, x3, x4, x5, len, u, p⟩ : Pln) Q (by rw [← hQ]; exact hsm.symm) A A3 c c3 W W.heap.size ((hr.below hw).more hw.size) h (Nat.le_refl _)))
    rw [hm] at CP
    have z1 : (20 < (len : Int)) = False := by simp; omega
    have z2 : ((m : Int) + 1 < 1) = False := by simp; omega
    have HL := Lib.hid hm
    have HMB := Lib.hid (And.intro hmb h4)
    have HX := Lib.hid hxc
    clear hr hmay V0 hb0 k2 bi bm M ho hsm hbl hL hQ hm hmb hnt hna hx hxc CK h4
    go_enter Try.func5, Try.ntmps5
    go_wp2_with fail
    refine (CP.out _ B0.out).mono ?_
    rintro e w1 ⟨A1, n1, rfl, hrd, hb⟩
    obtain ⟨bb, oo, rfl, _⟩ := hrd.2.2.2 (by rw [HL.out]; omega)
    have hn1 : m + 1 ≤ n1 := by have := hrd.1; rw [HL.out] at this; exact this
    have B1 := Lib.hid (B0.out.trans (hb.mono B0.out.size))
    have V1 := HV.out.bel hb
    have HV1 := Lib.hid V1
    have R1 := Lib.hid hrd
    clear d0 d1 d2 d3 d4 d5 d6 hb hrd
    have d0 := V1.c 0 _ rfl; have d1 := V1.c 1 _ rfl; have d2 := V1.c 2 _ rfl; have d3 := V1.c 3 _ rfl; have d4 := V1.c 4 _ rfl; have d5 := V1.c 5 _ rfl; have d6 := V1.c 6 _ rfl
    clear V1
    go_wp2_with fail
    refine (CG.out _ _ _ R1.out).mono ?_
    rintro e w2 ⟨A3, c3, rfl, hrt, hb⟩
    obtain ⟨W2, hW2⟩ : ∃ W2, w2.alloc (.cells #[.int .u32 Q.i, .int .i64 Q.dy, .int .i64 Q.mo, .int .i64 Q.ov, .int .i64 Q.ro, .int .i64 Q.ba, .slice A3 Q.n c3] 25) = W2 := ⟨_, rfl⟩
    have Vq : VN W2 w2.heap.size [.int .u32 Q.i, .int .i64 Q.dy, .int .i64 Q.mo, .int .i64 Q.ov, .int .i64 Q.ro, .int .i64 Q.ba, .slice A3 Q.n c3] := by rw [← hW2]; exact VN.new w2 #[.int .u32 Q.i, .int .i64 Q.dy, .int .i64 Q.mo, .int .i64 Q.ov, .int .i64 Q.ro, .int .i64 Q.ba, .slice A3 Q.n c3] 25
    have hb2 : Below w2.heap.size w2 W2 := by rw [← hW2]; exact (Below.refl _ _).alloc (Nat.le_refl _) _
    have hb3 := hb.trans (hb2.mono hb.size)
    have B2 := Lib.hid (B1.out.trans (hb3.mono B1.out.size))
    have V2 := HV1.out.bel hb3
    have R2 := Lib.hid ((R1.out.below hb3).more hb3.size)
    have T2 := Lib.hid ((hrt.below hb2).more hb2.size)
    clear d0 d1 d2 d3 d4 d5 d6 hb hb2 hb3 hrt
    have d0 := V2.c 0 _ rfl; have d1 := V2.c 1 _ rfl; have d2 := V2.c 2 _ rfl; have d3 := V2.c 3 _ rfl; have d4 := V2.c 4 _ rfl; have d5 := V2.c 5 _ rfl; have d6 := V2.c 6 _ rfl
    have q0 := Vq.c 0 _ rfl; have q1 := Vq.c 1 _ rfl; have q2 := Vq.c 2 _ rfl; have q3 := Vq.c 3 _ rfl; have q4 := Vq.c 4 _ rfl; have q5 := Vq.c 5 _ rfl; have q6 := Vq.c 6 _ rfl
    clear V2 Vq
    go_wp2_with fail
    refine (CS.out _ _ _ B2.out T2.out).mono ?_
    rintro e w3 ⟨rfl, hb⟩
    have B3 := Lib.hid (B2.out.trans (hb.mono B2.out.size))
    have R3 := Lib.hid ((R2.out.below hb).more hb.size)
    clear hb d0 d1 d2 d3 d4 d5 d6 q0 q1 q2 q3 q4 q5 q6
    have i1 : (m : Int) ≤ (n1 : Int) := by omega
    have i0 : wrap64 (m : Int) = m := by have := HMB.out; unfold wrap64; omega
    go_wp2_with fail
    refine (CG2.out _ _ _ (R3.out.take m)).mono ?_
    rintro e w4 ⟨rfl, hb⟩
    have B4 := Lib.hid ((B3.out.trans (hb.mono B3.out.size)).alloc (Nat.le_trans B3.out.size hb.size) (.cells #[.int .u32 0, .int .i64 0, .int .i64 0, .int .i64 0, .int .i64 0, .int .i64 0, .slice none 0 0] 25))
    have HW4 := Lib.hid (Nat.le_trans B3.out.size hb.size)
    have hs4 : (w4.alloc (.cells #[.int .u32 0, .int .i64 0, .int .i64 0, .int .i64 0, .int .i64 0, .int .i64 0, .slice none 0 0] 25)).heap.size = w4.heap.size + 1 := by simp
    have O1 := Own.lit 5 (w4.alloc (.cells #[.int .u32 0, .int .i64 0, .int .i64 0, .int .i64 0, .int .i64 0, .int .i64 0, .slice none 0 0] 25)) [] w4.heap.size (by simp) (by simp)
    rw [hs4] at O1
    have O4 := Lib.hid O1
    have R4 : Hid (Rd ((w4.alloc (.cells #[.int .u32 0, .int .i64 0, .int .i64 0, .int .i64 0, .int .i64 0, .int .i64 0, .slice none 0 0] 25)).alloc (.cells #[] 5)) w4.heap.size (some ⟨bb, oo, none⟩) n1 L) := Lib.hid (((R3.out.below hb).more hb.size).alloc (Nat.le_refl _) (.cells #[.int .u32 0, .int .i64 0, .int .i64 0, .int .i64 0, .int .i64 0, .int .i64 0, .slice none 0 0] 25) |>.alloc (by simp) (.cells #[] 5))
    have N4 := Lib.hid (show ([] : List UInt8).length + L.length ≤ 140737488355328 by have := HMB.out; rw [HL.out]; simp; omega)
    have N5 := Lib.hid (show L.length + [x].length ≤ 140737488355328 by have := HMB.out; rw [HL.out]; simp; omega)
    have S4 := Lib.hid (show w4.heap.size ≤ ((w4.alloc (.cells #[.int .u32 0, .int .i64 0, .int .i64 0, .int .i64 0, .int .i64 0, .int .i64 0, .slice none 0 0] 25)).alloc (.cells #[] 5)).heap.size by simp; omega)
    have HL2 := Lib.hid (show m + 1 = L.length from HL.out.symm)
    clear hb i0 i1 O1 hs4
    go_wp2_with (first
      | (at_builtin; refine wpList_append_rd byteTy rfl _ _ rfl w4.heap.size _ L rfl O6.out (w5.heap.size + 1) _ _ _ [x] rfl rfl R6.out N5.out S6.out ?_; intro v6 w6 ho6 hg6 hr6; obtain ⟨A6, c6, rfl, hrd6, _⟩ := ho6.form; have R7 := Lib.hid hrd6; have G6 := Lib.hid hg6; clear ho6 hg6 hr6 hrd6)
      | (at_builtin; refine wpList_append_rd byteTy rfl _ _ rfl w4.heap.size _ [] rfl O4.out w4.heap.size _ _ _ L rfl HL2.out R4.out N4.out S4.out ?_; intro v5 w5 ho5 hg5 hr5; rw [List.nil_append] at ho5; have OO := ho5; have O6 : Hid (Mem.Own 5 (w5.alloc (.cells #[.int .u8 more] 5)) w4.heap.size v5 L) := Lib.hid (ho5.below ((Below.refl w5.heap.size w5).alloc (Nat.le_refl _) _) (Nat.le_refl _)); have R6 : Hid (Rd (w5.alloc (.cells #[.int .u8 more] 5)) (w5.heap.size + 1) (some ⟨w5.heap.size, 0, none⟩) 1 [x]) := Lib.hid (by have := rd_lit w5 [x] #[.int .u8 more] HX.out (by simp); simpa using this); have S6 : Hid (w4.heap.size ≤ (w5.alloc (.cells #[.int .u8 more] 5)).heap.size) := Lib.hid (by have := hg5.size; simp at this ⊢; omega); have G5 := Lib.hid hg5; obtain ⟨A5, c5, rfl, _⟩ := OO.form; clear ho5 hg5 hr5 OO))
    rw [show L.length + 1 = (L ++ [x]).length by simp]
    refine (CG3.out _ _ _ R7.out).mono ?_
    rintro e w7 ⟨rfl, hb⟩
    have b1 := B4.out.alloc B4.out.size (.cells #[] 5)
    have b2 := b1.grown G5.out b1.size (fun q hq => by have := (World.ownsRow.lt O4.out q hq).1; have := HW4.out; omega)
    have b3 := b2.alloc b2.size (.cells #[.int .u8 more] 5)
    have b4 := b3.grown G6.out b3.size (fun q hq => by have := (World.ownsRow.lt O6.out q hq).1; have := HW4.out; omega)
    have B7 := Lib.hid ((b4.trans (hb.mono b4.size)).alloc (Nat.le_trans b4.size hb.size) (.cells #[.int .u32 0, .int .i64 0, .int .i64 0, .int .i64 0, .int .i64 0, .int .i64 0, .slice none 0 0] 25))
    clear hb b1 b2 b3 b4
    go_wp2_with fail
    refine (G.out _).mono ?_
    rintro e w8 ⟨rfl, hb⟩
    have B8 := Lib.hid (B7.out.trans (hb.mono B7.out.size)); clear hb
    go_wp2_with fail
    go_ret
    exact ⟨rfl, B8.out⟩
end Go.Proofs.Ytnaoodaadeimbaa
