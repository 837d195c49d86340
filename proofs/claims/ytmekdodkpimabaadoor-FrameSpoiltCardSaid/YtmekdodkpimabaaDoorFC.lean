import Derived.Test.YtmekdodkpimabaaDoorFB
import Derived.StillTailTactics
import Derived.LoopTactic
namespace Go.Proofs.YtmekdodkpimabaaDoor
open Go.RowKit Mem
attribute [local go_sem] Oper.semAt_some

theorem u8_and1 (n : Int) : bits .and .u8 n 1 = n % 2 := by
  have h1 : (BitVec.ofInt 8 1).toNat = 2 ^ 1 - 1 := by decide
  have key : (BitVec.ofInt 8 n &&& BitVec.ofInt 8 1).toNat = (n % ((2 ^ 8 : Nat) : Int)).toNat % 2 ^ 1 := by
    rw [BitVec.toNat_and, BitVec.toNat_ofInt, h1, Nat.and_two_pow_sub_one_eq_mod]
  show IntKind.u8.wrap ((BitVec.ofInt 8 n &&& BitVec.ofInt 8 1).toNat : Nat) = n % 2
  rw [key, IntKind.wrap_u8]
  omega
theorem run_cut (fr g c : Nat) (hc : fr + 512 ≤ c) (W : World) : (Instr.sliceAt 23 (.slice (some ⟨g, 0, none⟩) 4096 c) (some (.int .i64 (fr : Int))) (some (.int .i64 ((fr : Int) + 512))) none).run Tryd.prog W = .ok (.slice (some ⟨g, fr, none⟩) 512 (c - fr)) W := by
  have f1 : ((fr : Int) + 512).toNat = fr + 512 := by omega
  have f2 : (fr : Int) + 512 ≤ (c : Int) := by omega
  have f3 : ¬ (c = fr) := by omega
  have f4 : (0 : Int) ≤ (fr : Int) + 512 := by omega
  have f5 : fr + 512 - fr = 512 := by omega
  have f6 : (fr : Int) ≤ (fr : Int) + 512 := by omega
  go_simp

/-- One sector is copied. -/
theorem copy_sec (W : World) (g c g' c' base base' : Nat) (p y : List UInt8) (hp : p.length = 4096) (hy : y.length = 4096) (hown : Mem.Own 5 W base (.slice (some ⟨g, 0, none⟩) 4096 c) p) (hown' : Mem.Own 5 W base' (.slice (some ⟨g', 0, none⟩) 4096 c') y) (k : Nat) (hk : k < 8) (fr C : Nat) (hfr : fr = 512 * k) :
    ∃ W', (Builtin.copy_ #[23, 23] 3 #[.slice (some ⟨g, fr, none⟩) 512 C, .slice (some ⟨g', fr, none⟩) 512 (c' - fr)]).run Tryd.prog W = .ok (.int .i64 512) W' ∧ Mem.Own 5 W' base (.slice (some ⟨g, 0, none⟩) 4096 c) (splice p (512 * k) (sec y k)) ∧ W.grownBy W' (some g) := by
  subst hfr
  have hr := own_rd hown' hy
  have hr2 := (hr.drop (512 * k) (by omega)).take 512
  have hs : (sec y k).length = 512 := length_sec y k hy hk
  rw [Nat.zero_add] at hr2
  rw [← hp] at hown
  obtain ⟨W', h1, h2, h3⟩ := run_copy_own W 3 g (512 * k) 512 C c base p (sec y k) hown _ 512 _ _ hr2 (by omega) hs.symm 512 (by rw [hs]; rfl) (by omega)
  rw [List.take_of_length_le (by omega), hp] at h2
  exact ⟨W', h1, h2, h3⟩

set_option maxRecDepth 20000 in
set_option maxHeartbeats 2000000 in
theorem torn_main (a : Int) (k s t m nx cx ny cy : Nat) (Ax Ay : Option Addr) (x y : List UInt8) (w : World) (hT : Tab w) (hk : k < 256) (hs : s < 18446744073709551616) (ht : t < 18446744073709551616) (hm : m < 256)
    (hx : Rd w w.heap.size Ax cx x) (hxl : x.length = nx) (hy : Rd w w.heap.size Ay cy y) (hyl : y.length = ny) (h1 : may a s nx = 0) (h2 : may a t ny = 0) (hst : s ≠ t) :
    Calls Tryd.prog 4 #[.int .i64 a, .int .u8 k, .slice Ax nx cx, .slice Ay ny cy, .int .u64 s, .int .u64 t, .int .u8 m] w fun e w' => e = .returned (.bool true) ∧ Below w.heap.size w w' := by
  have i1 : ¬ (s : Int) = t := by omega
  have lx : x.length ≤ 4011 := by rw [hxl]; exact ((may_zero _ _ _).1 h1).2.2.2
  have ly : y.length ≤ 4011 := by rw [hyl]; exact ((may_zero _ _ _).1 h2).2.2.2
  obtain ⟨X, hX⟩ : ∃ X, Frm.frame a.toNat k s x = X := ⟨_, rfl⟩
  obtain ⟨Y, hY⟩ : ∃ Y, Frm.frame a.toNat k t y = Y := ⟨_, rfl⟩
  have hXl : X.length = 4096 := by rw [← hX]; exact Frm.length_frame _ _ _ _ lx
  have hYl : Y.length = 4096 := by rw [← hY]; exact Frm.length_frame _ _ _ _ ly
  have HT := Lib.hid hT
  have HX := Lib.hid hx
  have HXL := Lib.hid hxl
  have HY := Lib.hid hy
  have HYL := Lib.hid hyl
  have M1 := Lib.hid h1
  have M2 := Lib.hid h2
  have EX := Lib.hid hX
  have EY := Lib.hid hY
  have LX := Lib.hid hXl
  have LY := Lib.hid hYl
  have HS := Lib.hid hs
  have HTT := Lib.hid ht
  have HST := Lib.hid hst
  clear hT hx hxl hy hyl h1 h2 hX hY hXl hYl hs ht lx ly hst
  go_enter Tryd.func4, Tryd.ntmps4
  go_wp2_with (first
    | (go_at_call 8; refine (put_yes (HT.out.low B1.out) hk HTT.out ((HY.out.below B1.out).more B1.out.size) HYL.out M2.out).mono ?_; rintro e w2 ⟨g2, c2, rfl, ho2, _, hb2⟩; rw [EY.out] at ho2; have O2 := Lib.hid ho2; have O3 := Lib.hid (O1.out.below hb2 (Nat.le_refl _)); have B2 := Lib.hid (B1.out.trans (hb2.mono B1.out.size)); have N2 : Hid (g1 ≠ g2) := Lib.hid (fun e => by have e1 := (own_lt O1.out).2; have e2 := (own_lt ho2).1; omega); have B3 := Lib.hid hb2; clear ho2 hb2)
    | (go_at_call 8; refine (put_yes HT.out hk HS.out HX.out HXL.out M1.out).mono ?_; rintro e w1 ⟨g1, c1, rfl, ho1, _, hb1⟩; rw [EX.out] at ho1; have O1 := Lib.hid ho1; have B1 := Lib.hid hb1; clear ho1 hb1)
    | fail)
  have i3 : ((s : Int) == (t : Int)) = false := by simpa using i1
  simp only [i3]
  clear i1 i3
  go_loopw [19] (fun v wr => ∃ q : Nat, q ≤ 8 ∧ v = .int .i64 q ∧ Hid (Mem.Own 5 wr w.heap.size (.slice (some ⟨g1, 0, none⟩) 4096 c1) (mixTo X Y m q)) ∧ Hid (Mem.Own 5 wr w1.heap.size (.slice (some ⟨g2, 0, none⟩) 4096 c2) Y) ∧ Hid (Below w.heap.size w wr)) (fun v _ => 8 - (intOf v).toNat)
  case atStart => exact ⟨0, by omega, rfl, O3, O2, B2⟩
  case round =>
    obtain ⟨q, hq, rfl, OX, OY, BR⟩ := hrel
    by_cases hlt : q < 8
    · have hand := u8_and1
      have hmp := length_mix X Y m LX.out LY.out q hq
      by_cases hb : mb m q
      · obtain ⟨fr, hfr⟩ : ∃ fr : Nat, fr = 512 * q := ⟨_, rfl⟩
        have oX := Mem.Own.below OX.out ((Below.refl _ wr).drew) (Nat.le_refl _)
        have oY := Mem.Own.below OY.out ((Below.refl _ wr).drew) (Nat.le_refl _)
        have hlo := (own_lt OX.out).1
        have hc1 := (own_rd OX.out hmp).1
        have hc2 := (own_rd OY.out LY.out).1
        rw [hmp] at hc1
        rw [LY.out] at hc2
        obtain ⟨W', hcp, hown', hg'⟩ := copy_sec wr.drew g1 c1 g2 c2 w.heap.size w1.heap.size (mixTo X Y m q) Y hmp LY.out oX oY q hlt fr (c1 - fr) hfr
        have hd2 : splice (mixTo X Y m q) (512 * q) (sec Y q) = mixTo X Y m (q + 1) := by rw [mixTo, if_pos hb]
        rw [hd2] at hown'
        have PX := Lib.hid hown'
        have PY : Hid (Mem.Own 5 W' w1.heap.size (.slice (some ⟨g2, 0, none⟩) 4096 c2) Y) := Lib.hid (World.ownsRow.kept oY hg' (.inr (by intro e; injection e with e; exact N2.out e.symm)))
        have PB : Hid (Below w.heap.size w W') := Lib.hid ((BR.out.drew).grown hg' BR.out.size (fun k e => by injection e with e; subst e; exact hlo))
        have HB := Lib.hid hb
        have hb' : (m : Int) / 2 ^ q % 2 = 1 := by unfold mb at hb; exact_mod_cast hb
        have e1 : 512 * (q : Int) = (fr : Int) := by omega
        have u1 : IntKind.i64.wrap (fr : Int) = fr := by rw [IntKind.wrap_i64]; omega
        have u2 : IntKind.i64.wrap ((fr : Int) + 512) = fr + 512 := by rw [IntKind.wrap_i64]; omega
        have s1 := run_cut fr g1 c1 (by omega)
        have s2 := run_cut fr g2 c2 (by omega)
        have HFR := Lib.hid hfr
        clear hown' hg' oX oY hd2 hmp hb hlo hc1 hc2 hfr OX OY BR
        go_wp2

        go_still_tail 14, (by kernel_rfl)
        change wpList _ _ _ _ _ wr.drew
        go_wp2
        go_roundw
        case rel => exact ⟨q + 1, by omega, by go_num, PX, PY, PB⟩
        case measure => simp [intOf]; omega
      · have hd2 : mixTo X Y m q = mixTo X Y m (q + 1) := by rw [mixTo, if_neg hb]
        have PX : Hid (Mem.Own 5 wr w.heap.size (.slice (some ⟨g1, 0, none⟩) 4096 c1) (mixTo X Y m (q + 1))) := Lib.hid (hd2 ▸ OX.out)
        have hb' : ¬ (m : Int) / 2 ^ q % 2 = 1 := by unfold mb at hb; exact_mod_cast hb
        clear hd2 hmp hb OX
        go_wp2
        go_roundw
        case rel => exact ⟨q + 1, by omega, by go_num, PX, OY, BR⟩
        case measure => simp [intOf]; omega
    · obtain rfl : q = 8 := by omega
      have hHT := HT.out.low BR.out
      obtain ⟨Z, hZ⟩ : ∃ Z, mixTo X Y m 8 = Z := ⟨_, rfl⟩
      have hZl : Z.length = 4096 := by rw [← hZ]; exact length_mix X Y m LX.out LY.out 8 (by omega)
      have hR : Rd wr wr.heap.size (some ⟨g1, 0, none⟩) c1 Z := by rw [← hZ]; exact own_rd OX.out (length_mix X Y m LX.out LY.out 8 (by omega))
      have lx : x.length ≤ 4011 := by rw [HXL.out]; exact ((may_zero _ _ _).1 M1.out).2.2.2
      have ly : y.length ≤ 4011 := by rw [HYL.out]; exact ((may_zero _ _ _).1 M2.out).2.2.2
      have RZ := Lib.hid hR
      have WT := Lib.hid hHT
      have LZ := Lib.hid hZl
      have KX := Lib.hid (HX.out.below BR.out)
      have KY := Lib.hid (HY.out.below BR.out)
      clear hR hHT hZl
      by_cases c0 : m = 0
      · subst c0
        have hzx : Z = X := by rw [← hZ]; exact mix_none X Y LX.out LY.out
        have q1 : gets Z a k := by rw [hzx, ← EX.out]; exact (gets_put (by rw [HXL.out]; exact M1.out) hk HS.out a k hk).2 ⟨rfl, rfl⟩
        have q2 : Frm.newest Z = s := by rw [hzx, ← EX.out]; exact Frm.newest_frame _ _ _ _ lx HS.out
        have q3 : Frm.held Z = x := by rw [hzx, ← EX.out]; exact Frm.held_frame _ _ _ _ lx
        have Q1 := Lib.hid q1
        have Q2 := Lib.hid q2
        have Q3 := Lib.hid q3
        clear hzx q1 q2 q3 hZ lx ly
        go_wp2_with (first
          | (go_at_call 10; refine (goes_any w4 (WT.out.low B4.out)).mono ?_; rintro e w5 ⟨rfl, hb5⟩; have B5 := Lib.hid (B4.out.trans (hb5.mono B4.out.size)); clear hb5)
          | (go_at_call 13; refine (get_yes WT.out RZ.out LZ.out hk Q1.out s Q2.out x Q3.out).mono ?_; rintro e w4 ⟨v4, rfl, ho4, hb4⟩; obtain ⟨A4, c4, rfl, hr4, _⟩ := ho4.form; rw [HXL.out]; have k3 : (convert 23 9 (.slice A4 nx c4)).run Tryd.prog w4 = .ok (.string (str x)) w4 := (by rw [← HXL.out]; exact run_str_rd w4 hr4); have k4 : (convert 23 9 (.slice Ax nx cx)).run Tryd.prog w4 = .ok (.string (str x)) w4 := (by rw [← HXL.out]; exact run_str_rd w4 (KX.out.below (hb4.mono BR.out.size))); have B4 := Lib.hid hb4; clear ho4 hr4 hb4)
          | fail)
        go_ret
        exact ⟨rfl, BR.out.trans (B5.out.mono BR.out.size)⟩
      · have c0' : ¬ (m : Int) = 0 := by omega
        by_cases c1' : m = 255
        · subst c1'
          have hzx : Z = Y := by rw [← hZ]; exact mix_all X Y LX.out LY.out
          have q1 : gets Z a k := by rw [hzx, ← EY.out]; exact (gets_put (by rw [HYL.out]; exact M2.out) hk HTT.out a k hk).2 ⟨rfl, rfl⟩
          have q2 : Frm.newest Z = t := by rw [hzx, ← EY.out]; exact Frm.newest_frame _ _ _ _ ly HTT.out
          have q3 : Frm.held Z = y := by rw [hzx, ← EY.out]; exact Frm.held_frame _ _ _ _ ly
          have Q1 := Lib.hid q1
          have Q2 := Lib.hid q2
          have Q3 := Lib.hid q3
          clear hzx q1 q2 q3 hZ lx ly
          go_wp2_with (first
            | (go_at_call 10; refine (goes_any w4 (WT.out.low B4.out)).mono ?_; rintro e w5 ⟨rfl, hb5⟩; have B5 := Lib.hid (B4.out.trans (hb5.mono B4.out.size)); clear hb5)
            | (go_at_call 13; refine (get_yes WT.out RZ.out LZ.out hk Q1.out t Q2.out y Q3.out).mono ?_; rintro e w4 ⟨v4, rfl, ho4, hb4⟩; obtain ⟨A4, c4, rfl, hr4, _⟩ := ho4.form; rw [HYL.out]; have k3 : (convert 23 9 (.slice A4 ny c4)).run Tryd.prog w4 = .ok (.string (str y)) w4 := (by rw [← HYL.out]; exact run_str_rd w4 hr4); have k4 : (convert 23 9 (.slice Ay ny cy)).run Tryd.prog w4 = .ok (.string (str y)) w4 := (by rw [← HYL.out]; exact run_str_rd w4 (KY.out.below (hb4.mono BR.out.size))); have B4 := Lib.hid hb4; clear ho4 hr4 hb4)
            | fail)
          go_ret
          exact ⟨rfl, BR.out.trans (B5.out.mono BR.out.size)⟩
        · have c1'' : ¬ (m : Int) = 255 := by omega
          obtain ⟨q2, q1⟩ := torn_frames a.toNat k s t x y m lx ly HS.out HTT.out HST.out hm c0 c1' a k
          rw [EX.out, EY.out, hZ] at q1 q2
          obtain ⟨mx, hmx⟩ : ∃ mx, max s t = mx := ⟨_, rfl⟩
          rw [hmx] at q2
          have Q1 := Lib.hid q1
          have Q2 := Lib.hid q2
          have HMX := Lib.hid hmx
          clear q1 q2 hZ lx ly c0 c1' hmx
          go_wp2_with (first
            | (go_at_call 10; refine (goes_any w5 (WT.out.low B5.out)).mono ?_; rintro e w6 ⟨rfl, hb6⟩; have B6 := Lib.hid (B5.out.trans (hb6.mono B5.out.size)); clear hb6)
            | (go_at_call 12; refine (Newest_any _ 4096 c1 Z w4 R4.out LZ.out).mono ?_; rintro e w5 ⟨rfl, hb5⟩; rw [Q2.out, ← HMX.out]; have B5 := Lib.hid (B4.out.trans (hb5.mono B4.out.size)); clear hb5)
            | (go_at_call 13; refine (get_no WT.out RZ.out LZ.out hk Q1.out).mono ?_; rintro e w4 ⟨rfl, hb4⟩; have B4 := Lib.hid hb4; have R4 := Lib.hid ((RZ.out.below hb4).more hb4.size); clear hb4)
            | fail)
          all_goals go_ret
          all_goals exact ⟨rfl, BR.out.trans (B6.out.mono BR.out.size)⟩

end Go.Proofs.YtmekdodkpimabaaDoor
