import Derived.Test.YtmekdodkpimabaaDoorFC
namespace Go.Proofs.YtmekdodkpimabaaDoor
set_option linter.unusedVariables false
set_option linter.unusedSimpArgs false
open Go.RowKit Mem
attribute [local go_sem] Oper.semAt_some

/-- Put, whatever it answers. -/
theorem put_some {a : Int} {k s n c : Nat} {A : Option Addr} {b : List UInt8} {w : World} (hT : Tab w) (hk : k < 256) (hs : s < 18446744073709551616) (hb : Rd w w.heap.size A c b) (hbl : b.length = n) (m : Int) (hm : may a s n = m) :
    Calls Tryd.prog 8 #[.int .i64 a, .int .u8 k, .int .u64 s, .slice A n c] w fun e w' => ∃ v, e = .returned (.tuple #[v, .int .i64 m]) ∧ Below w.heap.size w w' := by
  subst hm
  refine (Put_any a k s A n c b w hT hk hs hb hbl).mono ?_
  rintro e w' ⟨v, rfl, _, _, hbb⟩
  exact ⟨v, rfl, hbb⟩

set_option maxRecDepth 20000 in
set_option maxHeartbeats 1000000 in
theorem torn_bad1 (a : Int) (k s t m nx cx ny cy : Nat) (Ax Ay : Option Addr) (x y : List UInt8) (w : World) (hT : Tab w) (hk : k < 256) (hs : s < 18446744073709551616) (ht : t < 18446744073709551616)
    (hx : Rd w w.heap.size Ax cx x) (hxl : x.length = nx) (hy : Rd w w.heap.size Ay cy y) (hyl : y.length = ny) (p q : Int) (hp : may a s nx = p) (hq : may a t ny = q) (i1 : ¬ p = 0) :
    Calls Tryd.prog 4 #[.int .i64 a, .int .u8 k, .slice Ax nx cx, .slice Ay ny cy, .int .u64 s, .int .u64 t, .int .u8 m] w fun e w' => e = .returned (.bool true) ∧ Below w.heap.size w w' := by
  have HT := Lib.hid hT
  have HX := Lib.hid hx
  have HXL := Lib.hid hxl
  have HY := Lib.hid hy
  have HYL := Lib.hid hyl
  have HS := Lib.hid hs
  have HTT := Lib.hid ht
  have HP := Lib.hid hp
  have HQ := Lib.hid hq
  clear hT hx hxl hy hyl hs ht hp hq
  go_enter Tryd.func4, Tryd.ntmps4
  go_wp2_with (first
    | (go_at_call 10; refine (goes_any w2 (HT.out.low B2.out)).mono ?_; rintro e w3 ⟨rfl, hb3⟩; have B3 := Lib.hid (B2.out.trans (hb3.mono B2.out.size)); clear hb3)
    | (go_at_call 8; refine (put_some (HT.out.low B1.out) hk HTT.out ((HY.out.below B1.out).more B1.out.size) HYL.out q HQ.out).mono ?_; rintro e w2 ⟨v2, rfl, hb2⟩; have B2 := Lib.hid (B1.out.trans (hb2.mono B1.out.size)); clear hb2)
    | (go_at_call 8; refine (put_some HT.out hk HS.out HX.out HXL.out p HP.out).mono ?_; rintro e w1 ⟨v1, rfl, hb1⟩; have B1 := Lib.hid hb1; clear hb1)
    | fail)
  go_ret
  exact ⟨rfl, B3.out⟩

set_option maxRecDepth 20000 in
set_option maxHeartbeats 1000000 in
theorem torn_bad2 (a : Int) (k s t m nx cx ny cy : Nat) (Ax Ay : Option Addr) (x y : List UInt8) (w : World) (hT : Tab w) (hk : k < 256) (hs : s < 18446744073709551616) (ht : t < 18446744073709551616)
    (hx : Rd w w.heap.size Ax cx x) (hxl : x.length = nx) (hy : Rd w w.heap.size Ay cy y) (hyl : y.length = ny) (p q : Int) (hp : may a s nx = p) (hq : may a t ny = q) (i1 : p = 0) (i2 : ¬ q = 0) :
    Calls Tryd.prog 4 #[.int .i64 a, .int .u8 k, .slice Ax nx cx, .slice Ay ny cy, .int .u64 s, .int .u64 t, .int .u8 m] w fun e w' => e = .returned (.bool true) ∧ Below w.heap.size w w' := by
  have HT := Lib.hid hT
  have HX := Lib.hid hx
  have HXL := Lib.hid hxl
  have HY := Lib.hid hy
  have HYL := Lib.hid hyl
  have HS := Lib.hid hs
  have HTT := Lib.hid ht
  have HP := Lib.hid hp
  have HQ := Lib.hid hq
  clear hT hx hxl hy hyl hs ht hp hq
  go_enter Tryd.func4, Tryd.ntmps4
  go_wp2_with (first
    | (go_at_call 10; refine (goes_any w2 (HT.out.low B2.out)).mono ?_; rintro e w3 ⟨rfl, hb3⟩; have B3 := Lib.hid (B2.out.trans (hb3.mono B2.out.size)); clear hb3)
    | (go_at_call 8; refine (put_some (HT.out.low B1.out) hk HTT.out ((HY.out.below B1.out).more B1.out.size) HYL.out q HQ.out).mono ?_; rintro e w2 ⟨v2, rfl, hb2⟩; have B2 := Lib.hid (B1.out.trans (hb2.mono B1.out.size)); clear hb2)
    | (go_at_call 8; refine (put_some HT.out hk HS.out HX.out HXL.out p HP.out).mono ?_; rintro e w1 ⟨v1, rfl, hb1⟩; have B1 := Lib.hid hb1; clear hb1)
    | fail)
  go_ret
  exact ⟨rfl, B3.out⟩

set_option maxRecDepth 20000 in
set_option maxHeartbeats 1000000 in
theorem torn_bad3 (a : Int) (k s t m nx cx ny cy : Nat) (Ax Ay : Option Addr) (x y : List UInt8) (w : World) (hT : Tab w) (hk : k < 256) (hs : s < 18446744073709551616) (ht : t < 18446744073709551616)
    (hx : Rd w w.heap.size Ax cx x) (hxl : x.length = nx) (hy : Rd w w.heap.size Ay cy y) (hyl : y.length = ny) (p q : Int) (hp : may a s nx = p) (hq : may a t ny = q) (i1 : p = 0) (i2 : q = 0) (h : s = t) :
    Calls Tryd.prog 4 #[.int .i64 a, .int .u8 k, .slice Ax nx cx, .slice Ay ny cy, .int .u64 s, .int .u64 t, .int .u8 m] w fun e w' => e = .returned (.bool true) ∧ Below w.heap.size w w' := by
  subst h
  have HT := Lib.hid hT
  have HX := Lib.hid hx
  have HXL := Lib.hid hxl
  have HY := Lib.hid hy
  have HYL := Lib.hid hyl
  have HS := Lib.hid hs
  have HTT := Lib.hid ht
  have HP := Lib.hid hp
  have HQ := Lib.hid hq
  clear hT hx hxl hy hyl hs ht hp hq
  go_enter Tryd.func4, Tryd.ntmps4
  go_wp2_with (first
    | (go_at_call 10; refine (goes_any w2 (HT.out.low B2.out)).mono ?_; rintro e w3 ⟨rfl, hb3⟩; have B3 := Lib.hid (B2.out.trans (hb3.mono B2.out.size)); clear hb3)
    | (go_at_call 8; refine (put_some (HT.out.low B1.out) hk HTT.out ((HY.out.below B1.out).more B1.out.size) HYL.out q HQ.out).mono ?_; rintro e w2 ⟨v2, rfl, hb2⟩; have B2 := Lib.hid (B1.out.trans (hb2.mono B1.out.size)); clear hb2)
    | (go_at_call 8; refine (put_some HT.out hk HS.out HX.out HXL.out p HP.out).mono ?_; rintro e w1 ⟨v1, rfl, hb1⟩; have B1 := Lib.hid hb1; clear hb1)
    | fail)
  go_ret
  exact ⟨rfl, B3.out⟩

theorem frameTorn_walk (a0 a1 : Int) (A2 : Option Addr) (n2 c2 : Nat) (x : List UInt8) (hx : x.length = n2) (A3 : Option Addr) (n3 c3 : Nat) (y : List UInt8) (hy : y.length = n3) (a4 a5 a6 : Int) (w : World) (hw : Tab w) (w0 : (Lit.int .i64 a0).wf = true) (w1 : (Lit.int .u8 a1).wf = true) (w2 : Rd w w.heap.size A2 c2 x) (w3 : Rd w w.heap.size A3 c3 y) (w4 : (Lit.int .u64 a4).wf = true) (w5 : (Lit.int .u64 a5).wf = true) (w6 : (Lit.int .u8 a6).wf = true) :
    Calls Tryd.prog 4 #[.int .i64 a0, .int .u8 a1, .slice A2 n2 c2, .slice A3 n3 c3, .int .u64 a4, .int .u64 a5, .int .u8 a6] w fun e w' => e = .returned (.bool true) ∧ Below w.heap.size w w' := by
  have b1 := bounds_u8 w1
  have b4 := bounds_u64 w4
  have b5 := bounds_u64 w5
  have b6 := bounds_u8 w6
  obtain ⟨k, rfl⟩ := Int.eq_ofNat_of_zero_le b1.1
  obtain ⟨s, rfl⟩ := Int.eq_ofNat_of_zero_le b4.1
  obtain ⟨t, rfl⟩ := Int.eq_ofNat_of_zero_le b5.1
  obtain ⟨m, rfl⟩ := Int.eq_ofNat_of_zero_le b6.1
  by_cases h : ¬ may a0 s n2 = 0 ∨ ¬ may a0 t n3 = 0 ∨ s = t
  · by_cases h1 : may a0 s n2 = 0
    · by_cases h2 : may a0 t n3 = 0
      · exact torn_bad3 a0 k s t m n2 c2 n3 c3 A2 A3 x y w hw (by omega) (by omega) (by omega) w2 hx w3 hy _ _ rfl rfl h1 h2 (by omega)
      · exact torn_bad2 a0 k s t m n2 c2 n3 c3 A2 A3 x y w hw (by omega) (by omega) (by omega) w2 hx w3 hy _ _ rfl rfl h1 h2
    · exact torn_bad1 a0 k s t m n2 c2 n3 c3 A2 A3 x y w hw (by omega) (by omega) (by omega) w2 hx w3 hy _ _ rfl rfl h1
  · exact torn_main a0 k s t m n2 c2 n3 c3 A2 A3 x y w hw (by omega) (by omega) (by omega) (by omega) w2 hx w3 hy (by omega) (by omega) (by omega)
end Go.Proofs.YtmekdodkpimabaaDoor
