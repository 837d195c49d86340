import Derived.Test.YtlfkafcmdndlgaaDoorCiM
namespace Go.Proofs.YtlfkafcmdndlgaaDoor
open Go.RowKit Mem Ci

namespace Ci
theorem rdV_no {l : List UInt8} (h : readB l = false) : rdV l = .tuple #[.agg #[.int .i64 0, .int .i64 0, .int .i64 0], .int .i64 21] := by unfold rdV; rw [h]; rfl
theorem parse_no {l : List UInt8} (w : World) (hw : Lw w) (h : readB l = false) (hm : l.length ≤ 9223372036854775807) :
    Calls Tryd.prog 27 #[.string (st l)] w fun e w' => e = .returned (.tuple #[.agg #[.int .i64 0, .int .i64 0, .int .i64 0], .int .i64 21]) ∧ Below w.heap.size w w' := by
  have := parse_any l w hw hm
  rw [rdV_no h] at this; exact this
/-- A date's block. -/
structure DAt (w : World) (b : Nat) (y m d : Int) : Prop where
  c0 : w.cell? ⟨b, 0, none⟩ = some (.int .i64 y)
  c1 : w.cell? ⟨b, 1, none⟩ = some (.int .i64 m)
  c2 : w.cell? ⟨b, 2, none⟩ = some (.int .i64 d)
theorem DAt.lt {w : World} {b : Nat} {y m d : Int} (h : DAt w b y m d) : b < w.heap.size := World.block_lt_of_cell? _ _ h.c0
theorem DAt.below {w w' : World} {b : Nat} {y m d : Int} (h : DAt w b y m d) (hb : Below w.heap.size w w') : DAt w' b y m d :=
  ⟨((bcell hb).1 _ _ h.lt).trans h.c0, ((bcell hb).1 _ _ h.lt).trans h.c1, ((bcell hb).1 _ _ h.lt).trans h.c2⟩
theorem DAt.new (w : World) (y m d : Int) : DAt (w.alloc (.cells #[.int .i64 y, .int .i64 m, .int .i64 d] 23)) w.heap.size y m d := ⟨by simp, by simp, by simp⟩
theorem DAt.alloc {w : World} {b : Nat} {y m d : Int} (h : DAt w b y m d) (o : Obj) : DAt (w.alloc o) b y m d := ⟨old_cell h.lt h.c0, old_cell h.lt h.c1, old_cell h.lt h.c2⟩
end Ci

set_option maxHeartbeats 2000000 in
theorem civilTexts_walk (s : ByteArray) (w : World) (hw : Lw w) (hs : s.size ≤ maxLen) :
    Calls Tryd.prog 8 #[.string s] w fun e w' => e = .returned (.bool true) ∧ Below w.heap.size w w' := by
  have HL := Lib.hid (fun W (h : Below w.heap.size w W) => hw.below h (Nat.le_refl _))
  have hss := hw.size; clear hw
  obtain ⟨l, hl⟩ : ∃ l, s.data.toList = l := ⟨_, rfl⟩
  obtain rfl : s = st l := by rw [← hl, st_data]
  have hlen : l.length ≤ maxLen := by rw [st_size] at hs; exact hs
  clear hl hs
  cases hr : readB l with
  | true =>
    obtain ⟨hv, ht⟩ := (read_iff l).1 hr
    obtain ⟨y, hy⟩ : ∃ y, yOf l = y := ⟨_, rfl⟩
    obtain ⟨m, hm⟩ : ∃ m, mOf l = m := ⟨_, rfl⟩
    obtain ⟨d, hd⟩ : ∃ d, dOf l = d := ⟨_, rfl⟩
    rw [hy, hm, hd] at hv ht
    clear hy hm hd hr hlen
    subst ht
    have H := Lib.hid hv; clear hv
    have hsz : (st (txt y m d)).size = 10 := by rw [st_size, txt_length]
    go_enter Tryd.func8, Tryd.ntmps8
    go_wp2_with fail
    refine (parse_txt _ (HL.out _ (Below.refl _ _)) H.out).mono ?_
    rintro e w1 ⟨rfl, hb1⟩
    have B1 := Lib.hid (hb1.alloc hb1.size (.cells #[.int .i64 y, .int .i64 m, .int .i64 d] 23))
    have z1 : 1 < w1.heap.size := by have := hb1.size; omega
    clear hb1
    go_wp2_with fail
    refine (valid_yes _ (HL.out _ B1.out).lens (by simp) H.out).mono ?_
    rintro e w2 ⟨rfl, hb2⟩
    have B2 := Lib.hid (B1.out.trans (hb2.mono B1.out.size))
    have D2 := (DAt.new w1 y m d).below hb2
    obtain ⟨d0, d1, d2⟩ := D2
    clear hb2
    go_wp2_with fail
    refine (text_yes _ (HL.out _ B2.out) H.out).mono ?_
    rintro e w3 ⟨rfl, hb3⟩
    have B3 := Lib.hid (B2.out.trans (hb3.mono B2.out.size))
    clear hb3 d0 d1 d2
    go_wp2_with fail
    refine (goes_any _ (HL.out _ B3.out)).mono ?_
    rintro e w4 ⟨rfl, hb4⟩
    have B4 := Lib.hid (B3.out.trans (hb4.mono B3.out.size))
    clear hb4
    go_wp2_with fail
    go_ret
    exact ⟨rfl, B4.out⟩
  | false =>
    have C := Lib.hid (parse_no w (HL.out _ (Below.refl _ _)) hr (by unfold maxLen at hlen; omega))
    clear hr hlen
    go_enter Tryd.func8, Tryd.ntmps8
    go_wp2_with fail
    refine C.out.mono ?_
    rintro e w1 ⟨rfl, hb1⟩
    have B1 := Lib.hid (hb1.alloc hb1.size (.cells #[.int .i64 0, .int .i64 0, .int .i64 0] 23))
    clear hb1
    go_wp2_with fail
    refine (goes_any _ (HL.out _ B1.out)).mono ?_
    rintro e w4 ⟨rfl, hb4⟩
    have B4 := Lib.hid (B1.out.trans (hb4.mono B1.out.size))
    clear hb4
    go_wp2_with fail
    go_ret
    exact ⟨rfl, B4.out⟩
end Go.Proofs.YtlfkafcmdndlgaaDoor
