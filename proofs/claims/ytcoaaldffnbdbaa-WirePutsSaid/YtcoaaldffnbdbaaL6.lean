import Derived.Test.YtcoaaldffnbdbaaL5
namespace Go.Proofs.Ytcoaaldffnbdbaa
open Go.RowKit Mem

theorem num_bad (l : List UInt8) (n : Nat) : (⟨l, true⟩ : St).num n = 0 := by simp [St.num]
theorem after_bad (l : List UInt8) (n : Nat) : (⟨l, true⟩ : St).after n = ⟨l, true⟩ := by simp [St.after]
theorem text_bad (l : List UInt8) : (⟨l, true⟩ : St).text = [] := by simp [St.text, after_bad, St.bytes]
theorem textAfter_bad (l : List UInt8) : (⟨l, true⟩ : St).textAfter = ⟨l, true⟩ := by simp [St.textAfter, after_bad]
theorem count_bad (l : List UInt8) (m : Int) : (⟨l, true⟩ : St).count m = 0 := by simp [St.count, num_bad]
theorem countAfter_bad (l : List UInt8) (m : Int) : (⟨l, true⟩ : St).countAfter m = ⟨l, true⟩ := by simp [St.countAfter, after_bad]
theorem done_bad (l : List UInt8) : (⟨l, true⟩ : St).done = 21 := by simp [St.done]

theorem RBad_any (g : Nat) (s : St) (w : World) (h : RdrS w g s) : Calls Try.prog 22 #[.pointer (some ⟨g, 0, none⟩)] w fun e w' => e = .returned (.tuple #[]) ∧ Left w w' g ⟨s.l, true⟩ := by
  obtain ⟨_, _, _, h1, _, f1, _, _, _⟩ := Rdr.parts h
  refine (Bad_any g w ⟨_, h1⟩ f1).mono ?_
  rintro e w' ⟨rfl, rfl⟩
  exact ⟨rfl, h.set1 true, only_set g 1 _⟩
theorem RByte_bad (g : Nat) (l : List UInt8) (w : World) (h : RdrS w g ⟨l, true⟩) : Calls Try.prog 23 #[.pointer (some ⟨g, 0, none⟩)] w fun e w' => e = .returned (.int .u8 0) ∧ Left w w' g ⟨l, true⟩ := by
  have := RByte_any g _ w h; rwa [num_bad, after_bad] at this
theorem RUint_bad (g : Nat) (l : List UInt8) (w : World) (h : RdrS w g ⟨l, true⟩) : Calls Try.prog 24 #[.pointer (some ⟨g, 0, none⟩)] w fun e w' => e = .returned (.int .u64 0) ∧ Left w w' g ⟨l, true⟩ := by
  have := RUint_any g _ w h; rwa [num_bad, after_bad] at this
theorem RInt_bad (g : Nat) (l : List UInt8) (w : World) (h : RdrS w g ⟨l, true⟩) : Calls Try.prog 25 #[.pointer (some ⟨g, 0, none⟩)] w fun e w' => e = .returned (.int .i64 0) ∧ Left w w' g ⟨l, true⟩ := by
  have := RInt_any g _ w h; rw [num_bad, after_bad, show wrap64 ((0 : Nat) : Int) = 0 by simp [wrap64]] at this; exact this
theorem RText_bad (g : Nat) (l : List UInt8) (w : World) (h : RdrS w g ⟨l, true⟩) (hl : l.length ≤ 140737488355328) : Calls Try.prog 26 #[.pointer (some ⟨g, 0, none⟩)] w fun e w' => ∃ A c, e = .returned (.slice A 0 c) ∧ Left w w' g ⟨l, true⟩ := by
  have := RText_any g _ w h hl
  rw [text_bad, textAfter_bad] at this
  refine this.mono ?_
  rintro e w' ⟨v, rfl, hown, hl⟩
  obtain ⟨A, c, rfl, _⟩ := hown.form
  exact ⟨A, c, rfl, hl⟩
theorem RCount_bad (g : Nat) (l : List UInt8) (w : World) (m : Int) (h : RdrS w g ⟨l, true⟩) (h0 : -9223372036854775808 ≤ m) (h1 : m ≤ 9223372036854775807) : Calls Try.prog 27 #[.pointer (some ⟨g, 0, none⟩), .int .i64 m] w fun e w' => e = .returned (.int .i64 0) ∧ Left w w' g ⟨l, true⟩ := by
  have := RCount_any g _ w m h h0 h1; rwa [count_bad, countAfter_bad] at this
theorem RDone_bad (g : Nat) (l : List UInt8) (w : World) (h : RdrS w g ⟨l, true⟩) : Calls Try.prog 19 #[.pointer (some ⟨g, 0, none⟩)] w fun e w' => e = .returned (.int .i64 21) ∧ w = w' := by
  have := RDone_any g _ w h; rwa [done_bad] at this

set_option maxHeartbeats 2000000 in
theorem wireSpoilt_walk (A : Option Addr) (n c : Nat) (l : List UInt8) (hl : l.length = n) (A1 : Option Addr) (n1 c1 : Nat) (f : Nat → Nat → Value) (w : World) (hr : Rd w w.heap.size A c l) {fs : Array Field} (hu : Try.prog.underlying 40 = some (.struct fs)) (hf : Structs Try.prog w w.heap.size fs A1 n1 c1 f) :
    Calls Try.prog 6 #[.slice A n c, .slice A1 n1 c1] w fun e w' => e = .returned (.bool true) ∧ Below w.heap.size w w' := by
  obtain ⟨ts, rfl, ht⟩ := takes_of hu hf
  clear hu hf
  subst hl
  have ht0 := ht.1
  have ht1 := ht.2.1
  unfold maxLen at ht1
  by_cases hbig : 1000 < l.length
  · have hbig' : (1000 : Int) < (l.length : Int) := by omega
    have hb2 : decide ((1000 : Int) < (l.length : Int)) = true := by simpa using hbig'
    clear ht
    go_enter Try.func6, Try.ntmps6
    go_wp2
    go_ret
    exact ⟨rfl, Below.refl _ _⟩
  · by_cases hbig2 : 100 < ts.length
    · have hsmall : (l.length : Int) ≤ 1000 := by omega
      have hbig' : (100 : Int) < (ts.length : Int) := by omega
      clear ht hbig
      go_enter Try.func6, Try.ntmps6
      go_wp2
      go_ret
      exact ⟨rfl, Below.refl _ _⟩
    · have hsmall : (l.length : Int) ≤ 1000 := by omega
      have hsmall2 : (ts.length : Int) ≤ 100 := by omega
      have hsm : l.length ≤ 1000 := by omega
      have HR := Lib.hid hr
      have HT := Lib.hid ht
      clear hr ht hbig hbig2
      go_enter Try.func6, Try.ntmps6
      go_wp2_with (first
        | (go_at_call 17; refine (New_any _ _ _ _ _ HR.out rfl (by omega)).mono ?_; rintro e w1 ⟨g, rfl, hg, hs, hb⟩; have HG := Lib.hid hg; have HS := Lib.hid hs; have HB := Lib.hid hb; clear hg hs hb)
        | (go_at_call 22; refine (RBad_any g _ _ HS.out).mono ?_; rintro e w2 ⟨rfl, hl⟩; have HS2 := Lib.hid hl.1; have HB2 := Lib.hid (HB.out.trans (hl.below HG.out HB.out.size)); clear hl))
      go_loopw [6] (fun i wr => ∃ (k : Nat), k ≤ ts.length ∧ i = .int .i64 k ∧ RdrS wr g ⟨l, true⟩ ∧ Below w.heap.size w wr) (fun i _ => ts.length - (intOf i).toNat)
      case atStart => exact ⟨0, by omega, rfl, HS2.out, HB2.out⟩
      case round =>
        obtain ⟨k, hk, rfl, hs, hb⟩ := hrel
        have HSk := Lib.hid hs
        have HBk := Lib.hid hb
        clear hs hb
        by_cases hlt : k < ts.length
        · obtain ⟨b, o, rfl, hbo, hc⟩ := HT.out.2.2 (by omega)
          obtain ⟨_, c2, _, _, b1, b2⟩ := hc k hlt
          have HC2 := Lib.hid c2
          clear hc c2
          go_wp2_with fail
          refine (RByte_bad g l _ HSk.out).mono ?_
          rintro e wa ⟨rfl, hl⟩
          have HSa := Lib.hid hl.1; have HBa := Lib.hid (HBk.out.trans (hl.below HG.out HBk.out.size)); clear hl
          go_wp2_with fail
          refine (RUint_bad g l _ HSa.out).mono ?_
          rintro e wb ⟨rfl, hl⟩
          have HSb := Lib.hid hl.1; have HBb := Lib.hid (HBa.out.trans (hl.below HG.out HBa.out.size)); clear hl
          go_wp2_with fail
          refine (RInt_bad g l _ HSb.out).mono ?_
          rintro e wc ⟨rfl, hl⟩
          have HSc := Lib.hid hl.1; have HBc := Lib.hid (HBb.out.trans (hl.below HG.out HBb.out.size)); clear hl
          go_wp2_with fail
          refine (RText_bad g l _ HSc.out (by omega)).mono ?_
          rintro e wd ⟨Ad, cd, rfl, hl⟩
          have HSd := Lib.hid hl.1; have HBd := Lib.hid (HBc.out.trans (hl.below HG.out HBc.out.size)); clear hl
          have hcell := (HBd.out.cell (p := ⟨b, o + k * 2 + 1, none⟩) hbo).trans HC2.out
          go_wp2_with fail
          refine (RCount_bad g l _ _ HSd.out b1 b2).mono ?_
          rintro e we ⟨rfl, hl⟩
          clear hcell
          have HSe := Lib.hid hl.1; have HBe := Lib.hid (HBd.out.trans (hl.below HG.out HBd.out.size)); clear hl
          go_wp2_with fail
          refine (RDone_bad g l _ HSe.out).mono ?_
          rintro e wf ⟨rfl, rfl⟩
          go_wp2_with fail
          go_roundw
          case rel => exact ⟨k + 1, by omega, by go_num, HSe.out, HBe.out⟩
          case measure => simp [intOf]; omega
        · go_wp2_with (first | (go_at_call 19; refine (RDone_bad g l _ HSk.out).mono ?_; rintro e wf ⟨rfl, rfl⟩) | (go_at_call 16; refine (goes_any _).mono ?_; rintro e wC ⟨rfl, hbC⟩; have HbC := Lib.hid hbC; clear hbC))
          go_ret
          exact ⟨rfl, HBk.out.trans (HbC.out.mono HBk.out.size)⟩
end Go.Proofs.Ytcoaaldffnbdbaa
