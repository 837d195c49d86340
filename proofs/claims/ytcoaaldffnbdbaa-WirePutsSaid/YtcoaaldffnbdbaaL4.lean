import Derived.Test.YtcoaaldffnbdbaaL3
namespace Go.Proofs.Ytcoaaldffnbdbaa
open Go.RowKit Mem

theorem bytes_len (s : St) (n : Nat) : (s.bytes n).length + (s.after n).l.length ≤ s.l.length := by
  unfold St.bytes St.after
  split
  · simp
  · split
    · simp
    · simp; omega
theorem text_len (s : St) : s.text.length + s.textAfter.l.length ≤ s.l.length := by
  have h1 := bytes_len (s.after 4) (s.num 4)
  have h2 := after_le s 4
  unfold St.text St.textAfter
  omega

set_option maxHeartbeats 2000000 in
theorem wireBounds_walk (A : Option Addr) (n c : Nat) (l : List UInt8) (hl : l.length = n) (w : World) (hr : Rd w w.heap.size A c l) :
    Calls Try.prog 7 #[.slice A n c] w fun e w' => e = .returned (.bool true) ∧ Below w.heap.size w w' := by
  subst hl
  by_cases hbig : 2000 < l.length
  · have hbig' : (2000 : Int) < (l.length : Int) := by omega
    go_enter Try.func7, Try.ntmps7
    go_wp2
    go_ret
    exact ⟨rfl, Below.refl _ _⟩
  · have hsmall : (l.length : Int) ≤ 2000 := by omega
    have hsm : l.length ≤ 2000 := by omega
    have HR := Lib.hid hr
    clear hr hbig
    go_enter Try.func7, Try.ntmps7
    go_wp2_with (go_at_call 17; refine (New_any _ _ _ _ _ HR.out rfl (by omega)).mono ?_; rintro e w1 ⟨g, rfl, hg, hs, hb⟩; have HG := Lib.hid hg; have HS := Lib.hid hs; have HB := Lib.hid hb; clear hg hs hb)
    go_loopw [5, 4] (fun i m wr => ∃ (k : Nat) (a : Nat) (s : St), k ≤ l.length + 2 ∧ i = .int .i64 k ∧ m = .int .i64 a ∧ a + s.l.length ≤ l.length ∧ RdrS wr g s ∧ Below w.heap.size w wr) (fun i _ _ => l.length + 2 - (intOf i).toNat)
    case atStart => exact ⟨0, 0, ⟨l, false⟩, by omega, rfl, rfl, by simp, HS.out, HB.out⟩
    case round =>
      obtain ⟨k, a, s, hk, rfl, rfl, ha, hs, hb⟩ := hrel
      have HSk := Lib.hid hs
      have HBk := Lib.hid hb
      have hlen := text_len s
      have hal : a ≤ 2000 := by omega
      clear hs hb
      by_cases hlt : k < l.length + 2
      · go_wp2_with (go_at_call 26; refine (RText_any g s _ HSk.out (by omega)).mono ?_; rintro e w2 ⟨v2, rfl, hown, hl2⟩; obtain ⟨A2, c2, rfl, _, _, _⟩ := hown.form; have HL2 := Lib.hid hl2; clear hown hl2)
        go_roundw
        case rel => exact ⟨k + 1, a + s.text.length, s.textAfter, by omega, by go_num, by go_num, by omega, HL2.out.1, HBk.out.trans (HL2.out.below HG.out HBk.out.size)⟩
        case measure => simp [intOf]; omega
      · go_wp2_with (go_at_call 16; refine (goes_any _).mono ?_; rintro e wC ⟨rfl, hbC⟩; have HbC := Lib.hid hbC; clear hbC)
        go_ret
        exact ⟨rfl, HBk.out.trans (HbC.out.mono HBk.out.size)⟩
end Go.Proofs.Ytcoaaldffnbdbaa
