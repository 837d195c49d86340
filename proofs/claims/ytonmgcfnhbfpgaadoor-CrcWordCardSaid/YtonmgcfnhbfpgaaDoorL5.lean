import Derived.Test.YtonmgcfnhbfpgaaDoorL4
namespace Go.Proofs.YtonmgcfnhbfpgaaDoor
open Go.RowKit Mem

set_option maxHeartbeats 1000000 in
theorem crcWord_big (A : Option Addr) (n c : Nat) (a o : Int) (w : World) (hn : 4200 < n) (hmax : n ≤ 9223372036854775807) :
    Calls Tryd.prog 5 #[.slice A n c, .int .u16 a, .int .u32 o] w fun e w' => e = .returned (.bool true) ∧ Below w.heap.size w w' := by
  go_enter Tryd.func5, Tryd.ntmps5
  go_wp2_with fail
  go_ret
  exact ⟨rfl, Below.refl _ _⟩
set_option maxHeartbeats 1000000 in
theorem crcWord_small (A : Option Addr) (n c : Nat) (a o : Int) (w : World) (hw : Tab w) (hn : n < 4) :
    Calls Tryd.prog 5 #[.slice A n c, .int .u16 a, .int .u32 o] w fun e w' => e = .returned (.bool true) ∧ Below w.heap.size w w' := by
  have HW := Lib.hid hw
  clear hw
  go_enter Tryd.func5, Tryd.ntmps5
  go_wp2_with (go_at_call 10; refine (goes_any _ HW.out).mono ?_; rintro e w5 ⟨rfl, hb⟩)
  go_ret
  exact ⟨rfl, hb⟩

theorem crcWord_walk (A : Option Addr) (n c : Nat) (l : List UInt8) (hn : l.length = n) (a o : Int) (w : World) (hw : Tab w) (hl : Rd w w.heap.size A c l) (ha : (Lit.int .u16 a).wf = true) (ho : (Lit.int .u32 o).wf = true) :
    Calls Tryd.prog 5 #[.slice A n c, .int .u16 a, .int .u32 o] w fun e w' => e = .returned (.bool true) ∧ Below w.heap.size w w' := by
  subst hn
  have ba := bounds_u16 ha
  have bo := bounds_u32 ho
  obtain ⟨o, rfl⟩ := Int.eq_ofNat_of_zero_le bo.1
  by_cases hbig : 4200 < l.length
  · exact crcWord_big A _ c a o w hbig (by have := hl.1; have := hl.2.1; unfold maxLen at this; omega)
  by_cases hsmall : l.length < 4
  · exact crcWord_small A _ c a o w hw hsmall
  obtain ⟨b, off, rfl, _, _⟩ := hl.2.2.2 (by omega)
  obtain ⟨k, hk⟩ := Int.eq_ofNat_of_zero_le (Int.emod_nonneg a (show ((l.length : Int) - 3) ≠ 0 by omega))
  have hk2 := Int.emod_lt_of_pos a (show (0 : Int) < (l.length : Int) - 3 by omega)
  have hk4 : k + 4 ≤ l.length := by omega
  refine crcWord_mid b off c l k o a w hw hl (by omega) (by omega) (by omega) ba.1 (by omega) hk hk4 _ _ _ rfl rfl rfl ?_
  have hsp := split4 l k
  by_cases e : (l.drop k).take 4 = pl o
  · rw [← e, ← hsp]; simp
  · have hne := check_word (l.take k) ((l.drop k).take 4) (pl o) (l.drop (k + 4)) (by simp; omega) rfl e
    rw [← hsp] at hne
    rw [same_cast false _ _ (by simpa using hne), str_toList, str_toList]
    simp [e]
end Go.Proofs.YtonmgcfnhbfpgaaDoor
