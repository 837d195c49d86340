import Derived.Test.YtpnnakjffcohoaaDE
import Derived.Test.YtpnnakjffcohoaaDA
namespace Go.Proofs.Ytpnnakjffcohoaa
set_option linter.unusedVariables false
set_option linter.unusedSimpArgs false
open Go.RowKit Mem Go.ChangeMaps
variable {w : World} {db : Nat} {y : Lay} {d : Dsk}

/-- A byte out of a number. -/
def u8 (x : Int) : UInt8 := UInt8.ofNat x.toNat
theorem bv_u8 (x : Int) (h0 : 0 ≤ x) (h1 : x < 256) : bv (u8 x) = .int .u8 x := by
  unfold bv u8
  rw [UInt8.toNat_ofNat']
  congr 1
  omega

/-- The pages that the laws write: of one byte but for one sector. -/
def pageAt (b c : UInt8) (s : Nat) (i : Nat) : UInt8 := if i / 512 = s then c else b
def pageOf (b c : UInt8) (s : Nat) : List UInt8 := (List.range 4096).map (pageAt b c s)
def pageTo (b c : UInt8) (s k : Nat) : List UInt8 := (List.range 4096).map fun i => if i < k then pageAt b c s i else 0
theorem pageTo_len (b c : UInt8) (s k : Nat) : (pageTo b c s k).length = 4096 := by simp [pageTo]
theorem pageOf_len (b c : UInt8) (s : Nat) : (pageOf b c s).length = 4096 := by simp [pageOf]
theorem pageOf_at (b c : UInt8) (s i : Nat) (hi : i < 4096) : (pageOf b c s).getD i 0 = pageAt b c s i := by
  rw [List.getD_eq_getElem?_getD, pageOf, List.getElem?_map, List.getElem?_range hi]; rfl
theorem pageTo_zero (b c : UInt8) (s : Nat) : pageTo b c s 0 = zpage := by
  apply List.ext_getElem
  · rw [pageTo_len, zpage_len]
  · intro i h1 h2
    simp only [pageTo, zpage, List.getElem_map, List.getElem_replicate]
    exact if_neg (Nat.not_lt_zero _)
theorem pageTo_all (b c : UInt8) (s : Nat) : pageTo b c s 4096 = pageOf b c s := by
  apply List.ext_getElem
  · rw [pageTo_len, pageOf_len]
  · intro i h1 h2
    rw [pageTo_len] at h1
    simp [pageTo, pageOf, h1]
theorem pageTo_set (b c : UInt8) (s k : Nat) (hk : k < 4096) (x : UInt8) (hx : x = pageAt b c s k) : (pageTo b c s k).set k x = pageTo b c s (k + 1) := by
  apply List.ext_getElem
  · rw [List.length_set, pageTo_len, pageTo_len]
  · intro i h1 h2
    rw [pageTo_len] at h2
    rw [List.getElem_set]
    simp only [pageTo, List.getElem_map, List.getElem_range]
    by_cases e : k = i
    · subst e; rw [if_pos rfl, if_pos (by omega), hx]
    · rw [if_neg e]
      by_cases h3 : i < k
      · rw [if_pos h3, if_pos (by omega)]
      · rw [if_neg h3, if_neg (by omega)]

set_option maxRecDepth 20000 in
set_option maxHeartbeats 1000000 in
theorem page_any (b c s : Int) (hb0 : 0 ≤ b) (hb1 : b < 256) (hc0 : 0 ≤ c) (hc1 : c < 256) (hs0 : 0 ≤ s) (hs1 : s < 256) (w : World) :
    Calls Try.prog 27 #[.int .u8 b, .int .u8 c, .int .u8 s] w fun e w' => e = .returned (.slice (some ⟨w.heap.size, 0, none⟩) 4096 4096) ∧ w' = w.alloc (.cells (bcs (pageOf (u8 b) (u8 c) (s.toNat % 8))) 5) := by
  have hmp := makePage
  have hz := pageTo_zero (u8 b) (u8 c) (s.toNat % 8)
  have HB := Lib.hid (bv_u8 b hb0 hb1)
  have HC := Lib.hid (bv_u8 c hc0 hc1)
  have HZ := Lib.hid hz
  have hsm : s.tmod 8 = ((s.toNat % 8 : Nat) : Int) := by rw [Int.tmod_eq_emod_of_nonneg hs0]; omega
  obtain ⟨q, hq⟩ : ∃ q, q = s.toNat % 8 := ⟨_, rfl⟩
  rw [← hq] at hsm HZ ⊢
  clear hz hb0 hb1 hc0 hc1 hq
  go_enter Try.func27, Try.ntmps27
  go_wp2
  go_loopw [8] (fun v wr => ∃ k : Nat, k ≤ 4096 ∧ v = .int .i64 k ∧ wr = w.alloc (.cells (bcs (pageTo (u8 b) (u8 c) q k)) 5)) (fun v _ => 4096 - (intOf v).toNat)
  case atStart => exact ⟨0, Nat.zero_le _, rfl, by rw [HZ.out]⟩
  case round =>
    obtain ⟨k, hk, rfl, rfl⟩ := hrel
    by_cases hlt : k < 4096
    · have hdv : (k : Int).tdiv 512 = ((k / 512 : Nat) : Int) := by rw [Int.tdiv_eq_ediv_of_nonneg (by omega)]; omega
      have hlen : (pageTo (u8 b) (u8 c) q k).length = 4096 := pageTo_len _ _ _ _
      have hszb : (bcs (pageTo (u8 b) (u8 c) q k)).size = 4096 := by rw [size_bcs, hlen]
      have hat0 : (bcs (pageTo (u8 b) (u8 c) q k))[k]? = some (bv ((pageTo (u8 b) (u8 c) q k)[k]'(by omega))) := by
        rw [bcs_at, List.getElem?_eq_getElem (by omega)]; rfl
      by_cases hq : k / 512 = q
      · have HS := Lib.hid (show (bcs (pageTo (u8 b) (u8 c) q k)).setIfInBounds k (.int .u8 c) = bcs (pageTo (u8 b) (u8 c) q (k + 1)) by
          rw [← HC.out, bcs_set, pageTo_set _ _ _ _ hlt]
          rw [pageAt, if_pos hq])
        have hq' : ((k / 512 : Nat) : Int) = (q : Int) := by omega
        generalize bv ((pageTo (u8 b) (u8 c) q k)[k]'(by omega)) = v0 at hat0
        clear hq hlen
        go_wp2
        go_roundw
        case rel => exact ⟨k + 1, by omega, by go_num, by rw [HS.out]⟩
        case measure => simp [intOf]; omega
      · have HS := Lib.hid (show (bcs (pageTo (u8 b) (u8 c) q k)).setIfInBounds k (.int .u8 b) = bcs (pageTo (u8 b) (u8 c) q (k + 1)) by
          rw [← HB.out, bcs_set, pageTo_set _ _ _ _ hlt]
          rw [pageAt, if_neg hq])
        have hq' : ¬ ((k / 512 : Nat) : Int) = (q : Int) := by omega
        generalize bv ((pageTo (u8 b) (u8 c) q k)[k]'(by omega)) = v0 at hat0
        clear hq hlen
        go_wp2
        go_roundw
        case rel => exact ⟨k + 1, by omega, by go_num, by rw [HS.out]⟩
        case measure => simp [intOf]; omega
    · obtain rfl : k = 4096 := by omega
      go_wp2
      go_ret
      exact ⟨rfl, by rw [pageTo_all]⟩
end Go.Proofs.Ytpnnakjffcohoaa
