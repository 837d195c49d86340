import Derived.Test.YtbiofjddclbncaaSs1
import Derived.BigRegion
namespace Go.Proofs.Ytbiofjddclbncaa.Sr
set_option linter.unusedVariables false
set_option linter.unusedSimpArgs false
open Go.RowKit Mem Mo
set_option maxHeartbeats 400000 in
theorem bitsMul_any (n : Nat) (hn : n ≤ 1000) (w : World) : Calls Try.prog 30 #[.int .u64 1, .int .u64 (n : Int)] w fun e w' => e = .returned (.tuple #[.int .u64 0, .int .u64 (n : Int)]) ∧ w' = w := by
  have C := mul64_any 1 n w (by omega) (by omega) (by omega) (by omega)
  rw [show (1 : Int) * n / 18446744073709551616 = 0 by omega, show (1 : Int) * n % 18446744073709551616 = n by omega] at C
  have HC := Lib.hid C
  clear C hn
  go_enter Try.func30, Try.ntmps30
  go_wp2_with fail
  refine HC.out.mono ?_
  rintro e w1 ⟨rfl, rfl⟩
  go_wp2_with fail
  go_ret2
  exact ⟨rfl, rfl⟩
/-- The first k of n cells hold v, the others 0. -/
def rpc (v : Int) (k n : Nat) : List Value := List.replicate k (.int .i64 v) ++ List.replicate (n - k) (.int .i64 0)
theorem rpc_len (v : Int) {k n : Nat} (h : k ≤ n) : (rpc v k n).length = n := by simp [rpc]; omega
theorem rpc_next (v : Int) {k n m : Nat} (h : k + m ≤ n) : (rpc v k n).take k ++ List.replicate m (.int .i64 v) ++ (rpc v k n).drop (k + m) = rpc v (k + m) n := by
  unfold rpc
  rw [List.take_append_of_le_length (by simp), List.take_of_length_le (by simp), List.replicate_append_replicate, List.drop_append, List.drop_eq_nil_of_le (by simp), List.nil_append, List.length_replicate, List.drop_replicate]
  congr 2; omega
theorem copy_any (v : Int) (W : World) (ty : TypeId) (g k n c dc m : Nat) (A : Addr) (sl sc : Nat) (hk : k ≤ n) (hg : W.heap[g]? = some (.cells (rpc v k n).toArray 2 (0, 0))) (hm : m = min sl (n - k)) (hs : ∀ j, j < m → W.cell? (A.add j) = some (.int .i64 v)) :
    (Builtin.copy_ #[22, 22] ty #[.slice (some ⟨g, k, none⟩) (n - k) dc, .slice (some A) sl sc]).run Try.prog W = .ok (.int .i64 (m : Int)) (W.setRow g (rpc v (k + m) n).toArray) := by
  have hle : k + m ≤ n := by omega
  have h := run_copy_row (P := Try.prog) W 22 22 ty 2 g k (n - k) dc A sl sc (rpc v k n).toArray 2 (List.replicate m (.int .i64 v)) Try.underlying22 (by
    obtain ⟨i, hi, _, hs, _⟩ := ityL.info
    rw [hi]; simp [hs]) hg (by rw [List.length_replicate]; exact hm)
    (fun j u hu => by
      have hj : j < m := by
        rcases Nat.lt_or_ge j m with h | h
        · exact h
        · rw [List.getElem?_eq_none (by simpa using h)] at hu; cases hu
      rw [List.getElem?_replicate, if_pos hj] at hu
      cases hu
      exact hs j hj)
    (by rw [List.length_replicate, List.size_toArray, rpc_len v hk]; exact hle) (fun u hu => by rw [List.eq_of_mem_replicate hu]; rfl)
  rw [List.length_replicate] at h
  rw [h]
  have : (rpc v k n).toArray.toList.take k ++ List.replicate m (.int .i64 v) ++ (rpc v k n).toArray.toList.drop (k + m) = rpc v (k + m) n := rpc_next v hle
  rw [this]
  rfl
theorem rpc_at (v : Int) {k n j : Nat} (h : j < k) : (rpc v k n)[j]? = some (.int .i64 v) := by
  unfold rpc; rw [List.getElem?_append_left (by simpa using h), List.getElem?_replicate, if_pos h]

set_option maxHeartbeats 1000000 in
theorem repeat_any (b o c n : Nat) (v : Int) (w : World) (hb : b < w.heap.size) (hv : w.cell? ⟨b, o, none⟩ = some (.int .i64 v)) (h0 : 1 ≤ n) (hn : n ≤ 100) :
    Calls Try.prog 17 #[.slice (some ⟨b, o, none⟩) 1 c, .int .i64 (n : Int)] w fun e w' => e = .returned (.slice (some ⟨w.heap.size, 0, none⟩) n n) ∧ w.heap.size < w'.heap.size ∧ (∀ k, k < n → w'.cell? ⟨w.heap.size, k, none⟩ = some (.int .i64 v)) ∧ Below w.heap.size w w' := by
  have C := Lib.hid (fun W => bitsMul_any n (by omega) W)
  have hmk := make_any ityL n (by omega)
  have K1 := Lib.hid (show IntKind.u64.wrap (n : Int) = (n : Int) from u64i (by omega))
  have K2 := Lib.hid (show wrap64 (n : Int) = (n : Int) from wr64 rfl (by omega))
  have z1 : ((n : Int) < 0) = False := eq_false (by omega)
  have z2 : (9223372036854775807 < (n : Int)) = False := eq_false (by omega)
  have HV := Lib.hid hv
  have HN := Lib.hid (And.intro h0 hn)
  have HBB := Lib.hid hb
  clear hv h0 hn hb
  have k1 := K1.out
  have k2 := K2.out
  go_enter Try.func17, Try.ntmps17
  go_wp2_with fail
  refine (C.out _).mono ?_
  rintro e w1 ⟨rfl, rfl⟩
  have hC1 : (Builtin.copy_ #[22, 22] 3 #[.slice (some ⟨w1.heap.size, 0, none⟩) n n, .slice (some ⟨b, o, none⟩) 1 c]).run Try.prog (w1.alloc (.cells (Array.replicate n (.int .i64 0)) 2)) = .ok (.int .i64 ((1 : Nat) : Int)) ((w1.alloc (.cells (Array.replicate n (.int .i64 0)) 2)).setRow w1.heap.size (rpc v (0 + 1) n).toArray) := by
    refine copy_any v (w1.alloc (.cells (Array.replicate n (.int .i64 0)) 2)) 3 w1.heap.size 0 n n n 1 ⟨b, o, none⟩ 1 c (Nat.zero_le _) ?_ (by have := HN.out; omega) (fun j hj => ?_)
    · rw [heap_alloc_new]; simp [rpc]
    · obtain rfl : j = 0 := by omega
      rw [show (⟨b, o, none⟩ : Addr).add 0 = ⟨b, o, none⟩ from rfl]
      exact (((Below.refl w1.heap.size w1).alloc (Nat.le_refl _) _).cell (p := ⟨b, o, none⟩) HBB.out).trans HV.out
  have HC1 := hC1
  clear hC1
  rw [show ((1 : Nat) : Int) = 1 from rfl, Nat.zero_add] at HC1
  go_wp2_with fail
  have hB0 : Below w1.heap.size w1 ((w1.alloc (.cells (Array.replicate n (.int .i64 0)) 2)).setRow w1.heap.size (rpc v 1 n).toArray) := below_setRow ((Below.refl _ _).alloc (Nat.le_refl _) _) (Nat.le_refl _) _
  have hG0 : ((w1.alloc (.cells (Array.replicate n (.int .i64 0)) 2)).setRow w1.heap.size (rpc v 1 n).toArray).heap[w1.heap.size]? = some (.cells (rpc v 1 n).toArray 2 (0, 0)) := setRow_heap _ _ _ _ _ _ (heap_alloc_new w1 _)
  obtain ⟨W0, hW0⟩ : ∃ W0, (w1.alloc (.cells (Array.replicate n (.int .i64 0)) 2)).setRow w1.heap.size (rpc v 1 n).toArray = W0 := ⟨_, rfl⟩
  rw [hW0] at hB0 hG0 ⊢
  have HB0 := Lib.hid hB0
  have HG0 := Lib.hid hG0
  clear hW0 hB0 hG0 HC1 hmk
  obtain ⟨g, hg⟩ := named w1.heap.size
  have HG := Lib.hid hg
  rw [hg] at HG0 ⊢
  clear hg
  rw [k2]
  clear k1 k2 z1 z2
  go_loopw [8] (fun u wr => ∃ k : Nat, u = .int .i64 k ∧ Hid (1 ≤ k ∧ k ≤ n) ∧ Hid (wr.heap[g]? = some (.cells (rpc v k n).toArray 2 (0, 0))) ∧ Hid (Below w1.heap.size w1 wr)) (fun u _ => n - (intOf u).toNat)
  · exact ⟨1, rfl, Lib.hid ⟨Nat.le_refl _, HN.out.1⟩, HG0, HB0⟩
  · clear HG0 HB0
    obtain ⟨k, rfl, HK, HR, HB⟩ := hrel
    by_cases hkn : k < n
    · have z1 := lt_t hkn
      obtain ⟨m, hm⟩ := named (min k (n - k))
      have hc := copy_any v wr.drew 3 g k n n (n - k) m ⟨g, 0, none⟩ k n HK.out.2 HR.out hm.symm (fun j hj => by
        rw [show (⟨g, 0, none⟩ : Addr).add j = ⟨g, 0 + j, none⟩ by unfold Addr.add; split <;> simp_all, Nat.zero_add]
        have : wr.cell? ⟨g, j, none⟩ = some (.int .i64 v) := by
          rw [cell_of_row _ _ _ _ _ _ HR.out]
          simpa using rpc_at v (n := n) (j := j) (by omega)
        exact this)
      have hk := HK.out
      have hn := HN.out
      have i1 : (k : Int) ≤ (n : Int) := by omega
      have i2 : (0 : Int) ≤ (k : Int) := by omega
      have i3 : k ≤ n := by omega
      go_wp2_with fail
      go_region
      all_goals
        go_wp2_with fail
        go_roundw
        case rel => exact ⟨k + m, by go_num, Lib.hid (by omega), Lib.hid (setRow_heap _ _ _ _ _ _ HR.out), Lib.hid (below_setRow (show Below w1.heap.size w1 wr.drew from ⟨HB.out.os, HB.out.tape, HB.out.output, HB.out.size, HB.out.block⟩) (by have := HG.out; omega) _)⟩
        case measure => simp [intOf]; omega
    · have hk := HK.out
      obtain rfl : k = n := by omega
      have z1 := lt_f (Nat.le_refl k)
      clear hkn hk
      go_wp2_with fail
      go_ret
      have hr := HR.out
      have hl : g < wr.heap.size := by
        rcases Nat.lt_or_ge g wr.heap.size with h | h
        · exact h
        · rw [Array.getElem?_eq_none h] at hr; cases hr
      rw [HG.out]
      exact ⟨rfl, hl, fun j hj => by rw [cell_of_row _ _ _ _ _ _ hr]; simpa using rpc_at v (n := k) (j := j) hj, by rw [← HG.out]; exact HB.out⟩
end Go.Proofs.Ytbiofjddclbncaa.Sr
