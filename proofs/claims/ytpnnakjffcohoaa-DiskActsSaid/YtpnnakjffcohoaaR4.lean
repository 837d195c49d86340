import Derived.Test.YtpnnakjffcohoaaR3
import Derived.Deep.RegionLaw
import Derived.Test.YtpnnakjffcohoaaDA
namespace Go.Proofs.Ytpnnakjffcohoaa
set_option linter.unusedVariables false
set_option linter.unusedSimpArgs false
open Go.RowKit Mem Go.ChangeMaps
variable {w : World} {rb : Nat} {lv sv : Value} {r : Rfd}

theorem zeros_any (w : World) : Calls Try.prog 29 #[] w fun e w' => e = .returned (.string (str zpage)) ∧ w' = w.alloc (.cells (bcs zpage) 5) := by
  have hmp := makePage
  have hc := run_str_own (w.alloc (.cells (bcs zpage) 5)) (zpage_len ▸ own_row (w := w.alloc (.cells (bcs zpage) 5)) w.heap.size zpage 0 (Nat.zero_le _) zpage_max (heap_alloc_new w _) : Own 5 (w.alloc (.cells (bcs zpage) 5)) 0 (.slice (some ⟨w.heap.size, 0, none⟩) 4096 4096) zpage)
  go_enter Try.func29, Try.ntmps29
  go_wp2
  go_ret
  exact ⟨rfl, rfl⟩

theorem st_info : (Try.prog.info? 9).map (fun i => (i.zero, i.size, i.bytes)) = some (some (.string ByteArray.empty), 1, 16) := by kernel_rfl

/-- A new one. -/
def newR (n : Nat) : Rfd := ⟨n, fun _ => zpage, [], -1, false⟩
/-- As it is built. -/
structure Bld (W w : World) (lv : Value) (k : Nat) : Prop where
  row : w.rowIs W.heap.size 40 4 (rcells lv (.slice none 0 0) (newR 0))
  own : w.ownsRow 0 9 1 lv k ((List.range k).map fun _ => .string (str zpage))
  bel : Below W.heap.size W w
  low : ∀ j, lv.ownBlock = some j → W.heap.size < j

set_option maxHeartbeats 1000000 in
theorem rnew_any (n : Nat) (w : World) (h1 : 1 ≤ n) (h2 : n ≤ 4096) :
    Calls Try.prog 12 #[.int .i64 n] w fun e w' => e = .returned (ptr w.heap.size) ∧ ∃ lv, IsR w' w.heap.size lv (.slice none 0 0) (newR n) ∧ Below w.heap.size w w' ∧ ∀ k, rfoot w.heap.size lv (.slice none 0 0) k → w.heap.size ≤ k := by
  obtain ⟨i0, hi, hz0, hz1, hz2⟩ := info_parts st_info
  have HN := Lib.hid (And.intro h1 h2)
  have B0 := Lib.hid (show Bld w (w.alloc (.cells #[.slice none 0 0, .slice none 0 0, .int .i64 (-1), .bool false] 40)) (.slice none 0 0) 0 from
    ⟨World.rowIs_alloc w _ 40 _ (fun i hi => by match i, hi with | 0, _ | 1, _ | 2, _ | 3, _ => rfl), World.ownsRow_nil _ _ _ _, (Below.refl _ _).alloc (Nat.le_refl _) _, fun j e => by cases e⟩)
  clear h1
  go_enter Try.func12, Try.ntmps12
  go_wp2
  go_loopw [4] (fun v wr => ∃ k : Nat, k ≤ n ∧ v = .int .i64 k ∧ Hid (∃ lv, Bld w wr lv k)) (fun v _ => n - (intOf v).toNat)
  case atStart => exact ⟨0, Nat.zero_le _, rfl, _, B0.out⟩
  case round =>
    obtain ⟨k, hk, rfl, hX⟩ := hrel
    obtain ⟨lv, hb⟩ := hX.out
    have HB := Lib.hid hb
    clear hX hb B0
    by_cases hlt : k < n
    · obtain ⟨A, c, rfl⟩ := owns_form HB.out.own
      have hz := zeros_any wr.drew
      obtain ⟨W2, hW2⟩ : ∃ W2, W2 = ((wr.alloc (.cells (bcs zpage) 5)).alloc (.cells #[.string (str zpage)] 9)).drew := ⟨_, rfl⟩
      have o2 : W2.ownsRow 0 9 1 (.slice A k c) k ((List.range k).map fun _ => .string (str zpage)) := hW2 ▸ World.ownsRow.alloc (World.ownsRow.alloc HB.out.own _) _
      have hs2 : W2.heap.size = wr.heap.size + 2 := by rw [hW2]; show ((wr.alloc _).alloc _).heap.size = _; simp
      obtain ⟨v', w3, hrun, o3, g3, hnil, hat⟩ := run_append_own_at (P := Try.prog) W2 0 37 37 9 i0 (.string ByteArray.empty) 1 16 Try.underlying37 hi hz0 hz1 hz2 rfl (by omega) (.slice A k c) k _ o2 ⟨wr.heap.size + 1, 0, none⟩ 1 1 [.string (str zpage)] rfl (fun j u hu => by
        have : j = 0 := by
          rcases Nat.eq_zero_or_pos j with h | h
          · exact h
          · rw [List.getElem?_eq_none (by simp; omega)] at hu; cases hu
        subst this
        simp at hu
        subst hu
        rw [hW2]
        have := cell_alloc_new (wr.alloc (.cells (bcs zpage) 5)) (.string (str zpage)) 9
        rw [size_alloc'] at this
        exact this) (by intro u hu; simp at hu; subst hu; rfl) (by unfold maxLen; omega) (by omega) (Nat.zero_le _)
      obtain ⟨A', c', rfl⟩ := owns_form o3
      have hc0 := HB.out.row.cell (i := 0) (by omega)
      have d0 : wr.cell? ⟨w.heap.size, 0, none⟩ = some (.slice A k c) := hc0
      have d1 := cell_alloc d0 (.cells (bcs zpage) 5)
      have d2 := cell_alloc d1 (.cells #[.string (str zpage)] 9)
      have hlow := HB.out.low
      have hrb : w3.heap[w.heap.size]? = wr.heap[w.heap.size]? := (g3.block w.heap.size (by rw [hs2]; have := HB.out.row.lt; omega) (fun e => by have := hlow _ e.symm; omega)).trans (by
        rw [hW2]
        exact (Below.heap_alloc (wr.alloc (.cells (bcs zpage) 5)) _ _ (by rw [size_alloc']; have := HB.out.row.lt; omega)).trans (Below.heap_alloc _ _ _ HB.out.row.lt))
      have d3 : w3.cell? ⟨w.heap.size, 0, none⟩ = some (.slice A k c) := (World.cell?_of_block (w := wr) (a := ⟨w.heap.size, 0, none⟩) hrb).trans d0
      have d4 : w3.frozen? ⟨w.heap.size, 0, none⟩ = false := (World.frozen?_of_block (w := wr) (a := ⟨w.heap.size, 0, none⟩) hrb).trans (HB.out.row.frozen 0)
      have HF := Lib.hid (show Bld w (w3.setCell ⟨w.heap.size, 0, none⟩ (.slice A' (k + 1) c')) (.slice A' (k + 1) c') (k + 1) from by
        have hne : (Value.slice A' (k + 1) c').ownBlock ≠ some w.heap.size := fun e => by
          rcases hat with e2 | e2
          · have := hlow _ (e2 ▸ e); omega
          · rw [e2] at e; injection e with e; have := HB.out.row.lt; omega
        refine ⟨((HB.out.row.of_block hrb).set 0 _).congr fun j hj => by match j, hj with | 0, _ | 1, _ | 2, _ | 3, _ => rfl, ?_, ?_, fun j e => ?_⟩
        · rw [List.range_succ, List.map_append]
          exact owns_of_block o3 fun j e => Below.heap_setCell _ _ _ _ (fun e2 => hne (e.trans (congrArg some e2)))
        · have b2 : Below w.heap.size w W2 := by
            rw [hW2]
            exact (((HB.out.bel.alloc HB.out.bel.size _).alloc (Nat.le_trans HB.out.bel.size (by simp)) _)).drew
          exact (b2.grown g3 b2.size (fun j e => Nat.le_of_lt (hlow j e))).setCell (Nat.le_refl _) _
        · rcases hat with e2 | e2
          · exact hlow j (e2 ▸ e)
          · rw [e2] at e; injection e with e; have := HB.out.row.lt; omega)
      have HX := Lib.hid (show (Builtin.append_ #[37, 37] 37 #[.slice A k c, .slice (some ⟨wr.heap.size + 1, 0, none⟩) 1 1]).run Try.prog ((wr.alloc (.cells (bcs zpage) 5)).alloc (.cells #[.string (str zpage)] 9)).drew = .ok (.slice A' (k + 1) c') w3 by rw [← hW2]; exact hrun)
      generalize bcs zpage = zc at HX hz d1 d2
      generalize str zpage = zs at HX hz d2
      have HZ := Lib.hid hz
      clear hrun o2 hs2 o3 g3 hnil hat hc0 hlow hrb hz hW2
      go_wp2
      go_region_law (first | (refine step_append_run rfl (.tmp 16) (.tmp 18) 37 rfl (.slice A k c) (.slice (some ⟨wr.heap.size + 1, 0, none⟩) 1 1) (by simp [Act.eval, Act.put]) (by simp [Act.eval, Act.put]) HX.out ?_) | (go_simp; go_at_call 29; refine HZ.out.mono ?_; rintro e w9 ⟨rfl, rfl⟩))
      all_goals
        go_wp2
        go_roundw
        case rel => exact ⟨k + 1, by omega, by go_num, _, HF.out⟩
        case measure => simp [intOf]; omega
    · obtain rfl : k = n := by omega
      go_wp2
      go_ret
      refine ⟨rfl, lv, ⟨HB.out.row.congr fun j hj => by match j, hj with | 0, _ | 1, _ | 2, _ | 3, _ => rfl, HB.out.own, World.ownsRow_nil _ _ _ _, HN.out.1, HN.out.2, fun p hp => by simp [newR] at hp, fun i hi => zpage_len, by simp [newR], by simp [newR]⟩, HB.out.bel, fun j hj => ?_⟩
      rcases hj with e | e | e
      · omega
      · exact Nat.le_of_lt (HB.out.low j e)
      · cases e
end Go.Proofs.Ytpnnakjffcohoaa
