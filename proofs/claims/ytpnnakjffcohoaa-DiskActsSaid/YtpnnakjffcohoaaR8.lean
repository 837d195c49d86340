import Derived.Test.YtpnnakjffcohoaaR7
import Derived.Test.YtpnnakjffcohoaaA3
import Derived.Deep.RegionHeld
namespace Go.Proofs.Ytpnnakjffcohoaa
set_option linter.unusedVariables false
set_option linter.unusedSimpArgs false
open Go.RowKit Mem Go.ChangeMaps

def Rfd.ansA (r : Rfd) (a : ActD) : Int :=
  match a.dw % 7 with
  | 0 => r.ansW a.at' a.page
  | 1 => r.ansF
  | 5 => r.ansW a.at' (List.replicate a.b 0)
  | 6 => r.ref a.at'
  | _ => 0
def Rfd.doA (r : Rfd) (a : ActD) : Rfd :=
  match a.dw % 7 with
  | 0 => r.doW a.at' a.page
  | 1 => r.doF
  | 2 => r.fuse a.at'
  | 3 => r.killed
  | 4 => r.doR a.fates
  | 5 => r.doW a.at' (List.replicate a.b 0)
  | _ => r
variable {B : Nat} {W w : World} {rb : Nat} {lv sv : Value} {r : Rfd}

set_option maxRecDepth 20000 in
set_option maxHeartbeats 1000000 in
theorem told_any (h : IsR w rb lv sv r) (hs : r.since.length ≤ 1000000) (a : ActD) (ok : ActOk w B a) (hB : B ≤ w.heap.size) (hlow : ∀ k, rfoot rb lv sv k → B ≤ k) :
    Calls Try.prog 15 #[ptr rb, .agg a.cells] w fun e w' => e = .returned (.int .i64 (r.ansA a)) ∧ ∃ sv', IsR w' rb lv sv' (r.doA a) ∧ Kr w (rfoot rb lv sv) w' (rfoot rb lv sv') := by
  have hq : ((a.dw : Nat) : Int).tmod 7 = ((a.dw % 7 : Nat) : Int) := by rw [Int.tmod_eq_emod_of_nonneg (by omega)]; omega
  have hq7 : a.dw % 7 < 7 := by omega
  have s1 := h.below ((Below.refl _ w).alloc (Nat.le_refl _) (.cells a.cells 35))
  have b0 : (w.alloc (.cells a.cells 35)).cell? ⟨w.heap.size, 0, none⟩ = some (.int .u8 (a.dw : Int)) := box_cells w a 0 _ rfl
  have b1 : (w.alloc (.cells a.cells 35)).cell? ⟨w.heap.size, 1, none⟩ = some (.int .i64 a.at') := box_cells w a 1 _ rfl
  have b2 : (w.alloc (.cells a.cells 35)).cell? ⟨w.heap.size, 2, none⟩ = some (.int .u8 (a.b : Int)) := box_cells w a 2 _ rfl
  have b3 : (w.alloc (.cells a.cells 35)).cell? ⟨w.heap.size, 3, none⟩ = some (.int .u8 (a.c : Int)) := box_cells w a 3 _ rfl
  have b4 : (w.alloc (.cells a.cells 35)).cell? ⟨w.heap.size, 4, none⟩ = some (.int .u8 (a.s : Int)) := box_cells w a 4 _ rfl
  have K1 := Lib.hid (Kr.same (Fr.ofBelow ((Below.refl _ w).alloc (Nat.le_refl _) (.cells a.cells 35))) : Kr w (rfoot rb lv sv) (w.alloc (.cells a.cells 35)) (rfoot rb lv sv))
  have HG := Lib.hid (show w.heap.size < (w.alloc (.cells a.cells 35)).heap.size ∧ ¬ rfoot rb lv sv w.heap.size from ⟨by simp, fun hf => Nat.lt_irrefl _ (h.lt _ hf)⟩)
  have S1 := Lib.hid s1
  have HS := Lib.hid hs
  have HL := Lib.hid hlow
  have HBB := Lib.hid (show B ≤ (w.alloc (.cells a.cells 35)).heap.size from Nat.le_trans hB (by simp))
  have OK := Lib.hid (⟨ok.d, ok.l, ok.m, ok.bb, ok.cb, ok.sb, ok.fl, ok.fr.below ((Below.refl B w).alloc hB _)⟩ : ActOk (w.alloc (.cells a.cells 35)) B a)
  obtain ⟨q, hqq⟩ : ∃ q, q = a.dw % 7 := ⟨_, rfl⟩
  rw [← hqq] at hq hq7
  have HQ := Lib.hid hqq
  obtain ⟨cs, hcs⟩ : ∃ cs, cs = a.cells := ⟨_, rfl⟩
  have g0 : cs[0]? = some (.int .u8 (a.dw : Int)) := by rw [hcs]; rfl
  have g1 : cs[1]? = some (.int .i64 a.at') := by rw [hcs]; rfl
  have g2 : cs[2]? = some (.int .u8 (a.b : Int)) := by rw [hcs]; rfl
  have g3 : cs[3]? = some (.int .u8 (a.c : Int)) := by rw [hcs]; rfl
  have g4 : cs[4]? = some (.int .u8 (a.s : Int)) := by rw [hcs]; rfl
  have g5 : cs[5]? = some (.slice a.FA a.fn a.fc) := by rw [hcs]; rfl
  rw [← hcs] at b0 b1 b2 b3 b4 S1 K1 HG OK HBB ⊢
  have HB := Lib.hid (And.intro b1 (And.intro b2 (And.intro b3 b4)))
  clear h ok hs hqq hcs b0 b1 b2 b3 b4 s1 hlow hB
  have hcase : q = 0 ∨ q = 1 ∨ q = 2 ∨ q = 3 ∨ q = 4 ∨ q = 5 ∨ q = 6 := by omega
  clear hq7
  rcases hcase with rfl | rfl | rfl | rfl | rfl | rfl | rfl
  · have e1 : r.ansA a = r.ansW a.at' a.page := by unfold Rfd.ansA; rw [← HQ.out]; rfl
    have e2 : r.doA a = r.doW a.at' a.page := by unfold Rfd.doA; rw [← HQ.out]; rfl
    rw [e1, e2]
    clear e1 e2
    have kb0 := OK.out.bb
    have kc0 := OK.out.cb
    have ks0 := OK.out.sb
    have hsz : (w.alloc (.cells cs 35)).drew.heap.size = w.heap.size + 1 := size_alloc' w _
    have hpg := page_any a.b a.c a.s (by omega) (by omega) (by omega) (by omega) (by omega) (by omega) (w.alloc (.cells cs 35)).drew
    rw [show (((a.s : Nat) : Int).toNat % 8) = a.s % 8 by omega, hsz] at hpg
    obtain ⟨pg, hpp⟩ : ∃ pg, pg = a.page := ⟨_, rfl⟩
    have hpl : pg.length = 4096 := by rw [hpp]; exact a.page_len
    rw [show pageOf (u8 (a.b : Int)) (u8 (a.c : Int)) (a.s % 8) = pg from hpp.symm] at hpg
    rw [← hpp]
    obtain ⟨W2, hW2⟩ : ∃ W2, W2 = ((w.alloc (.cells cs 35)).alloc (.cells (bcs pg) 5)).drew := ⟨_, rfl⟩
    have hpg' : Calls Try.prog 27 #[.int .u8 (a.b : Int), .int .u8 (a.c : Int), .int .u8 (a.s : Int)] (w.alloc (.cells cs 35)).drew fun e w' => e = .returned (.slice (some ⟨w.heap.size + 1, 0, none⟩) 4096 4096) ∧ w' = ((w.alloc (.cells cs 35)).alloc (.cells (bcs pg) 5)).drew := hpg
    rw [← hW2] at hpg'
    have HPG := Lib.hid hpg'
    have HWR := Lib.hid (rwrite_any (show IsR W2 rb lv sv r from hW2 ▸ (S1.out.below ((Below.refl _ _).alloc (Nat.le_refl _) (.cells (bcs pg) 5))).keep fun _ _ => rfl) a.at' pg HS.out)
    have hcv : (convert 42 9 (.slice (some ⟨w.heap.size + 1, 0, none⟩) 4096 4096)).run Try.prog W2 = .ok (.string (str pg)) W2 := by
      have ho := (own_row (w := (w.alloc (.cells cs 35)).alloc (.cells (bcs pg) 5)) (w.alloc (.cells cs 35)).heap.size pg 0 (Nat.zero_le _) (by unfold maxLen; omega) (heap_alloc_new _ _))
      rw [hpl, size_alloc'] at ho
      rw [hW2]
      exact run_str_own _ (Own.of_block (w' := ((w.alloc (.cells cs 35)).alloc (.cells (bcs pg) 5)).drew) ho fun _ _ => rfl)
    have HD := Lib.hid (show (w.alloc (.cells cs 35)).drew.cell? ⟨w.heap.size, 1, none⟩ = some (.int .i64 a.at') ∧ (w.alloc (.cells cs 35)).drew.cell? ⟨w.heap.size, 2, none⟩ = some (.int .u8 (a.b : Int)) ∧ (w.alloc (.cells cs 35)).drew.cell? ⟨w.heap.size, 3, none⟩ = some (.int .u8 (a.c : Int)) ∧ (w.alloc (.cells cs 35)).drew.cell? ⟨w.heap.size, 4, none⟩ = some (.int .u8 (a.s : Int)) from HB.out)
    have HE := Lib.hid (show W2.cell? ⟨w.heap.size, 1, none⟩ = some (.int .i64 a.at') ∧ W2.cell? ⟨w.heap.size, 2, none⟩ = some (.int .u8 (a.b : Int)) ∧ W2.cell? ⟨w.heap.size, 3, none⟩ = some (.int .u8 (a.c : Int)) ∧ W2.cell? ⟨w.heap.size, 4, none⟩ = some (.int .u8 (a.s : Int)) from
      hW2 ▸ ⟨cell_alloc HB.out.1 (.cells (bcs pg) 5), cell_alloc HB.out.2.1 (.cells (bcs pg) 5), cell_alloc HB.out.2.2.1 (.cells (bcs pg) 5), cell_alloc HB.out.2.2.2 (.cells (bcs pg) 5)⟩)
    have HK := Lib.hid (show Kr w (rfoot rb lv sv) W2 (rfoot rb lv sv) from hW2 ▸ K1.out.trans (Kr.same (((Fr.alloc (w.alloc (.cells cs 35)) (.cells (bcs pg) 5))).drew)))
    have hng : w.heap.size < W2.heap.size ∧ ¬ rfoot rb lv sv w.heap.size := ⟨lt_of_cell HE.out.1, HG.out.2⟩
    have HW := Lib.hid (fun (w' : World) (sv' : Value) (k : Kr W2 (rfoot rb lv sv) w' (rfoot rb lv sv')) =>
      show w'.cell? ⟨w.heap.size, 1, none⟩ = some (.int .i64 a.at') ∧ w'.cell? ⟨w.heap.size, 2, none⟩ = some (.int .u8 (a.b : Int)) ∧ w'.cell? ⟨w.heap.size, 3, none⟩ = some (.int .u8 (a.c : Int)) ∧ w'.cell? ⟨w.heap.size, 4, none⟩ = some (.int .u8 (a.s : Int)) from
        have f := fun (j : Nat) => World.cell?_of_block (w := W2) (a := ⟨w.heap.size, j, none⟩) (k.fr.block _ hng.1 hng.2)
        ⟨(f 1).trans HE.out.1, (f 2).trans HE.out.2.1, (f 3).trans HE.out.2.2.1, (f 4).trans HE.out.2.2.2⟩)
    clear hng hW2 hpp hpl hpg hpg' hsz kb0 kc0 ks0
    go_enter Try.func15, Try.ntmps15
    go_wp2_with fail
    refine wp_region_held_drew (S := (fun w' => w'.cell? ⟨w.heap.size, 1, none⟩ = some (.int .i64 a.at') ∧ w'.cell? ⟨w.heap.size, 2, none⟩ = some (.int .u8 (a.b : Int)) ∧ w'.cell? ⟨w.heap.size, 3, none⟩ = some (.int .u8 (a.c : Int)) ∧ w'.cell? ⟨w.heap.size, 4, none⟩ = some (.int .u8 (a.s : Int)))) (by kernel_rfl) HD.out (fun hHeld => ?_)
    refine wpAnyH_take (i := 0) (v := ?_) rfl (by kernel_rfl) (by kernel_rfl) (by kernel_rfl) (fun _ _ _ h => h) (Or.inl ⟨by rfl, ?_⟩) (by assumption) ?_
    rotate_left 1
    · intro w hSw; (try dsimp only at hSw); go_simp; try (with_reducible rfl)
    try simp only [Act.put, List.getElem_toArray, List.getElem_cons_zero, List.getElem_cons_succ, List.setIfInBounds_toArray, List.set_cons_zero, List.set_cons_succ]
    refine wpAnyH_take (i := 1) (v := ?_) rfl (by kernel_rfl) (by kernel_rfl) (by kernel_rfl) (fun _ _ _ h => h) (Or.inl ⟨by rfl, ?_⟩) (by assumption) ?_
    rotate_left 1
    · intro w hSw; (try dsimp only at hSw); go_simp; try (with_reducible rfl)
    try simp only [Act.put, List.getElem_toArray, List.getElem_cons_zero, List.getElem_cons_succ, List.setIfInBounds_toArray, List.set_cons_zero, List.set_cons_succ]
    refine wpAnyH_take (i := 2) (v := ?_) rfl (by kernel_rfl) (by kernel_rfl) (by kernel_rfl) (fun _ _ _ h => h) (Or.inl ⟨by rfl, ?_⟩) (by assumption) ?_
    rotate_left 1
    · intro w hSw; (try dsimp only at hSw); go_simp; try (with_reducible rfl)
    try simp only [Act.put, List.getElem_toArray, List.getElem_cons_zero, List.getElem_cons_succ, List.setIfInBounds_toArray, List.set_cons_zero, List.set_cons_succ]
    refine wpAnyH_take (i := 3) (v := ?_) rfl (by kernel_rfl) (by kernel_rfl) (by kernel_rfl) (fun _ _ _ h => h) (Or.inl ⟨by rfl, ?_⟩) (by assumption) ?_
    rotate_left 1
    · intro w hSw; (try dsimp only at hSw); go_simp; try (with_reducible rfl)
    try simp only [Act.put, List.getElem_toArray, List.getElem_cons_zero, List.getElem_cons_succ, List.setIfInBounds_toArray, List.set_cons_zero, List.set_cons_succ]
    refine wpAnyH_take (i := 4) (v := ?_) rfl (by kernel_rfl) (by kernel_rfl) (by kernel_rfl) (fun _ _ _ h => h) (Or.inl ⟨by rfl, ?_⟩) (by assumption) ?_
    rotate_left 1
    · intro w hSw; (try dsimp only at hSw); go_simp; try (with_reducible rfl)
    try simp only [Act.put, List.getElem_toArray, List.getElem_cons_zero, List.getElem_cons_succ, List.setIfInBounds_toArray, List.set_cons_zero, List.set_cons_succ]
    refine wpAnyH_take (i := 5) (v := ?_) rfl (by kernel_rfl) (by kernel_rfl) (by kernel_rfl) (fun _ _ _ h => h) (Or.inl ⟨by rfl, ?_⟩) (by assumption) ?_
    rotate_left 1
    · intro w hSw; (try dsimp only at hSw); go_simp; try (with_reducible rfl)
    try simp only [Act.put, List.getElem_toArray, List.getElem_cons_zero, List.getElem_cons_succ, List.setIfInBounds_toArray, List.set_cons_zero, List.set_cons_succ]
    refine wpAnyH_take (i := 6) (v := ?_) rfl (by kernel_rfl) (by kernel_rfl) (by kernel_rfl) (fun _ _ _ h => h) (Or.inl ⟨by rfl, ?_⟩) (by assumption) ?_
    rotate_left 1
    · intro w hSw; (try dsimp only at hSw); go_simp; try (with_reducible rfl)
    try simp only [Act.put, List.getElem_toArray, List.getElem_cons_zero, List.getElem_cons_succ, List.setIfInBounds_toArray, List.set_cons_zero, List.set_cons_succ]
    refine wpAnyH_take (i := 7) (v := ?_) rfl (by kernel_rfl) (by kernel_rfl) (by kernel_rfl) (fun _ _ _ h => h) (Or.inl ⟨by rfl, ?_⟩) (by assumption) ?_
    rotate_left 1
    · intro w hSw; (try dsimp only at hSw); go_simp; try (with_reducible rfl)
    try simp only [Act.put, List.getElem_toArray, List.getElem_cons_zero, List.getElem_cons_succ, List.setIfInBounds_toArray, List.set_cons_zero, List.set_cons_succ]
    refine wpAnyH_take (i := 8) (v := ?_) rfl (by kernel_rfl) (by kernel_rfl) (by kernel_rfl) (fun _ _ _ h => h) (Or.inl ⟨by rfl, ?_⟩) (by assumption) ?_
    rotate_left 1
    · intro w hSw; (try dsimp only at hSw); go_simp; try (with_reducible rfl)
    try simp only [Act.put, List.getElem_toArray, List.getElem_cons_zero, List.getElem_cons_succ, List.setIfInBounds_toArray, List.set_cons_zero, List.set_cons_succ]
    refine wpAnyH_ready (rs := [9]) (by kernel_rfl) (by simp) ?_
    refine AllReadyH.cons rfl (fun K hK => ?_) AllReadyH.nil
    go_simp
    refine HPG.out.mono ?_; rintro e w2 ⟨rfl, hw2⟩; subst hw2
    go_wp2_with fail
    refine hK.out _ _ ?_ (fun hHeld => ?_)
    · first | exact HD.out | exact HE.out | exact HF.out
    clear hK K
    try simp only [Act.put, List.getElem_toArray, List.getElem_cons_zero, List.getElem_cons_succ, List.setIfInBounds_toArray, List.set_cons_zero, List.set_cons_succ]
    refine wpAnyH_ready (rs := [10]) (by kernel_rfl) (by simp) ?_
    refine AllReadyH.cons rfl (fun K hK => ?_) AllReadyH.nil
    go_simp
    refine hK.out _ _ ?_ (fun hHeld => ?_)
    · first | exact HD.out | exact HE.out | exact HF.out
    clear hK K
    try simp only [Act.put, List.getElem_toArray, List.getElem_cons_zero, List.getElem_cons_succ, List.setIfInBounds_toArray, List.set_cons_zero, List.set_cons_succ]
    refine wpAnyH_ready (rs := [11]) (by kernel_rfl) (by simp) ?_
    refine AllReadyH.cons rfl (fun K hK => ?_) AllReadyH.nil
    go_simp
    refine HWR.out.mono ?_; rintro e w3 ⟨rfl, sv3, x3, k3⟩; have X3 := Lib.hid x3; have K3 := Lib.hid (HK.out.trans k3); have HF := Lib.hid (HW.out _ _ k3); clear x3 k3
    go_wp2_with fail
    refine hK.out _ _ ?_ (fun hHeld => ?_)
    · first | exact HD.out | exact HE.out | exact HF.out
    clear hK K
    try simp only [Act.put, List.getElem_toArray, List.getElem_cons_zero, List.getElem_cons_succ, List.setIfInBounds_toArray, List.set_cons_zero, List.set_cons_succ]
    refine wpAnyH_take (i := 12) (v := ?_) rfl (by kernel_rfl) (by kernel_rfl) (by kernel_rfl) (fun _ _ _ h => h) (Or.inl ⟨by rfl, ?_⟩) (by assumption) ?_
    rotate_left 1
    · intro w hSw; (try dsimp only at hSw); go_simp; try (with_reducible rfl)
    try simp only [Act.put, List.getElem_toArray, List.getElem_cons_zero, List.getElem_cons_succ, List.setIfInBounds_toArray, List.set_cons_zero, List.set_cons_succ]
    refine wpAnyH_done (by kernel_rfl) ?_ _
    go_wp2_with fail
    go_ret
    exact ⟨rfl, sv3, X3.out, K3.out⟩
  · have e1 : r.ansA a = r.ansF := by unfold Rfd.ansA; rw [← HQ.out]; rfl
    have e2 : r.doA a = r.doF := by unfold Rfd.doA; rw [← HQ.out]; rfl
    rw [e1, e2]
    clear e1 e2
    go_enter Try.func15, Try.ntmps15
    go_wp2_with fail
    refine (rflush_any S1.out HS.out).mono ?_
    rintro e w2 ⟨rfl, sv2, s2, k2⟩
    have S2 := Lib.hid s2
    have K2 := Lib.hid (K1.out.trans k2)
    clear s2 k2
    go_wp2_with fail
    go_ret
    exact ⟨rfl, sv2, S2.out, K2.out⟩
  · have e1 : r.ansA a = 0 := by unfold Rfd.ansA; rw [← HQ.out]; rfl
    have e2 : r.doA a = r.fuse a.at' := by unfold Rfd.doA; rw [← HQ.out]; rfl
    rw [e1, e2]
    clear e1 e2
    go_enter Try.func15, Try.ntmps15
    go_wp2_with fail
    refine (rfuse_any S1.out a.at' OK.out.l OK.out.m).mono ?_
    rintro e w2 ⟨rfl, s2, k2⟩
    have S2 := Lib.hid s2
    have K2 := Lib.hid (K1.out.trans k2)
    clear s2 k2
    go_wp2_with fail
    go_ret
    exact ⟨rfl, sv, S2.out, K2.out⟩
  · have e1 : r.ansA a = 0 := by unfold Rfd.ansA; rw [← HQ.out]; rfl
    have e2 : r.doA a = r.killed := by unfold Rfd.doA; rw [← HQ.out]; rfl
    rw [e1, e2]
    clear e1 e2
    have c3 := S1.out.c3
    have f3 := S1.out.row.frozen 3
    have X2 := Lib.hid S1.out.kill
    go_enter Try.func15, Try.ntmps15
    go_wp2_with fail
    go_ret
    exact ⟨rfl, sv, X2.out.1, K1.out.trans X2.out.2⟩
  · have e1 : r.ansA a = 0 := by unfold Rfd.ansA; rw [← HQ.out]; rfl
    have e2 : r.doA a = r.doR a.fates := by unfold Rfd.doA; rw [← HQ.out]; rfl
    rw [e1, e2]
    clear e1 e2
    go_enter Try.func15, Try.ntmps15
    go_wp2_with fail
    refine (rrestart_any S1.out HS.out a.FA a.fn a.fc a.fates (OK.out.fr.more HBB.out) OK.out.fl (fun h0 x hx hf => ?_)).mono ?_
    · have h1 := HL.out _ hf
      obtain ⟨b, o, e, hb, _⟩ := OK.out.fr.2.2.2 h0
      rw [hx] at e
      injection e with e
      subst e
      exact absurd h1 (Nat.not_le_of_lt hb)
    rintro e w2 ⟨rfl, s2, k2⟩
    have S2 := Lib.hid s2
    have K2 := Lib.hid (K1.out.trans k2)
    clear s2 k2
    go_wp2_with fail
    go_ret
    exact ⟨rfl, _, S2.out, K2.out⟩
  · have e1 : r.ansA a = r.ansW a.at' (List.replicate a.b 0) := by unfold Rfd.ansA; rw [← HQ.out]; rfl
    have e2 : r.doA a = r.doW a.at' (List.replicate a.b 0) := by unfold Rfd.doA; rw [← HQ.out]; rfl
    rw [e1, e2]
    clear e1 e2
    have kb0 := OK.out.bb
    have hmk := makeN a.b kb0
    rw [bcs_zeros] at hmk
    obtain ⟨pg, hpp⟩ : ∃ pg, pg = List.replicate a.b (0 : UInt8) := ⟨_, rfl⟩
    have hpl : pg.length = a.b := by rw [hpp, List.length_replicate]
    rw [← hpp] at hmk ⊢
    obtain ⟨W2, hW2⟩ : ∃ W2, W2 = ((w.alloc (.cells cs 35)).alloc (.cells (bcs pg) 5)).drew := ⟨_, rfl⟩
    have HWR := Lib.hid (rwrite_any (show IsR W2 rb lv sv r from hW2 ▸ (S1.out.below ((Below.refl _ _).alloc (Nat.le_refl _) (.cells (bcs pg) 5))).keep fun _ _ => rfl) a.at' pg HS.out)
    have hcv : (convert 42 9 (.slice (some ⟨w.heap.size + 1, 0, none⟩) a.b a.b)).run Try.prog W2 = .ok (.string (str pg)) W2 := by
      have ho := (own_row (w := (w.alloc (.cells cs 35)).alloc (.cells (bcs pg) 5)) (w.alloc (.cells cs 35)).heap.size pg 0 (Nat.zero_le _) (by unfold maxLen; omega) (heap_alloc_new _ _))
      rw [hpl, size_alloc'] at ho
      rw [hW2]
      exact run_str_own _ (Own.of_block (w' := ((w.alloc (.cells cs 35)).alloc (.cells (bcs pg) 5)).drew) ho fun _ _ => rfl)
    have HD := Lib.hid (show (w.alloc (.cells cs 35)).drew.cell? ⟨w.heap.size, 1, none⟩ = some (.int .i64 a.at') ∧ (w.alloc (.cells cs 35)).drew.cell? ⟨w.heap.size, 2, none⟩ = some (.int .u8 (a.b : Int)) ∧ (w.alloc (.cells cs 35)).drew.cell? ⟨w.heap.size, 3, none⟩ = some (.int .u8 (a.c : Int)) ∧ (w.alloc (.cells cs 35)).drew.cell? ⟨w.heap.size, 4, none⟩ = some (.int .u8 (a.s : Int)) from HB.out)
    have HE := Lib.hid (show W2.cell? ⟨w.heap.size, 1, none⟩ = some (.int .i64 a.at') ∧ W2.cell? ⟨w.heap.size, 2, none⟩ = some (.int .u8 (a.b : Int)) ∧ W2.cell? ⟨w.heap.size, 3, none⟩ = some (.int .u8 (a.c : Int)) ∧ W2.cell? ⟨w.heap.size, 4, none⟩ = some (.int .u8 (a.s : Int)) from
      hW2 ▸ ⟨cell_alloc HB.out.1 (.cells (bcs pg) 5), cell_alloc HB.out.2.1 (.cells (bcs pg) 5), cell_alloc HB.out.2.2.1 (.cells (bcs pg) 5), cell_alloc HB.out.2.2.2 (.cells (bcs pg) 5)⟩)
    have HK := Lib.hid (show Kr w (rfoot rb lv sv) W2 (rfoot rb lv sv) from hW2 ▸ K1.out.trans (Kr.same (((Fr.alloc (w.alloc (.cells cs 35)) (.cells (bcs pg) 5))).drew)))
    have hng : w.heap.size < W2.heap.size ∧ ¬ rfoot rb lv sv w.heap.size := ⟨lt_of_cell HE.out.1, HG.out.2⟩
    generalize a.b = bn at hmk hcv HD HE g2
    have HW := Lib.hid (fun (w' : World) (sv' : Value) (k : Kr W2 (rfoot rb lv sv) w' (rfoot rb lv sv')) =>
      show w'.cell? ⟨w.heap.size, 1, none⟩ = some (.int .i64 a.at') ∧ w'.cell? ⟨w.heap.size, 2, none⟩ = some (.int .u8 (bn : Int)) ∧ w'.cell? ⟨w.heap.size, 3, none⟩ = some (.int .u8 (a.c : Int)) ∧ w'.cell? ⟨w.heap.size, 4, none⟩ = some (.int .u8 (a.s : Int)) from
        have f := fun (j : Nat) => World.cell?_of_block (w := W2) (a := ⟨w.heap.size, j, none⟩) (k.fr.block _ hng.1 hng.2)
        ⟨(f 1).trans HE.out.1, (f 2).trans HE.out.2.1, (f 3).trans HE.out.2.2.1, (f 4).trans HE.out.2.2.2⟩)
    have HV := Lib.hid hW2.symm
    have HN := Lib.hid (show (0 : Int) ≤ (bn : Int) by omega)
    clear hng hW2 kb0 hpp hpl
    go_enter Try.func15, Try.ntmps15
    go_wp2_with fail
    refine wp_region_held_drew (S := (fun w' => w'.cell? ⟨w.heap.size, 1, none⟩ = some (.int .i64 a.at') ∧ w'.cell? ⟨w.heap.size, 2, none⟩ = some (.int .u8 (bn : Int)) ∧ w'.cell? ⟨w.heap.size, 3, none⟩ = some (.int .u8 (a.c : Int)) ∧ w'.cell? ⟨w.heap.size, 4, none⟩ = some (.int .u8 (a.s : Int)))) (by kernel_rfl) HD.out (fun hHeld => ?_)
    refine wpAnyH_take (i := 0) (v := ?_) rfl (by kernel_rfl) (by kernel_rfl) (by kernel_rfl) (fun _ _ _ h => h) (Or.inl ⟨by rfl, ?_⟩) (by assumption) ?_
    rotate_left 1
    · intro w hSw; (try dsimp only at hSw); go_simp; try (with_reducible rfl)
    try simp only [Act.put, List.getElem_toArray, List.getElem_cons_zero, List.getElem_cons_succ, List.setIfInBounds_toArray, List.set_cons_zero, List.set_cons_succ]
    refine wpAnyH_take (i := 1) (v := ?_) rfl (by kernel_rfl) (by kernel_rfl) (by kernel_rfl) (fun _ _ _ h => h) (Or.inl ⟨by rfl, ?_⟩) (by assumption) ?_
    rotate_left 1
    · intro w hSw; (try dsimp only at hSw); go_simp; try (with_reducible rfl)
    try simp only [Act.put, List.getElem_toArray, List.getElem_cons_zero, List.getElem_cons_succ, List.setIfInBounds_toArray, List.set_cons_zero, List.set_cons_succ]
    refine wpAnyH_take (i := 2) (v := ?_) rfl (by kernel_rfl) (by kernel_rfl) (by kernel_rfl) (fun _ _ _ h => h) (Or.inl ⟨by rfl, ?_⟩) (by assumption) ?_
    rotate_left 1
    · intro w hSw; (try dsimp only at hSw); go_simp; try (with_reducible rfl)
    try simp only [Act.put, List.getElem_toArray, List.getElem_cons_zero, List.getElem_cons_succ, List.setIfInBounds_toArray, List.set_cons_zero, List.set_cons_succ]
    refine wpAnyH_take (i := 3) (v := ?_) rfl (by kernel_rfl) (by kernel_rfl) (by kernel_rfl) (fun _ _ _ h => h) (Or.inl ⟨by rfl, ?_⟩) (by assumption) ?_
    rotate_left 1
    · intro w hSw; (try dsimp only at hSw); go_simp; try (with_reducible rfl)
    try simp only [Act.put, List.getElem_toArray, List.getElem_cons_zero, List.getElem_cons_succ, List.setIfInBounds_toArray, List.set_cons_zero, List.set_cons_succ]
    refine wpAnyH_take (i := 4) (v := ?_) rfl (by kernel_rfl) (by kernel_rfl) (by kernel_rfl) (fun _ _ _ h => h) (Or.inl ⟨by rfl, ?_⟩) (by assumption) ?_
    rotate_left 1
    · intro w hSw; (try dsimp only at hSw); go_simp; try (with_reducible rfl)
    try simp only [Act.put, List.getElem_toArray, List.getElem_cons_zero, List.getElem_cons_succ, List.setIfInBounds_toArray, List.set_cons_zero, List.set_cons_succ]
    refine wpAnyH_ready (rs := [5]) (by kernel_rfl) (by simp) ?_
    refine AllReadyH.cons rfl (fun K hK => ?_) AllReadyH.nil
    go_simp
    refine hK.out _ _ ?_ (fun hHeld => ?_)
    · rw [HV.out]; exact HE.out
    clear hK K
    try simp only [Act.put, List.getElem_toArray, List.getElem_cons_zero, List.getElem_cons_succ, List.setIfInBounds_toArray, List.set_cons_zero, List.set_cons_succ]
    rw [HV.out] at hHeld ⊢
    refine wpAnyH_ready (rs := [6]) (by kernel_rfl) (by simp) ?_
    refine AllReadyH.cons rfl (fun K hK => ?_) AllReadyH.nil
    go_simp
    refine hK.out _ _ ?_ (fun hHeld => ?_)
    · first | exact HD.out | exact HE.out | exact HF.out
    clear hK K
    try simp only [Act.put, List.getElem_toArray, List.getElem_cons_zero, List.getElem_cons_succ, List.setIfInBounds_toArray, List.set_cons_zero, List.set_cons_succ]
    refine wpAnyH_ready (rs := [7]) (by kernel_rfl) (by simp) ?_
    refine AllReadyH.cons rfl (fun K hK => ?_) AllReadyH.nil
    go_simp
    refine HWR.out.mono ?_; rintro e w3 ⟨rfl, sv3, x3, k3⟩; have X3 := Lib.hid x3; have K3 := Lib.hid (HK.out.trans k3); have HF := Lib.hid (HW.out _ _ k3); clear x3 k3
    go_wp2_with fail
    refine hK.out _ _ ?_ (fun hHeld => ?_)
    · first | exact HD.out | exact HE.out | exact HF.out
    clear hK K
    try simp only [Act.put, List.getElem_toArray, List.getElem_cons_zero, List.getElem_cons_succ, List.setIfInBounds_toArray, List.set_cons_zero, List.set_cons_succ]
    refine wpAnyH_take (i := 8) (v := ?_) rfl (by kernel_rfl) (by kernel_rfl) (by kernel_rfl) (fun _ _ _ h => h) (Or.inl ⟨by rfl, ?_⟩) (by assumption) ?_
    rotate_left 1
    · intro w hSw; (try dsimp only at hSw); go_simp; try (with_reducible rfl)
    try simp only [Act.put, List.getElem_toArray, List.getElem_cons_zero, List.getElem_cons_succ, List.setIfInBounds_toArray, List.set_cons_zero, List.set_cons_succ]
    refine wpAnyH_done (by kernel_rfl) ?_ _
    go_wp2_with fail
    go_ret
    exact ⟨rfl, sv3, X3.out, K3.out⟩
  · have e1 : r.ansA a = r.ref a.at' := by unfold Rfd.ansA; rw [← HQ.out]; rfl
    have e2 : r.doA a = r := by unfold Rfd.doA; rw [← HQ.out]; rfl
    rw [e1, e2]
    clear e1 e2
    go_enter Try.func15, Try.ntmps15
    go_wp2_with fail
    refine (rread_any S1.out a.at' HS.out).mono ?_
    rintro e w2 ⟨rfl, rfl⟩
    go_wp2_with fail
    go_ret
    exact ⟨rfl, sv, S1.out, K1.out⟩
end Go.Proofs.Ytpnnakjffcohoaa
