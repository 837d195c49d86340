import Derived.Test.YtpnnakjffcohoaaA2
namespace Go.Proofs.Ytpnnakjffcohoaa
set_option linter.unusedVariables false
set_option linter.unusedSimpArgs false
open Go.RowKit Mem Go.ChangeMaps

/-! ### An act, as data -/
def Dsk.ansA (d : Dsk) (a : ActD) : Int :=
  match a.dw % 7 with
  | 0 => d.ansW a.at'
  | 1 => d.ansF
  | 5 => if d.dead then 9 else 1
  | 6 => d.ref a.at'
  | _ => 0
def ActD.page (a : ActD) : List UInt8 := pageOf (u8 a.b) (u8 a.c) (a.s % 8)
def Dsk.doA (d : Dsk) (a : ActD) : Dsk :=
  match a.dw % 7 with
  | 0 => d.doW a.at' a.page
  | 1 => d.doF
  | 2 => d.fuseTo a.at'
  | 3 => { d with dead := true }
  | 4 => d.restart a.fates
  | _ => d
def ActD.cells (a : ActD) : Array Value := #[.int .u8 (a.dw : Int), .int .i64 a.at', .int .u8 (a.b : Int), .int .u8 (a.c : Int), .int .u8 (a.s : Int), .slice a.FA a.fn a.fc]
theorem ActD.page_len (a : ActD) : a.page.length = 4096 := pageOf_len _ _ _

variable {B : Nat} {W w : World} {db : Nat} {y : Lay} {d : Dsk} {m : Nat}

/-- What an act is good for: its numbers, and its fates, which lie ahead of the disk. -/
structure ActOk (w : World) (B : Nat) (a : ActD) : Prop where
  d : a.dw < 256
  l : -9223372036854775808 ≤ a.at'
  m : a.at' < 9223372036854775808
  bb : a.b < 256
  cb : a.c < 256
  sb : a.s < 256
  fl : a.fates.length = a.fn
  fr : RdI w B a.FA a.fc a.fates
theorem ActAt.ok {b o i : Nat} {a : ActD} (h : ActAt w B b o i a) : ActOk w B a := ⟨h.d, h.l, h.m, h.bb, h.cb, h.sb, h.fl, h.fr⟩

theorem makeN (n : Nat) (hn : n < 256) : ∀ W, (Instr.makeSlice 42 (.int .u8 (n : Int)) (.int .u8 (n : Int))).run Try.prog W = .ok (.slice (some ⟨W.heap.size, 0, none⟩) n n) (W.alloc (.cells (madeCells #[.int .u8 0] n) 5)) := fun W =>
  run_make_row' (P := Try.prog) 42 5 (.int .u8 0) 1 Try.underlying42 u8_info rfl .u8 .u8 n (by omega) (by omega) W

/-- The box that does lays for its act. -/
theorem box_cells (w : World) (a : ActD) : ∀ j v, a.cells[j]? = some v → (w.alloc (.cells a.cells 35)).cell? ⟨w.heap.size, j, none⟩ = some v := fun j v hj => by
  rw [cell_of_row _ _ _ _ _ _ (heap_alloc_new w _)]; exact hj

set_option maxRecDepth 20000 in
set_option maxHeartbeats 1000000 in
theorem does_any (s : St B W w db y d m) (a : ActD) (ok : ActOk w B a) (hm : m < 999999999) :
    Calls Try.prog 14 #[ptr db, .agg a.cells] w fun e w' => e = .returned (.int .i64 (d.ansA a)) ∧ ∃ y', St B W w' db y' (d.doA a) (m + 2) ∧ Kp w y w' y' := by
  have hq : ((a.dw : Nat) : Int).tmod 7 = ((a.dw % 7 : Nat) : Int) := by rw [Int.tmod_eq_emod_of_nonneg (by omega)]; omega
  have hq7 : a.dw % 7 < 7 := by omega
  have s1 := s.alloc (.cells a.cells 35)
  have b0 : (w.alloc (.cells a.cells 35)).cell? ⟨w.heap.size, 0, none⟩ = some (.int .u8 (a.dw : Int)) := box_cells w a 0 _ rfl
  have b1 : (w.alloc (.cells a.cells 35)).cell? ⟨w.heap.size, 1, none⟩ = some (.int .i64 a.at') := box_cells w a 1 _ rfl
  have b2 : (w.alloc (.cells a.cells 35)).cell? ⟨w.heap.size, 2, none⟩ = some (.int .u8 (a.b : Int)) := box_cells w a 2 _ rfl
  have b3 : (w.alloc (.cells a.cells 35)).cell? ⟨w.heap.size, 3, none⟩ = some (.int .u8 (a.c : Int)) := box_cells w a 3 _ rfl
  have b4 : (w.alloc (.cells a.cells 35)).cell? ⟨w.heap.size, 4, none⟩ = some (.int .u8 (a.s : Int)) := box_cells w a 4 _ rfl
  have b5 : (w.alloc (.cells a.cells 35)).cell? ⟨w.heap.size, 5, none⟩ = some (.slice a.FA a.fn a.fc) := box_cells w a 5 _ rfl
  have K1 := Lib.hid (Kp.ofBelow y ((Below.refl _ w).alloc (Nat.le_refl _) (.cells a.cells 35)) : Kp w y (w.alloc (.cells a.cells 35)) y)
  have HG := Lib.hid (show w.heap.size < (w.alloc (.cells a.cells 35)).heap.size ∧ ¬ y.foot w.heap.size from ⟨by simp, fresh_not s.is _ (Nat.le_refl _)⟩)
  have S1 := Lib.hid s1
  have OK := Lib.hid (⟨ok.d, ok.l, ok.m, ok.bb, ok.cb, ok.sb, ok.fl, ok.fr.below ((Below.refl B w).alloc (Nat.le_trans s.base s.bel.size) _)⟩ : ActOk (w.alloc (.cells a.cells 35)) B a)
  have HM := Lib.hid hm
  obtain ⟨q, hqq⟩ : ∃ q, q = a.dw % 7 := ⟨_, rfl⟩
  rw [← hqq] at hq hq7
  have HQ := Lib.hid hqq
  obtain ⟨cs, hcs⟩ : ∃ cs, cs = a.cells := ⟨_, rfl⟩
  have g0 : cs[0]? = some (.int .u8 (a.dw : Int)) := by rw [hcs]; rfl
  have g1 : cs[1]? = some (.int .i64 a.at') := by rw [hcs]; rfl
  have g2 : cs[2]? = some (.int .u8 (a.b : Int)) := by rw [hcs]; rfl
  have g3 : cs[3]? = some (.int .u8 (a.c : Int)) := by rw [hcs]; rfl
  have g4 : cs[4]? = some (.int .u8 (a.s : Int)) := by rw [hcs]; rfl
  have g5 : cs[5]? = some (.slice a.FA a.fn a.fc) := by rw [hcs]; rfl
  rw [← hcs] at b0 b1 b2 b3 b4 b5 S1 K1 HG OK ⊢
  have HB := Lib.hid (And.intro b1 (And.intro b2 (And.intro b3 b4)))
  clear s ok hm hqq hcs b0 b1 b2 b3 b4 b5 s1
  have hcase : q = 0 ∨ q = 1 ∨ q = 2 ∨ q = 3 ∨ q = 4 ∨ q = 5 ∨ q = 6 := by omega
  clear hq7
  rcases hcase with rfl | rfl | rfl | rfl | rfl | rfl | rfl
  · have e1 : d.ansA a = d.ansW a.at' := by unfold Dsk.ansA; rw [← HQ.out]; rfl
    have e2 : d.doA a = d.doW a.at' a.page := by unfold Dsk.doA; rw [← HQ.out]; rfl
    rw [e1, e2]
    clear e1 e2
    have kb0 := OK.out.bb
    have kc0 := OK.out.cb
    have ks0 := OK.out.sb
    have hsz : (w.alloc (.cells cs 35)).drew.heap.size = w.heap.size + 1 := size_alloc' w _
    have hpg := page_any a.b a.c a.s (by omega) (by omega) (by omega) (by omega) (by omega) (by omega) (w.alloc (.cells cs 35)).drew
    rw [show (((a.s : Nat) : Int).toNat % 8) = a.s % 8 by omega, hsz] at hpg
    obtain ⟨pg, hpp⟩ : ∃ pg, pg = a.page := ⟨_, rfl⟩
    have hpl : pg.length = 4096 := by rw [hpp]; exact a.page_len
    rw [show pageOf (u8 (a.b : Int)) (u8 (a.c : Int)) (a.s % 8) = pg from hpp.symm] at hpg
    rw [← hpp]
    have HPG := Lib.hid (show Calls Try.prog 27 #[.int .u8 (a.b : Int), .int .u8 (a.c : Int), .int .u8 (a.s : Int)] (w.alloc (.cells cs 35)).drew fun e w' => e = .returned (.slice (some ⟨w.heap.size + 1, 0, none⟩) 4096 4096) ∧ w' = ((w.alloc (.cells cs 35)).alloc (.cells (bcs pg) 5)).drew from hpg)
    have SD := (S1.out.keep (w' := (w.alloc (.cells cs 35)).drew) (Below.refl _ _).drew)
    have hwr := SD.write a.at' pg hpl HM.out
    rw [hsz] at hwr
    have HWR := Lib.hid (show Calls Try.prog 26 #[ptr db, .int .i64 a.at', .slice (some ⟨w.heap.size + 1, 0, none⟩) 4096 4096] ((w.alloc (.cells cs 35)).alloc (.cells (bcs pg) 5)).drew fun e w' => e = .returned (.int .i64 (d.ansW a.at')) ∧ ∃ y', St B W w' db y' (d.doW a.at' pg) (m + 2) ∧ Kp ((w.alloc (.cells cs 35)).alloc (.cells (bcs pg) 5)).drew y w' y' from hwr)
    clear hpp hpl hpg hwr SD hsz kb0 kc0 ks0
    obtain ⟨W2, hW2⟩ : ∃ W2, W2 = ((w.alloc (.cells cs 35)).alloc (.cells (bcs pg) 5)).drew := ⟨_, rfl⟩
    have HD := Lib.hid (show (w.alloc (.cells cs 35)).drew.cell? ⟨w.heap.size, 1, none⟩ = some (.int .i64 a.at') ∧ (w.alloc (.cells cs 35)).drew.cell? ⟨w.heap.size, 2, none⟩ = some (.int .u8 (a.b : Int)) ∧ (w.alloc (.cells cs 35)).drew.cell? ⟨w.heap.size, 3, none⟩ = some (.int .u8 (a.c : Int)) ∧ (w.alloc (.cells cs 35)).drew.cell? ⟨w.heap.size, 4, none⟩ = some (.int .u8 (a.s : Int)) from HB.out)
    have HE := Lib.hid (show W2.cell? ⟨w.heap.size, 1, none⟩ = some (.int .i64 a.at') ∧ W2.cell? ⟨w.heap.size, 2, none⟩ = some (.int .u8 (a.b : Int)) ∧ W2.cell? ⟨w.heap.size, 3, none⟩ = some (.int .u8 (a.c : Int)) ∧ W2.cell? ⟨w.heap.size, 4, none⟩ = some (.int .u8 (a.s : Int)) from
      hW2 ▸ ⟨cell_alloc HB.out.1 (.cells (bcs pg) 5), cell_alloc HB.out.2.1 (.cells (bcs pg) 5), cell_alloc HB.out.2.2.1 (.cells (bcs pg) 5), cell_alloc HB.out.2.2.2 (.cells (bcs pg) 5)⟩)
    have HK := Lib.hid (show Kp w y W2 y from hW2 ▸ K1.out.trans (Kp.same (((Fr.alloc (F := y.foot) (w.alloc (.cells cs 35)) (.cells (bcs pg) 5))).drew)))
    have hng : w.heap.size < W2.heap.size ∧ ¬ y.foot w.heap.size := ⟨lt_of_cell HE.out.1, HG.out.2⟩
    have HW := Lib.hid (fun (w' : World) (y' : Lay) (k : Kp W2 y w' y') (j : Nat) (v : Value) (hc : W2.cell? ⟨w.heap.size, j, none⟩ = some v) =>
      show w'.cell? ⟨w.heap.size, j, none⟩ = some v from (World.cell?_of_block (w := W2) (a := ⟨w.heap.size, j, none⟩) (k.free hng.1 hng.2).2).trans hc)
    rw [← hW2] at HPG HWR
    clear hng hW2
    go_enter Try.func14, Try.ntmps14
    go_wp2_with fail
    go_region_held3 (fun w' => w'.cell? ⟨w.heap.size, 1, none⟩ = some (.int .i64 a.at') ∧ w'.cell? ⟨w.heap.size, 2, none⟩ = some (.int .u8 (a.b : Int)) ∧ w'.cell? ⟨w.heap.size, 3, none⟩ = some (.int .u8 (a.c : Int)) ∧ w'.cell? ⟨w.heap.size, 4, none⟩ = some (.int .u8 (a.s : Int)))
      (first | exact HD.out | exact HE.out | exact HF.out)
      (first
        | (go_at_call 27; refine HPG.out.mono ?_; rintro e w2 ⟨rfl, rfl⟩)
        | (go_at_call 26; refine HWR.out.mono ?_; rintro e w3 ⟨rfl, y3, s3, k3⟩; have S3 := Lib.hid s3; have K3 := Lib.hid (HK.out.trans k3); have HF := Lib.hid (And.intro (HW.out _ _ k3 1 _ HE.out.1) (And.intro (HW.out _ _ k3 2 _ HE.out.2.1) (And.intro (HW.out _ _ k3 3 _ HE.out.2.2.1) (HW.out _ _ k3 4 _ HE.out.2.2.2)))); clear s3 k3))
    go_wp2_with fail
    go_ret
    exact ⟨rfl, y3, S3.out, K3.out⟩
  · have e1 : d.ansA a = d.ansF := by unfold Dsk.ansA; rw [← HQ.out]; rfl
    have e2 : d.doA a = d.doF := by unfold Dsk.doA; rw [← HQ.out]; rfl
    rw [e1, e2]
    clear e1 e2
    go_enter Try.func14, Try.ntmps14
    go_wp2_with fail
    refine (S1.out.flush (by have := HM.out; omega)).mono ?_
    rintro e w2 ⟨rfl, y2, s2, k2⟩
    have S2 := Lib.hid (s2.more (show m ≤ m + 2 by omega))
    have K2 := Lib.hid (K1.out.trans k2)
    clear s2 k2
    go_wp2_with fail
    go_ret
    exact ⟨rfl, y2, S2.out, K2.out⟩
  · have e1 : d.ansA a = 0 := by unfold Dsk.ansA; rw [← HQ.out]; rfl
    have e2 : d.doA a = d.fuseTo a.at' := by unfold Dsk.doA; rw [← HQ.out]; rfl
    rw [e1, e2]
    clear e1 e2
    go_enter Try.func14, Try.ntmps14
    go_wp2_with fail
    refine (S1.out.fuse a.at' OK.out.m).mono ?_
    rintro e w2 ⟨rfl, s2, k2⟩
    have S2 := Lib.hid (s2.more (show m ≤ m + 2 by omega))
    have K2 := Lib.hid (K1.out.trans k2)
    clear s2 k2
    go_wp2_with fail
    go_ret
    exact ⟨rfl, y, S2.out, K2.out⟩
  · have e1 : d.ansA a = 0 := by unfold Dsk.ansA; rw [← HQ.out]; rfl
    have e2 : d.doA a = { d with dead := true } := by unfold Dsk.doA; rw [← HQ.out]; rfl
    rw [e1, e2]
    clear e1 e2
    go_enter Try.func14, Try.ntmps14
    go_wp2_with fail
    refine (S1.out.kill).mono ?_
    rintro e w2 ⟨rfl, s2, k2⟩
    have S2 := Lib.hid (s2.more (show m ≤ m + 2 by omega))
    have K2 := Lib.hid (K1.out.trans k2)
    clear s2 k2
    go_wp2_with fail
    go_ret
    exact ⟨rfl, y, S2.out, K2.out⟩
  · have e1 : d.ansA a = 0 := by unfold Dsk.ansA; rw [← HQ.out]; rfl
    have e2 : d.doA a = d.restart a.fates := by unfold Dsk.doA; rw [← HQ.out]; rfl
    rw [e1, e2]
    clear e1 e2
    go_enter Try.func14, Try.ntmps14
    go_wp2_with fail
    refine (S1.out.restart (by have := HM.out; omega) a.FA a.fc a.fn a.fates (OK.out.fr.more (Nat.le_trans S1.out.base S1.out.bel.size)) OK.out.fl (fun h0 x hx hf => ?_)).mono ?_
    · have h1 := S1.out.low _ hf
      obtain ⟨b, o, e, hb, _⟩ := OK.out.fr.2.2.2 h0
      rw [hx] at e
      injection e with e
      subst e
      exact absurd h1 (Nat.not_le_of_lt hb)
    rintro e w2 ⟨rfl, y2, s2, k2⟩
    have S2 := Lib.hid (s2.more (show m ≤ m + 2 by omega))
    have K2 := Lib.hid (K1.out.trans k2)
    clear s2 k2
    go_wp2_with fail
    go_ret
    exact ⟨rfl, y2, S2.out, K2.out⟩
  · have e1 : d.ansA a = if d.dead then 9 else 1 := by unfold Dsk.ansA; rw [← HQ.out]; rfl
    have e2 : d.doA a = d := by unfold Dsk.doA; rw [← HQ.out]; rfl
    rw [e1, e2]
    clear e1 e2
    have kb0 := OK.out.bb
    have hmk := makeN a.b kb0
    obtain ⟨W2, hW2⟩ : ∃ W2, W2 = ((w.alloc (.cells cs 35)).alloc (.cells (madeCells #[.int .u8 0] a.b) 5)).drew := ⟨_, rfl⟩
    have SD : St B W W2 db y d m := hW2 ▸ (S1.out.alloc (.cells (madeCells #[.int .u8 0] a.b) 5)).keep (Below.refl _ _).drew
    have HWR := Lib.hid (SD.writeBad a.at' (some ⟨w.heap.size + 1, 0, none⟩) a.b a.b (by omega))
    have HD := Lib.hid (show (w.alloc (.cells cs 35)).drew.cell? ⟨w.heap.size, 1, none⟩ = some (.int .i64 a.at') ∧ (w.alloc (.cells cs 35)).drew.cell? ⟨w.heap.size, 2, none⟩ = some (.int .u8 (a.b : Int)) from ⟨HB.out.1, HB.out.2.1⟩)
    have HE := Lib.hid (show W2.cell? ⟨w.heap.size, 1, none⟩ = some (.int .i64 a.at') ∧ W2.cell? ⟨w.heap.size, 2, none⟩ = some (.int .u8 (a.b : Int)) from
      hW2 ▸ ⟨cell_alloc HB.out.1 _, cell_alloc HB.out.2.1 _⟩)
    have HK := Lib.hid (show Kp w y W2 y from hW2 ▸ K1.out.trans (Kp.same (((Fr.alloc (F := y.foot) (w.alloc (.cells cs 35)) _)).drew)))
    have hng : w.heap.size < W2.heap.size ∧ ¬ y.foot w.heap.size := ⟨lt_of_cell HE.out.1, HG.out.2⟩
    have HW := Lib.hid (fun (w' : World) (y' : Lay) (k : Kp W2 y w' y') (j : Nat) (v : Value) (hc : W2.cell? ⟨w.heap.size, j, none⟩ = some v) =>
      show w'.cell? ⟨w.heap.size, j, none⟩ = some v from (World.cell?_of_block (w := W2) (a := ⟨w.heap.size, j, none⟩) (k.free hng.1 hng.2).2).trans hc)
    have HV := Lib.hid hW2.symm
    obtain ⟨an, han⟩ : ∃ an, an = (if d.dead = true then (9 : Int) else 1) := ⟨_, rfl⟩
    rw [← han] at HWR ⊢
    generalize a.b = bn at hmk HWR HD HE HV g2
    have HN := Lib.hid (show (0 : Int) ≤ (bn : Int) by omega)
    clear hng hW2 kb0 SD han
    go_enter Try.func14, Try.ntmps14
    go_wp2_with fail
    go_region_held3 (fun w' => w'.cell? ⟨w.heap.size, 1, none⟩ = some (.int .i64 a.at') ∧ w'.cell? ⟨w.heap.size, 2, none⟩ = some (.int .u8 (bn : Int)))
      (first | exact HD.out | exact HE.out | (rw [HV.out]; exact HE.out) | exact HF.out)
      (first
        | (go_at_call 26; rw [HV.out]; refine HWR.out.mono ?_; rintro e w3 ⟨rfl, s3, k3⟩; have S3 := Lib.hid (s3.more (show m ≤ m + 2 by omega)); have K3 := Lib.hid (HK.out.trans k3); have HF := Lib.hid (And.intro (HW.out _ _ k3 1 _ HE.out.1) (HW.out _ _ k3 2 _ HE.out.2)); clear s3 k3))
    go_wp2_with fail
    go_ret
    exact ⟨rfl, y, S3.out, K3.out⟩
  · have e1 : d.ansA a = d.ref a.at' := by unfold Dsk.ansA; rw [← HQ.out]; rfl
    have e2 : d.doA a = d := by unfold Dsk.doA; rw [← HQ.out]; rfl
    rw [e1, e2]
    clear e1 e2
    go_enter Try.func14, Try.ntmps14
    go_wp2_with fail
    refine (S1.out.read a.at').mono ?_
    rintro e w2 ⟨v, rfl, _, _, s2, b2⟩
    have S2 := Lib.hid (s2.more (show m ≤ m + 2 by omega))
    have K2 := Lib.hid (K1.out.trans (Kp.ofBelow y b2))
    clear s2 b2
    go_wp2_with fail
    go_ret
    exact ⟨rfl, y, S2.out, K2.out⟩
end Go.Proofs.Ytpnnakjffcohoaa
