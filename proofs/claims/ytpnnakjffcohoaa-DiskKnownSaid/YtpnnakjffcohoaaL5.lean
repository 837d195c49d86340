import Derived.Test.YtpnnakjffcohoaaL4
namespace Go.Proofs.Ytpnnakjffcohoaa
set_option linter.unusedVariables false
set_option linter.unusedSimpArgs false
open Go.RowKit Mem Go.ChangeMaps
variable {w : World}

theorem make512 : ∀ W, (Instr.makeSlice 42 (.int .i64 512) (.int .i64 512)).run Try.prog W = .ok (.slice (some ⟨W.heap.size, 0, none⟩) 512 512) (W.alloc (.cells (madeCells #[.int .u8 0] 512) 5)) := fun W =>
  run_make_row' (P := Try.prog) 42 5 (.int .u8 0) 1 Try.underlying42 u8_info rfl .i64 .i64 512 (by omega) (by omega) W

def k1 (a : List UInt8) : Dsk := (newD 2).doW 1 a
def k2 (a : List UInt8) : Dsk := (k1 a).restart [3]
theorem k0_ans2 : (newD 2).ansW 2 = 1 := by decide
theorem k0_do2 (a : List UInt8) : (newD 2).doW 2 a = newD 2 := by rfl
theorem k0_ans1 : (newD 2).ansW 1 = 0 := by decide
theorem k1_order (a : List UInt8) : (k1 a).order = [1] := rfl
theorem k2_ref (a : List UInt8) : (k2 a).ref 1 = 0 := rfl
theorem k2_page (a : List UInt8) : (k2 a).page 1 = torn 3 zpage a := by
  have l1 : (k1 a).last 1 = zpage := rfl
  have p1 : (k1 a).page 1 = a := rfl
  have i1 : ([1] : List Nat).idxOf? 1 = some 0 := by decide
  show (k2 a).last 1 = _
  rw [k2, restart_last (k1 a) [3] (doW_good (newD_good 2) 1 a), k1_order, i1, l1, p1]
  exact if_pos (by decide)

set_option maxRecDepth 20000 in
set_option maxHeartbeats 4000000 in
theorem diskKnown_walk (w : World) : Calls Try.prog 8 #[] w fun e w' => e = .returned (.bool true) ∧ Below w.heap.size w w' := by
  have h5 := make512
  go_enter Try.func8, Try.ntmps8
  go_wp2_with fail
  refine (new_bad 0 w (by omega)).mono ?_
  rintro e w1 ⟨rfl, rfl⟩
  go_wp2_with fail
  refine (new_bad 4097 _ (by omega)).mono ?_
  rintro e w1 ⟨rfl, rfl⟩
  go_wp2_with fail
  refine (St.new 2 _ (by omega) (by omega)).mono ?_
  rintro e w2 ⟨rfl, s1⟩
  have S1 := Lib.hid s1
  clear s1
  go_wp2_with fail
  refine (page_any 1 1 0 (by omega) (by omega) (by omega) (by omega) (by omega) (by omega) w2).mono ?_
  rintro e w3 ⟨rfl, rfl⟩
  obtain ⟨pq, hpq⟩ : ∃ pq, pq = pageOf (u8 1) (u8 1) ((0 : Int).toNat % 8) := ⟨_, rfl⟩
  have HQ := Lib.hid (show pq.length = 4096 by rw [hpq]; exact pageOf_len _ _ _)
  rw [← hpq]
  clear hpq
  go_wp2_with fail
  refine (S1.out.write 2 pq HQ.out (by omega)).mono ?_
  rintro e w4 ⟨rfl, y4, s4, _⟩
  rw [k0_do2] at s4
  have S4 := Lib.hid s4
  clear s4 S1
  rw [k0_ans2]
  go_wp2_with fail
  refine ((S4.out.alloc (.cells (madeCells #[.int .u8 0] 512) 5)).writeBad 0 _ 512 512 (by omega)).mono ?_
  rintro e w5 ⟨rfl, s5, _⟩
  have S5 := Lib.hid s5
  clear s5 S4
  rw [show (if (newD 2).dead = true then (9 : Int) else 1) = 1 from rfl]
  go_wp2_with fail
  refine (page_any 97 97 0 (by omega) (by omega) (by omega) (by omega) (by omega) (by omega) w5).mono ?_
  rintro e w6 ⟨rfl, rfl⟩
  obtain ⟨pa, hpa⟩ : ∃ pa, pa = pageOf (u8 97) (u8 97) ((0 : Int).toNat % 8) := ⟨_, rfl⟩
  have HA := Lib.hid (show pa.length = 4096 by rw [hpa]; exact pageOf_len _ _ _)
  rw [← hpa]
  have HPA := Lib.hid hpa
  clear hpa
  go_wp2_with fail
  refine (S5.out.write 1 pa HA.out (by omega)).mono ?_
  rintro e w7 ⟨rfl, y7, s7, _⟩
  have S7 := Lib.hid (show St _ _ _ _ _ (k1 pa) _ from s7)
  clear s7 S5
  rw [k0_ans1]
  go_wp2_with fail
  refine (S7.out.waits (by omega)).mono ?_
  rintro e w8 ⟨v, rfl, ho, s8, _⟩
  obtain ⟨A, c, rfl, _, _, _⟩ := ho.form
  rw [k1_order] at ho ⊢
  rw [show (ints [1]).length = 1 from rfl]
  have S8 := Lib.hid s8
  clear s8 S7 ho
  go_wp2_with fail
  have hf := RdI.lit w8 [3] (by decide)
  refine ((S8.out.alloc (.cells #[.int .i64 3] 3)).restart (by omega) _ 1 1 [3] hf rfl (fun _ a e hx => by
    injection e with e; subst e
    exact fresh_not S8.out.is _ (Nat.le_refl _) hx)).mono ?_
  rintro e w9 ⟨rfl, y9, s9, _⟩
  have S9 := Lib.hid (show St _ _ _ _ _ (k2 pa) _ from s9)
  clear s9 S8 hf
  go_wp2_with fail
  refine (S9.out.read 1).mono ?_
  rintro e w10 ⟨v1, rfl, ho, _, s10, hb10⟩
  rw [k2_ref] at ho ⊢
  have ho := ho rfl
  have e0 : (k2 pa).page (1 : Int).toNat = torn 3 zpage pa := k2_page pa
  rw [e0] at ho
  obtain ⟨g, cc, rfl, _, hg, hc⟩ := Own.byte ho (torn_len _ _ _ zpage_len HA.out)
  have hat : ∀ i, i < 4096 → w10.cell? ⟨g, i, none⟩ = some (bv (if bit 3 (i / 512) = true then pageAt (u8 97) (u8 97) ((0 : Int).toNat % 8) i else 0)) := fun i hi => by
    rw [hc i hi, torn_at _ _ _ zpage_len HA.out i hi, zpage_at, HPA.out, pageOf_at _ _ _ _ hi]
  have x0 : w10.cell? ⟨g, 0, none⟩ = some (.int .u8 97) := hat 0 (by omega)
  have x1 : w10.cell? ⟨g, 1023, none⟩ = some (.int .u8 97) := hat 1023 (by omega)
  have x2 : w10.cell? ⟨g, 1024, none⟩ = some (.int .u8 0) := hat 1024 (by omega)
  have x3 : w10.cell? ⟨g, 4095, none⟩ = some (.int .u8 0) := hat 4095 (by omega)
  have HZ := Lib.hid s10.bel
  have HS := Lib.hid HZ.out.size
  clear ho hc hat s10 hb10 S9 e0 hg
  go_wp2_with fail
  refine (goes_any w10).mono ?_
  rintro e w11 ⟨rfl, hb⟩
  have HB := Lib.hid hb
  clear hb
  go_wp2_with fail
  go_ret
  exact ⟨rfl, HZ.out.trans (HB.out.mono HS.out)⟩
end Go.Proofs.Ytpnnakjffcohoaa
