import Derived.Test.YtnpebfolmdbipaaGreatDoorDC
import Derived.Lib.SliceRun
namespace Go.Proofs.YtnpebfolmdbipaaGreatDoor.Dk
set_option maxRecDepth 8000
set_option linter.unusedVariables false
set_option linter.unusedSimpArgs false
open Go.RowKit Mem Go.ChangeMaps
variable {w : World} {db : Nat} {y : Lay} {d : Dsk}

theorem eql_sl (x : Option (Nat × Nat)) (W : World) : (binOp .eql 36 (sl x) (.slice none 0 0)).run Tryz.prog W = .ok (.bool x.isNone) W := by
  rcases x with _ | ⟨b, c⟩
  · exact Lib.run_eql_slice_nil (P := Tryz.prog) W 36 5 none 0 0 0 0 Tryz.underlying36
  · exact Lib.run_eql_slice_nil (P := Tryz.prog) W 36 5 _ _ _ 0 0 Tryz.underlying36

theorem run_cut (fr b c : Nat) (hc : fr + 512 ≤ c) (W : World) : (Instr.sliceAt 36 (.slice (some ⟨b, 0, none⟩) 4096 c) (some (.int .i64 (fr : Int))) (some (.int .i64 ((fr : Int) + 512))) none).run Tryz.prog W = .ok (.slice (some ⟨b, fr, none⟩) 512 (c - fr)) W := by
  have f1 : ((fr : Int) + 512).toNat = fr + 512 := by omega
  have f2 : (fr : Int) + 512 ≤ (c : Int) := by omega
  have f3 : ¬ (c = fr) := by omega
  have f4 : (0 : Int) ≤ (fr : Int) + 512 := by omega
  have f5 : fr + 512 - fr = 512 := by omega
  have f6 : (fr : Int) ≤ (fr : Int) + 512 := by omega
  go_simp

set_option maxHeartbeats 2000000 in
theorem tear_any (h : IsD w db y d) (p : Nat) (f : Int) (hp : p < d.n) (hw : d.wait p ≠ none) :
    Calls Tryz.prog 68 #[ptr db, .int .i64 p, .int .i64 f] w fun e w' => e = .returned (.tuple #[]) ∧ ∃ y', IsD w' db y' (d.torn p f) ∧ Kp w y w' y' ∧ y'.m = y.m ∧ y'.ov = y.ov := by
  have c0 := h.c0
  have n2 := h.n2
  have hcell := h.lasts.cell hp
  have hfz := h.lasts.frozen p
  have hpn : (p : Int) < (d.n : Int) := by omega
  have he := eql_sl (y.L p)
  have hmp := makePage
  have H := Lib.hid h
  have HW := Lib.hid hw
  have HP := Lib.hid hp
  have HL := Lib.hid (show y.L p = y.L p from rfl)
  clear h hw hp
  obtain ⟨x, hx⟩ : ∃ x, x = y.L p := ⟨_, rfl⟩
  rw [← hx] at he hcell
  have HX := Lib.hid hx
  clear hx
  obtain ⟨v15, hv⟩ : ∃ v, v = sl x := ⟨_, rfl⟩
  rw [← hv] at he
  have hq : ∀ W, Sem.run Tryz.prog (eqGuard BinOp.eql 36 (Operand.tmp 15) (Operand.const (Value.slice none 0 0)) v15 (Value.slice none 0 0)) W = .ok () W := fun W => by
    rw [hv]; rcases x with _ | ⟨b, c⟩ <;> simp [sl, eqGuard]
  have hcell' : w.cell? ⟨y.lb, p, none⟩ = some v15 := by rw [hv, HX.out]; exact H.out.lasts.cell HP.out
  have HV := Lib.hid hv
  clear hcell hv HL
  go_enter Tryz.func68, Tryz.ntmps68
  go_upto_if 16 with fail
  go_cut [] (fun wz => Hid (∃ y1 b c, IsD wz db y1 d ∧ Kp w y wz y1 ∧ y1.m = y.m ∧ y1.ov = y.ov ∧ y1.L p = some (b, c)))
  case first =>
    rcases x with _ | ⟨b, c⟩
    · have h1 := Lib.hid (H.out.drew.grow HP.out HX.out.symm)
      have z1 := cell_alloc c0 (.cells (bcs zpage) 5)
      have z2 := cell_alloc hcell' (.cells (bcs zpage) 5)
      have z3 : (w.alloc (.cells (bcs zpage) 5)).frozen? ⟨y.lb, p, none⟩ = false := (World.frozen?_of_block (w := w) (Below.heap_alloc _ _ _ (lt_of_cell hcell'))).trans hfz
      go_wp2
      go_region
      all_goals
        go_wp2_with fail
        go_meet
        case rel =>
          obtain ⟨y', i1, i2, i3, i4, i5, i6, i7⟩ := h1.out
          exact ⟨y', _, _, i1, (Kp.same (Fr.refl _ _).drew : Kp w y w.drew y).trans i2, i3, i5, i7⟩
    · go_wp2
      go_meet
      case rel => exact ⟨y, b, c, H.out, Kp.refl _ _, rfl, rfl, HX.out.symm⟩
  case rest =>
    obtain ⟨y1, b, c, hD1, hK1, hm1, hov1, hL1⟩ := hcut.out
    have HW2 : ∃ b' c', y1.M p = some (b', c') := by
      have := hD1.waitOk p HP.out
      rcases hM : y1.M p with _ | ⟨b', c'⟩
      · rcases hW : d.wait p with _ | l
        · exact absurd hW HW.out
        · rw [hM, hW] at this; exact this.elim
      · exact ⟨b', c', rfl⟩
    obtain ⟨b', c', hM⟩ := HW2
    have q1 := Lib.hid hD1
    have q2 := Lib.hid hK1
    have q3 := Lib.hid (And.intro hm1 hov1)
    have q4 := Lib.hid hL1
    have q5 := Lib.hid hM
    clear hD1 hK1 hm1 hov1 hL1 hM he hq hcell' hfz c0 hmp hcut
    go_wp2
    go_loopw [24] (fun v wr => ∃ k : Nat, k ≤ 8 ∧ v = .int .i64 k ∧ Hid (IsD wr db y1 (d.tornTo p f k)) ∧ Hid (Kp w y wr y1)) (fun v _ => 8 - (intOf v).toNat)
    case atStart =>
      refine ⟨0, by omega, rfl, ?_, q2.out⟩
      have : d.tornTo p f 0 = d := by
        unfold Dsk.tornTo tornTo
        have : (fun j => if j = p then d.last p else d.last j) = d.last := funext fun j => by split <;> simp_all
        rw [this]
      rw [this]; exact q1.out
    case round =>
      obtain ⟨k, hk, rfl, hD, hK⟩ := hrel
      by_cases hlt : k < 8
      · have c0 : wr.cell? ⟨db, 0, none⟩ = some (.slice (some ⟨y1.lb, 0, none⟩) d.n d.n) := hD.out.c0
        have c1 := hD.out.c1
        have hcell := hD.out.lasts.cell (i := p) HP.out
        rw [q4.out] at hcell
        have hlk := (hD.out.drew.waits.look Tryz.underlying83 (zero42 _) p (by omega))
        rw [q5.out] at hlk
        simp only [sl, Option.map_some, Option.getD_some] at hcell hlk
        have hl0 : (d.last p).length = 4096 := q1.out.lastLen p HP.out
        have hw0 : (d.page p).length = 4096 := by
          unfold Dsk.page
          rcases hW : d.wait p with _ | l
          · exact hl0
          · exact q1.out.waitLen p l HP.out hW
        have ho := hD.out.lastOk p HP.out
        rw [q4.out] at ho
        have ho' := hD.out.waitOk p HP.out
        rw [q5.out] at ho'
        have hlen := Lib.hid (tornTo_len f (d.last p) (d.page p) hl0 hw0 k hk)
        by_cases hb : bit f k = true
        · have hd2 : d.tornTo p f (k + 1) = { d.tornTo p f k with last := fun j => if j = p then splice (tornTo f (d.last p) (d.page p) k) (512 * k) (((d.page p).drop (512 * k)).take 512) else (d.tornTo p f k).last j } := by
            unfold Dsk.tornTo
            simp only [tornTo, hb, if_true]
            congr 1
            funext j
            split <;> simp_all
          have hown : Own 5 wr.drew 0 (.slice (some ⟨b, 0, none⟩) 4096 c) (tornTo f (d.last p) (d.page p) k) := by
            have e1 : (d.tornTo p f k).last p = tornTo f (d.last p) (d.page p) k := if_pos rfl
            have := ho.2
            rw [e1] at this
            exact this
          have hown' : Own 5 wr.drew 0 (.slice (some ⟨b', 0, none⟩) 4096 c') (d.page p) := by
            unfold Dsk.page
            rcases hW : d.wait p with _ | l
            · exact absurd hW HW.out
            · have e1 : (d.tornTo p f k).wait p = some l := hW
              rw [e1] at ho'
              exact ho'.2
          obtain ⟨w', hcp, hf', hs', ho''⟩ := copySector wr.drew 3 b c b' c' (tornTo f (d.last p) (d.page p) k) (d.page p) hown hown' k hlt (c - 512 * k) (c' - 512 * k)
          obtain ⟨_, hc4, hcm, _⟩ := own_parts hown
          obtain ⟨_, hc4', hcm', _⟩ := own_parts hown'
          have hsl : (splice (tornTo f (d.last p) (d.page p) k) (512 * k) (((d.page p).drop (512 * k)).take 512)).length = 4096 := by
            rw [length_splice]
            · exact hlen.out
            · rw [hlen.out]; simp [hw0]; omega
          have hN := Lib.hid (hD.out.drew.setLast (l := splice (tornTo f (d.last p) (d.page p) k) (512 * k) (((d.page p).drop (512 * k)).take 512)) HP.out q4.out hsl hf' hs' ho'')
          rw [← hd2] at hN
          have hb' : f / 2 ^ k % 2 = 1 := by simpa [bit] using hb
          have hand := i64_and1
          clear ho ho' hl0 hw0 hlen hd2 hb hD hown hown' hf' hs' ho'' hsl
          obtain ⟨fr, hfr⟩ : ∃ fr : Nat, fr = 512 * k := ⟨_, rfl⟩
          have hcp' : (Builtin.copy_ #[36, 36] 3 #[.slice (some ⟨b, fr, none⟩) 512 (c - fr), .slice (some ⟨b', fr, none⟩) 512 (c' - fr)]).run Tryz.prog wr.drew = .ok (.int .i64 512) w' := by rw [hfr]; exact hcp
          clear hcp
          have e1 : (k : Int) * 512 = (fr : Int) := by omega
          have e2 : ((k : Int) + 1) * 512 = (fr : Int) + 512 := by omega
          have s1 := run_cut fr b c (by omega)
          have s2 := run_cut fr b' c' (by omega)
          have HFR := Lib.hid hfr
          clear hfr
          go_wp2
          go_still_tail 19, (by kernel_rfl)
          change wpList _ _ _ _ _ wr.drew
          go_wp2
          go_roundw
          case rel => exact ⟨k + 1, by omega, by go_num, hN.out.1, hK.out.trans ((Kp.same (Fr.refl _ _).drew : Kp wr y1 wr.drew y1).trans hN.out.2)⟩
          case measure => simp [intOf]; omega
        · have hd2 : d.tornTo p f (k + 1) = d.tornTo p f k := by
            unfold Dsk.tornTo
            simp only [tornTo, hb]
            rfl
          have hb' : ¬ f / 2 ^ k % 2 = 1 := by simpa [bit] using hb
          have hand := i64_and1
          have hD' := Lib.hid (hd2 ▸ hD.out)
          clear c0 c1 hcell hlk ho ho' hl0 hw0 hlen hd2 hb hD
          go_wp2
          go_roundw
          case rel => exact ⟨k + 1, by omega, by go_num, hD'.out, hK.out⟩
          case measure => simp [intOf]; omega
      · obtain rfl : k = 8 := by omega
        go_wp2
        go_end0
        exact ⟨rfl, y1, hD.out, hK.out, q3.out.1, q3.out.2⟩
end Go.Proofs.YtnpebfolmdbipaaGreatDoor.Dk
