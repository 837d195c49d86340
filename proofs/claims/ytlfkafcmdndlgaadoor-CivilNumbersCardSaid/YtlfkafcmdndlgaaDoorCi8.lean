import Derived.Test.YtlfkafcmdndlgaaDoorCi7
namespace Go.Proofs.YtlfkafcmdndlgaaDoor.Ci
open Go.RowKit Mem

theorem st_extract (l : List UInt8) (a b : Nat) : (st l).extract a b = st ((l.drop a).take (b - a)) := by
  apply ByteArray.ext; apply Array.toList_inj.1; simp [st, ByteArray.data_extract, List.take_drop]
  first | done | (rw [List.drop_take])
theorem cut_to (l : List UInt8) (h : l.length = 10) (W : World) : (Instr.slice 9 (.string (st l)) none (some (.int .i64 4)) none).run Tryd.prog W = .ok (.string (st (l.take 4))) W := by
  have hs : (st l).size = 10 := by rw [st_size, h]
  have := st_extract l 0 4
  simp only [List.drop_zero, Nat.sub_zero] at this
  rw [run_slice_string_to_if W 9 (st l) .i64 4 Tryd.underlying9, hs, if_pos (by decide)]
  show Result.ok (Value.string ((st l).extract 0 4)) W = _
  rw [this]
theorem cut_mid (l : List UInt8) (h : l.length = 10) (W : World) : (Instr.slice 9 (.string (st l)) (some (.int .i64 5)) (some (.int .i64 7)) none).run Tryd.prog W = .ok (.string (st ((l.drop 5).take 2))) W := by
  have hs : (st l).size = 10 := by rw [st_size, h]
  have := st_extract l 5 7
  rw [run_slice_string W 9 (st l) .i64 .i64 5 7 Tryd.underlying9 (by decide) (by decide) (by rw [hs]; decide)]
  show Result.ok (Value.string ((st l).extract 5 7)) W = _
  rw [this]
theorem cut_from (l : List UInt8) (h : l.length = 10) (W : World) : (Instr.slice 9 (.string (st l)) (some (.int .i64 8)) none none).run Tryd.prog W = .ok (.string (st (l.drop 8))) W := by
  have hs : (st l).size = 10 := by rw [st_size, h]
  have := st_extract l 8 10
  rw [List.take_of_length_le (by simp [h])] at this
  rw [run_slice_string_from_if W 9 (st l) .i64 8 Tryd.underlying9, hs, if_pos (by decide)]
  show Result.ok (Value.string ((st l).extract 8 10)) W = _
  rw [this]
theorem grows_to {l : List UInt8} {v : Int} {w V : World} (HL : ∀ W, Below w.heap.size w W → Lw W) (BV : Below w.heap.size w V) (n : ∀ W, Lw W → Calls Tryd.prog 36 #[.string (st l)] W fun e w' => e = .returned (.int .i64 v) ∧ Below W.heap.size W w') (W : World) (hW : Below V.heap.size V W) :
    Calls Tryd.prog 36 #[.string (st l)] W fun e w' => e = .returned (.int .i64 v) ∧ Below V.heap.size V w' ∧ (∀ b o, b < W.heap.size → w'.cell? ⟨b, o, none⟩ = W.cell? ⟨b, o, none⟩) ∧ (∀ b o, b < W.heap.size → w'.frozen? ⟨b, o, none⟩ = W.frozen? ⟨b, o, none⟩) ∧ (∀ b, b < W.heap.size → b < w'.heap.size) ∧ V.heap.size ≤ w'.heap.size :=
  (n W (HL W (BV.trans (hW.mono BV.size)))).mono fun _ _ ⟨a, hb⟩ => ⟨a, hW.trans (hb.mono hW.size), (bcell hb).1, (bcell hb).2, fun _ h => Nat.lt_of_lt_of_le h hb.size, Nat.le_trans hW.size hb.size⟩
/-- The date's block. -/
def PRel (l : List UInt8) (w V : World) (a b c d : Value) (W : World) : Prop :=
  ∃ kb : Nat, a = .string (st l) ∧ b = .pointer (some ⟨w.heap.size, 0, none⟩) ∧ c = .int .i64 0 ∧ d = .pointer (some ⟨kb, 0, none⟩) ∧ Below V.heap.size V W ∧
    (W.cell? ⟨kb, 0, none⟩ = some (.int .i64 (yOf l)) ∧ W.cell? ⟨kb, 1, none⟩ = some (.int .i64 (mOf l)) ∧ W.cell? ⟨kb, 2, none⟩ = some (.int .i64 (dOf l)))
theorem three {X : World} {kb : Nat} {a b c x y z : Value} (h0 : X.cell? ⟨kb, 0, none⟩ = some x) (h1 : X.cell? ⟨kb, 1, none⟩ = some y) (h2 : X.cell? ⟨kb, 2, none⟩ = some z) :
    (((X.setCell ⟨kb, 0, none⟩ a).setCell ⟨kb, 1, none⟩ b).setCell ⟨kb, 2, none⟩ c).cell? ⟨kb, 0, none⟩ = some a ∧ (((X.setCell ⟨kb, 0, none⟩ a).setCell ⟨kb, 1, none⟩ b).setCell ⟨kb, 2, none⟩ c).cell? ⟨kb, 1, none⟩ = some b ∧ (((X.setCell ⟨kb, 0, none⟩ a).setCell ⟨kb, 1, none⟩ b).setCell ⟨kb, 2, none⟩ c).cell? ⟨kb, 2, none⟩ = some c := by
  refine ⟨?_, ?_, ?_⟩ <;> simp [go_sem, h0, h1, h2, World.cell?_setCell_other]
theorem rel3 {V X : World} {kb : Nat} {a b c x y z : Value} (hB : Below V.heap.size V X) (hk : V.heap.size ≤ kb) (h0 : X.cell? ⟨kb, 0, none⟩ = some x) (h1 : X.cell? ⟨kb, 1, none⟩ = some y) (h2 : X.cell? ⟨kb, 2, none⟩ = some z) :
    Below V.heap.size V (((X.setCell ⟨kb, 0, none⟩ a).setCell ⟨kb, 1, none⟩ b).setCell ⟨kb, 2, none⟩ c) ∧ ((((X.setCell ⟨kb, 0, none⟩ a).setCell ⟨kb, 1, none⟩ b).setCell ⟨kb, 2, none⟩ c).cell? ⟨kb, 0, none⟩ = some a ∧ (((X.setCell ⟨kb, 0, none⟩ a).setCell ⟨kb, 1, none⟩ b).setCell ⟨kb, 2, none⟩ c).cell? ⟨kb, 1, none⟩ = some b ∧ (((X.setCell ⟨kb, 0, none⟩ a).setCell ⟨kb, 1, none⟩ b).setCell ⟨kb, 2, none⟩ c).cell? ⟨kb, 2, none⟩ = some c) :=
  ⟨((hB.setCell hk _).setCell hk _).setCell hk _, three h0 h1 h2⟩
theorem st_toList (l : List UInt8) : (st l).toList = l := by rw [ByteArray.toList_eq]; simp [st]
theorem str_eq (l : List UInt8) : ∀ W, (binOp .neq 9 (.string (st l)) (.string (st l))).run Tryd.prog W = .ok (.bool false) W := fun W => by go_simp
theorem str_ne {a b : List UInt8} (h : a ≠ b) : ((st a).toList == (st b).toList) = false := by
  rw [st_toList, st_toList]; simpa using h
theorem str_nil {l : List UInt8} (h : l.length = 10) : (([] : List UInt8) == (st l).toList) = false := by
  rw [st_toList]; cases l <;> simp at h ⊢
/-- What Parse answers. -/
def rdV (l : List UInt8) : Value := if readB l = true then .tuple #[.agg #[.int .i64 (yOf l), .int .i64 (mOf l), .int .i64 (dOf l)], .int .i64 0] else .tuple #[.agg #[.int .i64 0, .int .i64 0, .int .i64 0], .int .i64 21]

set_option maxHeartbeats 4000000 in
theorem parse_ten (l : List UInt8) (w : World) (hw : Lw w) (h : l.length = 10) :
    Calls Tryd.prog 27 #[.string (st l)] w fun e w' => e = .returned (rdV l) ∧ Below w.heap.size w w' := by
  have hs := hw.size
  have HL := Lib.hid (fun W (h : Below w.heap.size w W) => hw.below h (Nat.le_refl _)); clear hw
  have hsz : (st l).size = 10 := by rw [st_size, h]
  have r1 := cut_to l h; have r2 := cut_mid l h; have r3 := cut_from l h
  have e1 : (l.take 4).length ≤ 4 := by simp; omega
  have e2 : ((l.drop 5).take 2).length ≤ 4 := by simp; omega
  have e3 : (l.drop 8).length ≤ 4 := by simp; omega
  have N1 := Lib.hid fun W hW => number_any (l.take 4) W hW e1
  have N2 := Lib.hid fun W hW => number_any ((l.drop 5).take 2) W hW e2
  have N3 := Lib.hid fun W hW => number_any (l.drop 8) W hW e3
  clear e1 e2 e3
  obtain ⟨p1, hp1⟩ : ∃ p, l.take 4 = p := ⟨_, rfl⟩
  obtain ⟨p2, hp2⟩ : ∃ p, (l.drop 5).take 2 = p := ⟨_, rfl⟩
  obtain ⟨p3, hp3⟩ : ∃ p, l.drop 8 = p := ⟨_, rfl⟩
  have P1 := Lib.hid (show numOf p1 = yOf l by rw [← hp1]; rfl)
  have P2 := Lib.hid (show numOf p2 = mOf l by rw [← hp2]; rfl)
  have P3 := Lib.hid (show numOf p3 = dOf l by rw [← hp3]; rfl)
  rw [hp1] at r1 N1; rw [hp2] at r2 N2; rw [hp3] at r3 N3
  rw [P1.out] at N1; rw [P2.out] at N2; rw [P3.out] at N3
  clear hp1 hp2 hp3 P1 P2 P3
  have HH := Lib.hid h; clear h
  go_enter Tryd.func27, Tryd.ntmps27
  go_wp2_with fail
  have B0 := (Below.refl w.heap.size w).alloc (Nat.le_refl _) (.cells #[.int .i64 0, .int .i64 0, .int .i64 0] 23)
  obtain ⟨V, hV⟩ : ∃ V, w.alloc (.cells #[.int .i64 0, .int .i64 0, .int .i64 0] 23) = V := ⟨_, rfl⟩
  have q0 : V.cell? ⟨w.heap.size, 0, none⟩ = some (.int .i64 0) := by rw [← hV]; simp
  have q1 : V.cell? ⟨w.heap.size, 1, none⟩ = some (.int .i64 0) := by rw [← hV]; simp
  have q2 : V.cell? ⟨w.heap.size, 2, none⟩ = some (.int .i64 0) := by rw [← hV]; simp
  have f0 : ∀ o, V.frozen? ⟨w.heap.size, o, none⟩ = false := fun o => by rw [← hV]; simp
  have hz : w.heap.size < V.heap.size := by rw [← hV]; simp
  rw [hV] at B0 ⊢
  clear hV
  have BV := Lib.hid B0; clear B0
  have N1 := Lib.hid (grows_to HL.out BV.out N1.out)
  have N2 := Lib.hid (grows_to HL.out BV.out N2.out)
  have N3 := Lib.hid (grows_to HL.out BV.out N3.out)
  go_upto_region 3 with fail
  go_cut [0, 2, 3, 4] (fun a b c d W => PRel l w V a b c d W)
  case first =>
    have hVd : ∀ o, V.heap.size < (V.alloc o).drew.heap.size := fun o => by show _ < (V.alloc o).heap.size; simp
    have hVc : ∀ o a, (V.alloc o).drew.cell? a = (V.alloc o).cell? a := fun _ _ => rfl
    have hVf : ∀ o a, (V.alloc o).drew.frozen? a = (V.alloc o).frozen? a := fun _ _ => rfl
    go_region_with (first
      | (go_at_call 36; (first | (with_reducible refine (N1.out _ ?_).mono ?_) | (with_reducible refine (N2.out _ ?_).mono ?_) | (with_reducible refine (N3.out _ ?_).mono ?_)); (first | exact (Below.refl _ _).drew | exact hB | exact ((Below.refl _ _).alloc (Nat.le_refl _) _).drew | exact hB.alloc hB.size _); rintro e w2 ⟨rfl, hB, hc, hf, hz2, hs2⟩; (try have hl := hz2 _ (hVd _)); (try have hl := hz2 _ hl)))
    all_goals
      have hVd' : ∀ b, b < V.heap.size → b < V.drew.heap.size := fun _ h => h
      have hVc' : ∀ a, V.drew.cell? a = V.cell? a := fun _ => rfl
      have hVf' : ∀ a, V.drew.frozen? a = V.frozen? a := fun _ => rfl
      go_wp2_with fail
      go_meet
      case rel =>
        refine ⟨_, rfl, rfl, rfl, rfl, ?_⟩
        first
        | (refine rel3 (x := .int .i64 0) (y := .int .i64 0) (z := .int .i64 0) hB ?_ ?_ ?_ ?_ <;> first | omega | (simp (config := { maxDischargeDepth := 8 }) [*]; done))
        | exact ⟨hB.alloc hB.size _, by simp, by simp, by simp⟩
  case rest =>
    obtain ⟨kb, rfl, rfl, rfl, rfl, hB, k0, k1, k2⟩ := hcut
    have p0 : wc.cell? ⟨w.heap.size, 0, none⟩ = some (.int .i64 0) := ((bcell hB).1 _ _ hz).trans q0
    have p1 : wc.cell? ⟨w.heap.size, 1, none⟩ = some (.int .i64 0) := ((bcell hB).1 _ _ hz).trans q1
    have p2 : wc.cell? ⟨w.heap.size, 2, none⟩ = some (.int .i64 0) := ((bcell hB).1 _ _ hz).trans q2
    have g0 : wc.frozen? ⟨w.heap.size, 0, none⟩ = false := ((bcell hB).2 _ _ hz).trans (f0 0)
    have g1 : wc.frozen? ⟨w.heap.size, 1, none⟩ = false := ((bcell hB).2 _ _ hz).trans (f0 1)
    have g2 : wc.frozen? ⟨w.heap.size, 2, none⟩ = false := ((bcell hB).2 _ _ hz).trans (f0 2)
    have zc : w.heap.size < wc.heap.size := by have := hB.size; omega
    have BC := Lib.hid (BV.out.trans (hB.mono BV.out.size))
    have kc : kb < wc.heap.size := World.block_lt_of_cell? _ _ k0
    clear q0 q1 q2 f0 hz hB BV r1 r2 r3 N1 N2 N3
    obtain ⟨y, hy⟩ : ∃ y, yOf l = y := ⟨_, rfl⟩
    obtain ⟨m, hm⟩ : ∃ m, mOf l = m := ⟨_, rfl⟩
    obtain ⟨d, hd⟩ : ∃ d, dOf l = d := ⟨_, rfl⟩
    rw [hy] at k0; rw [hm] at k1; rw [hd] at k2
    have HR := Lib.hid (show rdV l = if vldB y m d = true ∧ txt y m d = l then .tuple #[.agg #[.int .i64 y, .int .i64 m, .int .i64 d], .int .i64 0] else .tuple #[.agg #[.int .i64 0, .int .i64 0, .int .i64 0], .int .i64 21] by
      unfold rdV; have := read_iff l; rw [hy, hm, hd] at this; simp only [this, hy, hm, hd])
    clear hy hm hd
    cases hv : vldB y m d with
    | true =>
      have HV := Lib.hid hv; clear hv
      by_cases ht : txt y m d = l
      · have HT := Lib.hid ht; clear ht
        go_wp2_with fail
        refine (text_yes _ (HL.out _ BC.out) HV.out).mono ?_
        rintro e w3 ⟨rfl, hb⟩
        rw [HT.out]
        have k0 := ((bcell hb).1 _ _ kc).trans k0
        have k1 := ((bcell hb).1 _ _ kc).trans k1
        have k2 := ((bcell hb).1 _ _ kc).trans k2
        have p0 := ((bcell hb).1 _ _ zc).trans p0
        have p1 := ((bcell hb).1 _ _ zc).trans p1
        have p2 := ((bcell hb).1 _ _ zc).trans p2
        have g0 := ((bcell hb).2 _ _ zc).trans g0
        have g1 := ((bcell hb).2 _ _ zc).trans g1
        have g2 := ((bcell hb).2 _ _ zc).trans g2
        have z3 : w.heap.size < w3.heap.size := by have := hb.size; omega
        have B3 := Lib.hid (BC.out.trans (hb.mono BC.out.size))
        have hne := str_eq l
        go_wp2_with fail
        exact bodyPost_ret (v := .tuple #[.agg #[.int .i64 y, .int .i64 m, .int .i64 d], .int .i64 0]) (by simp [results, Tryd.results27, go_sem, p0, p1, p2]) rfl ⟨by rw [HR.out]; rw [if_pos ⟨HV.out, HT.out⟩], (((B3.out.setCell (by simp) _).setCell (by simp) _).setCell (by simp) _)⟩
      · have HT := Lib.hid ht
        have hne := str_ne ht
        clear ht
        go_wp2_with fail
        refine (text_yes _ (HL.out _ BC.out) HV.out).mono ?_
        rintro e w3 ⟨rfl, hb⟩
        have k0 := ((bcell hb).1 _ _ kc).trans k0
        have k1 := ((bcell hb).1 _ _ kc).trans k1
        have k2 := ((bcell hb).1 _ _ kc).trans k2
        have p0 := ((bcell hb).1 _ _ zc).trans p0
        have p1 := ((bcell hb).1 _ _ zc).trans p1
        have p2 := ((bcell hb).1 _ _ zc).trans p2
        have g0 := ((bcell hb).2 _ _ zc).trans g0
        have g1 := ((bcell hb).2 _ _ zc).trans g1
        have g2 := ((bcell hb).2 _ _ zc).trans g2
        have z3 : w.heap.size < w3.heap.size := by have := hb.size; omega
        have B3 := Lib.hid (BC.out.trans (hb.mono BC.out.size))
        go_wp2_with fail
        exact bodyPost_ret (v := .tuple #[.agg #[.int .i64 0, .int .i64 0, .int .i64 0], .int .i64 21]) (by simp [results, Tryd.results27, go_sem, p0, p1, p2]) rfl ⟨by rw [HR.out]; rw [if_neg (fun h => HT.out h.2)], (((B3.out.setCell (by simp) _).setCell (by simp) _).setCell (by simp) _)⟩
    | false =>
        have HV := Lib.hid hv; clear hv
        have hne := str_nil HH.out
        go_wp2_with fail
        refine (text_no _ (HL.out _ BC.out).lens (by omega) HV.out).mono ?_
        rintro e w3 ⟨rfl, hb⟩
        have k0 := ((bcell hb).1 _ _ kc).trans k0
        have k1 := ((bcell hb).1 _ _ kc).trans k1
        have k2 := ((bcell hb).1 _ _ kc).trans k2
        have p0 := ((bcell hb).1 _ _ zc).trans p0
        have p1 := ((bcell hb).1 _ _ zc).trans p1
        have p2 := ((bcell hb).1 _ _ zc).trans p2
        have g0 := ((bcell hb).2 _ _ zc).trans g0
        have g1 := ((bcell hb).2 _ _ zc).trans g1
        have g2 := ((bcell hb).2 _ _ zc).trans g2
        have z3 : w.heap.size < w3.heap.size := by have := hb.size; omega
        have B3 := Lib.hid (BC.out.trans (hb.mono BC.out.size))
        go_wp2_with fail
        exact bodyPost_ret (v := .tuple #[.agg #[.int .i64 0, .int .i64 0, .int .i64 0], .int .i64 21]) (by simp [results, Tryd.results27, go_sem, p0, p1, p2]) rfl ⟨by rw [HR.out]; rw [HV.out, if_neg (fun h => by cases h.1)], (((B3.out.setCell (by simp) _).setCell (by simp) _).setCell (by simp) _)⟩

set_option maxHeartbeats 1000000 in
theorem parse_else (l : List UInt8) (w : World) (h : l.length ≠ 10) (_hm : l.length ≤ 9223372036854775807) :
    Calls Tryd.prog 27 #[.string (st l)] w fun e w' => e = .returned (rdV l) ∧ Below w.heap.size w w' := by
  have hR : readB l = false := by
    cases hr : readB l with
    | false => rfl
    | true => have := ((read_iff l).1 hr).2; exact absurd (by rw [← this, txt_length]) h
  have HR := Lib.hid (show rdV l = .tuple #[.agg #[.int .i64 0, .int .i64 0, .int .i64 0], .int .i64 21] by unfold rdV; rw [hR]; rfl)
  have hsz : (st l).size = l.length := st_size l
  obtain ⟨n, hn⟩ : ∃ n, l.length = n := ⟨_, rfl⟩
  rw [hn] at hsz h _hm
  have hne : ((n : Int) != 10) = true := by simp; omega
  clear hR hn h
  go_enter Tryd.func27, Tryd.ntmps27
  go_wp2_with fail
  exact bodyPost_ret (v := .tuple #[.agg #[.int .i64 0, .int .i64 0, .int .i64 0], .int .i64 21]) (by simp [results, Tryd.results27, go_sem]) rfl ⟨by rw [HR.out], (Below.refl _ _).alloc (Nat.le_refl _) _⟩
theorem parse_any (l : List UInt8) (w : World) (hw : Lw w) (hm : l.length ≤ 9223372036854775807) :
    Calls Tryd.prog 27 #[.string (st l)] w fun e w' => e = .returned (rdV l) ∧ Below w.heap.size w w' := by
  by_cases h : l.length = 10
  · exact parse_ten l w hw h
  · exact parse_else l w h hm
theorem st_data (s : ByteArray) : st s.data.toList = s := by simp [st]
end Go.Proofs.YtlfkafcmdndlgaaDoor.Ci
