import Derived.Test.YtnpebfolmdbipaaGreatDoorD9
import Derived.Deep.RegionLaw
namespace Go.Proofs.YtnpebfolmdbipaaGreatDoor.Dk
set_option maxRecDepth 8000
set_option linter.unusedVariables false
set_option linter.unusedSimpArgs false
open Go.RowKit Mem Go.ChangeMaps
variable {w : World} {db : Nat} {y : Lay} {d : Dsk}

/-- append, as one step of a region that draws, where its run is known. -/
theorem step_append_run {P : Program} {ops : Array Oper} {o : Oper} {a : Act} {w : World} {K : Act → World → Prop} {Q : Exit → Act → World → Prop} {E : Prop}
    (hg : o.guard = none) (s x : Operand) (t : TypeId) (hop : o.op = Op.call { callee := Callee.builtin Builtin.append, args := #[s, x], argTypes := #[t, t] })
    (v u : Value) (hs : a.eval s = v) (hx : a.eval x = u) {v' : Value} {w' : World} (hr : (Builtin.append_ #[t, t] o.type #[v, u]).run P w = .ok v' w') (hK : K (a.put o.dst v') w') :
    if Region.wanted o (yielded ops a.tmps) = true then Oper.wp P o a w K Q else E := by
  have hw : Region.wanted o (yielded ops a.tmps) = true := by simp [Region.wanted, hg]
  rw [if_pos hw]
  unfold Oper.wp
  simp [execOp, hop, resolve, invoke, builtin, hs, hx, hr, Result.andThen]
  exact hK

theorem rd_of_block {w w' : World} {B : Nat} {A : Option Addr} {c : Nat} {l : List UInt8} (h : Rd w B A c l) (hk : ∀ a, A = some a → w'.heap[a.block]? = w.heap[a.block]?) : Rd w' B A c l :=
  ⟨h.1, h.2.1, h.2.2.1, fun hn => by
    obtain ⟨b, o, e, hb, hc⟩ := h.2.2.2 hn
    exact ⟨b, o, e, hb, fun i hi => (show w'.cell? ⟨b, o + i, none⟩ = w.cell? ⟨b, o + i, none⟩ from World.cell?_of_block (w := w) (hk ⟨b, o, none⟩ e)).trans (hc i hi)⟩⟩

set_option maxHeartbeats 2000000 in
theorem write_none (h : IsD w db y d) (i : Nat) (A : Option Addr) (c : Nat) (l : List UInt8) (hr : Rd w w.heap.size A c l) (hl : l.length = 4096) (hd : d.dead = false) (hi : i < d.n) (hm : y.m < 999999999) (hw : d.wait i = none) (hA : ∀ a, A = some a → ¬ y.foot a.block) :
    Calls Tryz.prog 45 #[ptr db, .int .i64 i, .slice A 4096 c] w fun e w' => e = .returned (.int .i64 d.went) ∧ ∃ y', IsD w' db y' (d.put i l).burn ∧ Kp w y w' y' ∧ y'.m ≤ y.m + 2 := by
  have hrf := (h.refused43 i A 4096 c)
  have e0 : refuse d (d.has i && decide (4096 = 4096)) = 0 := by simp [refuse, hd, Dsk.has, hi]
  rw [e0] at hrf
  have H2 := Lib.hid hrf
  have hmk := hmf
  have n2 := h.n2
  obtain ⟨W, hW⟩ : ∃ W, W = boxed3 w db i A 4096 c := ⟨_, rfl⟩
  have hD : IsD W db y d := hW ▸ ((h.alloc _).alloc _).alloc _
  have a1 : W.cell? ⟨w.heap.size, 0, none⟩ = some (ptr db) := hW ▸ cell_alloc (cell_alloc (cell_alloc_new w _ _) _) _
  have a2 : W.cell? ⟨w.heap.size + 1, 0, none⟩ = some (.int .i64 i) := by
    have := cell_alloc (cell_alloc_new (w.alloc (.cells #[ptr db] 24)) (.int .i64 i) 3) (.cells #[.slice A 4096 c] 36)
    rw [size_alloc'] at this
    rw [hW]; exact this
  have a3 : W.cell? ⟨w.heap.size + 1 + 1, 0, none⟩ = some (.slice A 4096 c) := by
    have := cell_alloc_new ((w.alloc (.cells #[ptr db] 24)).alloc (.cells #[.int .i64 i] 3)) (.slice A 4096 c) 36
    rw [size_alloc', size_alloc'] at this
    rw [hW]; exact this
  have hB : Below w.heap.size w W := hW ▸ (((Below.refl _ w).alloc (Nat.le_refl _) _).alloc (by simp) _).alloc (by simp; omega) _
  have hRd : Rd W W.heap.size A c l := (hr.below hB).more hB.size
  have b1 := hD.c1
  have hM : y.M i = none := by
    have := hD.waitOk i hi
    rcases hM : y.M i with _ | ⟨b, cb⟩
    · rfl
    · rw [hM, hw] at this; exact this.elim
  have b2 := hD.c2
  have f2 := hD.frozen 2
  have hlk : ∀ n, (Instr.lookup 83 (.map (some y.mb)) (.int .i64 i) true).run Tryz.prog (W.drewN n) = .ok (.tuple #[.slice none 0 0, .bool false]) (W.drewN n) := fun n => by
    have := ((hD.drewN n).waits.look_ok Tryz.underlying83 (zero42 _) i (by omega))
    rw [this, hM]; rfl
  have hmb := hD.foot _ hD.fmb
  have hne : ∀ k, k < w.heap.size + 3 → w.heap.size ≤ k → k ≠ y.mb := fun k h1 h2 e => by have := h.foot _ h.fmb; omega
  have H := Lib.hid hD
  have HW := Lib.hid hW
  have HB := Lib.hid hB
  have HR := Lib.hid hRd
  have HN := Lib.hid (And.intro (hne _ (by omega) (Nat.le_refl _)) (And.intro (hne (w.heap.size + 1) (by omega) (by omega)) (hne (w.heap.size + 1 + 1) (by omega) (by omega))))
  have HD := Lib.hid hD.ne_mb
  have H3 := Lib.hid h
  have HI := Lib.hid (And.intro hi (And.intro hl (And.intro hm hw)))
  have HA := Lib.hid hA
  clear h hrf e0 hD hB hRd hr hd n2 hW hne hmb hM hi hl hm hw hA
  go_enter Tryz.func45, Tryz.ntmps45
  go_wp2_with (go_at_call 70; refine H2.out.mono ?_; rintro e w1 ⟨rfl, rfl⟩)
  rw [← HW.out]; clear HW
  go_quiet (fail)
  go_wp2
  have v1 := (drewN_cell W nq _).trans a1
  have v2 := (drewN_cell W nq _).trans a2
  have v3 := (drewN_cell W nq _).trans a3
  have v4 := (drewN_cell W nq _).trans b1
  have v5 := (drewN_cell W nq _).trans b2
  have v6 : (W.drewN nq).frozen? ⟨db, 2, none⟩ = false := f2
  have u1 := Lib.hid (H.out.drewN nq)
  have u2 := Lib.hid (below_drewN HB.out nq)
  have u3 := Lib.hid (HR.out.below (below_drewN (Below.refl _ W) nq))
  have u4 := Lib.hid (show W.heap.size = (W.drewN nq).heap.size from rfl)
  clear a1 a2 a3 b1 b2 f2 hlk H HB HR
  generalize W.drewN nq = V at v1 v2 v3 v4 v5 v6 u1 u2 u3 u4 ⊢
  have u5 := Lib.hid (u4.out ▸ u3.out)
  clear u3 u4
  have u6 := Lib.hid u1.out.drew
  obtain ⟨A0, c0, hov, _, _, _⟩ := u1.out.ord.form
  have hw1 : IsD (V.drew.alloc (.cells #[.int .i64 (i : Int)] 3)) db y d := u6.out.alloc _
  obtain ⟨v', w2, hrun, ho2, hg2, hat2⟩ := run_append_i (V.drew.alloc (.cells #[.int .i64 (i : Int)] 3)) 47 0 y.ov (ints d.order) hw1.ord (V.heap.size + 1) (some ⟨V.heap.size, 0, none⟩) 1 [(i : Int)]
    ⟨Nat.le_refl _, by unfold maxLen; omega, (fun e => by cases e), fun _ => ⟨V.heap.size, 0, rfl, by omega, fun j hj => by
      have : j = 0 := by simp at hj; omega
      subst this
      exact cell_alloc_new V.drew (.int .i64 (i : Int)) 3⟩⟩ (by have := u1.out.ordLen; have := HI.out.2.2.1; rw [ints_len]; simp; omega) (Nat.zero_le _)
  obtain ⟨A1, c1, hv', hr1, hlt1, hs1⟩ := ho2.form
  have hsz : (V.drew.alloc (.cells #[.int .i64 (i : Int)] 3)).heap.size = V.heap.size + 1 := by simp
  obtain ⟨y1, hD1, hK1, hm1, hM1⟩ := hw1.push i ho2 hg2 (by rw [hsz] at hat2; rw [hsz]; exact hat2) (fun k hk => (hlt1 k hk).2)
  obtain ⟨w3, hw3⟩ : ∃ w3, w3 = w2.setCell ⟨db, 2, none⟩ v' := ⟨_, rfl⟩
  -- what stays
  have hold : ∀ a v, V.cell? a = some v → ¬ y.foot a.block → w2.cell? a = some v ∧ w3.cell? a = some v := fun a v ha hf => by
    have e0 : (V.drew.alloc (.cells #[.int .i64 (i : Int)] 3)).cell? a = some v := cell_alloc (w := V.drew) ha _
    have e1 : w2.cell? a = some v := (World.cell?_of_block (hg2.block _ (lt_of_cell e0) (fun e => hf (by simp [Lay.foot, u1.out.rob _ e.symm])))).trans e0
    exact ⟨e1, by rw [hw3, World.cell?_setCell_other _ _ _ _ (fun e => hf (by rw [← e]; exact u1.out.fdb))]; exact e1⟩
  have hnf : ∀ k, w.heap.size ≤ k → ¬ y.foot k := fun k hk hf => by have := H3.out.foot k hf; omega
  have t1 := hold _ _ v1 (hnf _ (Nat.le_refl _))
  have t2 := hold _ _ v2 (hnf _ (by show w.heap.size ≤ w.heap.size + 1; omega))
  have t3 := hold _ _ v3 (hnf _ (by show w.heap.size ≤ w.heap.size + 1 + 1; omega))
  have hdb2 : w2.heap[db]? = V.heap[db]? := (hg2.block _ (hw1.foot _ hw1.fdb) (fun e => by have := u1.out.rob _ e.symm; rw [u1.out.rdb] at this; cases this)).trans (Below.heap_alloc V.drew _ _ (u1.out.foot _ u1.out.fdb))
  have t4 : w2.cell? ⟨db, 2, none⟩ = some y.ov := (World.cell?_of_block (w := V) hdb2).trans v5
  have t5 : w2.frozen? ⟨db, 2, none⟩ = false := (World.frozen?_of_block (w := V) hdb2).trans v6
  have t1' := t1.1
  have HT := Lib.hid (And.intro t1.2 (And.intro t2.2 t3.2))
  rw [hov] at hrun v5 t4
  rw [hv'] at hrun hD1 hK1 hw3
  have hl1 : (ints d.order ++ [(i : Int)]).length = (ints d.order).length + 1 := by simp
  rw [hl1] at hrun hD1 hK1 hw3
  obtain ⟨nn, hnn⟩ : ∃ nn, nn = (ints d.order).length := ⟨_, rfl⟩
  rw [← hnn] at hrun hD1 hK1 hw3 v5 t4
  have q1 := Lib.hid hD1
  have q2 := Lib.hid hK1
  have q3 := Lib.hid (And.intro hm1 hM1)
  have q4 := Lib.hid hw3
  clear hold hnf hdb2 hw1 ho2 hg2 hat2 hv' hr1 hlt1 hs1 hsz hD1 hK1 hm1 hM1 hw3 hov t1 t2 t3 hl1 hnn
  have z1 := cell_alloc v1 (.cells #[.int .i64 (i : Int)] 3)
  have z2 := cell_alloc v2 (.cells #[.int .i64 (i : Int)] 3)
  have z3 := cell_alloc v5 (.cells #[.int .i64 (i : Int)] 3)
  have hrun' : Sem.run Tryz.prog (Builtin.append_ #[47, 47] 47 #[.slice A0 nn c0, .slice (some ⟨V.heap.size, 0, none⟩) 1 1]) (V.alloc (.cells #[.int .i64 (i : Int)] 3)).drew = .ok (.slice A1 (nn + 1) c1) w2 := hrun
  clear hrun
  have HX := Lib.hid hrun'
  clear hrun'
  go_cut [] (fun wz => w2.setCell ⟨db, 2, none⟩ (.slice A1 (nn + 1) c1) = wz)
  case first =>
    go_region_law (refine step_append_run rfl (.tmp 31) (.tmp 33) 47 rfl (.slice A0 nn c0) (.slice (some ⟨V.heap.size, 0, none⟩) 1 1) (by simp [Act.eval, Act.put]) (by simp [Act.eval, Act.put]) HX.out ?_)
    all_goals
      go_wp2_with fail
      go_meet
      case rel => rfl
  case rest =>
    have q5 := Lib.hid (show IsD w3 db y1 (d.pushed i) by rw [q4.out]; exact q1.out)
    have q6 := Lib.hid (show Kp w y w3 y1 by
      have h1 : Kp w y (V.drew.alloc (.cells #[.int .i64 (i : Int)] 3)) y := Kp.same (Fr.ofBelow ((below_drewN u2.out 1).alloc u2.out.size _))
      rw [q4.out]; exact h1.trans q2.out)
    have q7 := Lib.hid (show Rd w3 w3.heap.size A c l by
      have h2 := q2.out.fr
      rw [← q4.out] at h2
      have h3 := rd_of_block (w' := w3) u5.out fun a ha => (h2.block _ (by
        obtain ⟨b, o, e, hb, _⟩ := u5.out.2.2.2 (by rw [HI.out.2.1]; omega)
        rw [ha] at e; injection e with e; subst e
        show b < (V.drew.alloc _).heap.size
        have : (V.drew.alloc (.cells #[.int .i64 (i : Int)] 3)).heap.size = V.heap.size + 1 := by simp
        omega) (HA.out a ha)).trans (by
        obtain ⟨b, o, e, hb, _⟩ := u5.out.2.2.2 (by rw [HI.out.2.1]; omega)
        rw [ha] at e; injection e with e; subst e
        exact Below.heap_alloc V.drew _ _ hb)
      have : (V.drew.alloc (.cells #[.int .i64 (i : Int)] 3)).heap.size = V.heap.size + 1 := by simp
      exact h3.more (by have := h2.size; omega))
    have q8 := Lib.hid (show ∀ j, j < w.heap.size + 3 → w.heap.size ≤ j → j ≠ y1.mb from fun j h1 h2 e => by
      have hf := q5.out.fmb
      have : y.foot y1.mb := by
        refine q2.out.foot _ ?_ hf
        have e1 := lt_of_cell v3
        have e2 : (V.drew.alloc (.cells #[.int .i64 (i : Int)] 3)).heap.size = V.heap.size + 1 := by simp
        change w.heap.size + 1 + 1 < V.heap.size at e1
        omega
      have := H3.out.foot _ this
      omega)
    clear z1 z2 z3 HX t1' t4 t5 v1 v2 v3 v4 v5 v6 u1 u5 u6 u2 HN HD HA
    rw [← q4.out] at hcut
    subst hcut
    clear q1 q2 q4
    have HE := Lib.hid (show w3.drew.cell? ⟨w.heap.size, 0, none⟩ = some (ptr db) ∧ w3.drew.cell? ⟨w.heap.size + 1, 0, none⟩ = some (.int .i64 i) ∧ w3.drew.cell? ⟨w.heap.size + 1 + 1, 0, none⟩ = some (.slice A 4096 c) ∧ w3.drew.cell? ⟨db, 1, none⟩ = some (.map (some y1.mb)) from ⟨HT.out.1, HT.out.2.1, HT.out.2.2, q5.out.c1⟩)
    have x1 := HT.out.1
    have x2 := HT.out.2.1
    have x3 := HT.out.2.2
    have x4 := q5.out.c1
    have r1 := Lib.hid q5.out.drew
    have r2 := Lib.hid (show Rd w3.drew w3.drew.heap.size A c l from q7.out)
    have r3 := Lib.hid q5.out.ne_mb
    clear q7 HT
    go_wp2_with fail
    go_region_held3 (fun w' => w'.cell? ⟨w.heap.size, 0, none⟩ = some (ptr db) ∧ w'.cell? ⟨w.heap.size + 1, 0, none⟩ = some (.int .i64 i) ∧ w'.cell? ⟨w.heap.size + 1 + 1, 0, none⟩ = some (.slice A 4096 c) ∧ w'.cell? ⟨db, 1, none⟩ = some (.map (some y1.mb)))
      (first | exact HE.out | exact P4.out | exact P5.out)
      (first | (go_at_call 88; refine (clone_any A c 4096 l _ r2.out HI.out.2.1 (by omega)).mono ?_; rintro e w4 ⟨v, rfl, ho, hb⟩; obtain ⟨g, cg, w5, y5, rfl, hrun, hD5, hK5, hm5, hc5⟩ := IsD.lays r1.out i l HI.out.1 HI.out.2.1 (by have := HI.out.2.2.1; have := q3.out.1; omega) ho hb; have p1 := hc5 _ _ (q8.out w.heap.size (by omega) (Nat.le_refl _)) HE.out.1; have p2 := hc5 _ _ (q8.out (w.heap.size + 1) (by omega) (by omega)) HE.out.2.1; have p3 := hc5 _ _ (q8.out (w.heap.size + 1 + 1) (by omega) (by omega)) HE.out.2.2.1; have p4 := hc5 ⟨db, 1, none⟩ _ r3.out HE.out.2.2.2; have P4 := Lib.hid (And.intro p1.1 (And.intro p2.1 (And.intro p3.1 p4.1))); have P5 := Lib.hid (And.intro p1.2 (And.intro p2.2 (And.intro p3.2 p4.2))); have q1 := Lib.hid hD5; have q2 := Lib.hid hK5; have q3' := Lib.hid hm5; have p1' := p1.2; clear ho hb hD5 hK5 hm5 hc5 p1 p2 p3 p4))
    have HP := Lib.hid (show d.put i l = (d.pushed i).laid i l by simp [Dsk.put, HI.out.2.2.2])
    have K0 := Lib.hid (q6.out.trans ((Kp.same (Fr.ofBelow (Below.refl _ _)).drew : Kp w3 y1 w3.drew y1).trans q2.out))
    have m0 := Lib.hid (show y5.m ≤ y.m + 2 by have := q3.out.1; have := q3'.out; omega)
    obtain ⟨bb, hbt⟩ : ∃ bb, d.burnt = bb := ⟨_, rfl⟩
    have hbb := burns_any q1.out
    rw [show ((d.pushed i).laid i l).burnt = bb from hbt] at hbb
    have HBT := Lib.hid hbt
    have Hb := Lib.hid hbb
    clear hbb hbt x1 x2 x3 x4
    rcases bb with _ | _
    · go_wp2_with (go_at_call 89; refine Hb.out.mono ?_; rintro e w6 ⟨rfl, hD6, hK6⟩; have r1' := Lib.hid hD6; have r2' := Lib.hid hK6; clear hD6 hK6)
      go_ret
      exact ⟨by rw [show d.went = _ from congrArg (fun b : Bool => if b then (9 : Int) else 0) HBT.out]; rfl, y5, HP.out ▸ r1'.out, K0.out.trans r2'.out, m0.out⟩
    · go_wp2_with (go_at_call 89; refine Hb.out.mono ?_; rintro e w6 ⟨rfl, hD6, hK6⟩; have r1' := Lib.hid hD6; have r2' := Lib.hid hK6; clear hD6 hK6)
      go_ret
      exact ⟨by rw [show d.went = _ from congrArg (fun b : Bool => if b then (9 : Int) else 0) HBT.out]; rfl, y5, HP.out ▸ r1'.out, K0.out.trans r2'.out, m0.out⟩
end Go.Proofs.YtnpebfolmdbipaaGreatDoor.Dk
