import Derived.Test.YtcjokkjepgfinaaGreatDoorQD9
import Derived.Deep.RegionLaw
import Derived.Test.YtcjokkjepgfinaaGreatDoorQDE
set_option linter.unusedVariables false
set_option linter.unusedSimpArgs false
namespace Go.Proofs.YtcjokkjepgfinaaGreatDoor.Dk
set_option maxRecDepth 8000
open Go.RowKit Mem Go.ChangeMaps
variable {w : World} {db : Nat} {y : Lay} {d : Dsk}
theorem step_append_run {P : Program} {ops : Array Oper} {o : Oper} {a : Act} {w : World} {K : Act → World → Prop} {Q : Exit → Act → World → Prop} {E : Prop}
    (hg : o.guard = none) (s x : Operand) (t : TypeId) (hop : o.op = Op.call { callee := Callee.builtin Builtin.append, args := #[s, x], argTypes := #[t, t] })
    (v u : Value) (hs : a.eval s = v) (hx : a.eval x = u) {v' : Value} {w' : World} (hr : (Builtin.append_ #[t, t] o.type #[v, u]).run P w = .ok v' w') (hK : K (a.put o.dst v') w') :
    if Region.wanted o (yielded ops a.tmps) = true then Oper.wp P o a w K Q else E := by
  have hw : Region.wanted o (yielded ops a.tmps) = true := by simp [Region.wanted, hg]
  rw [if_pos hw]
  unfold Oper.wp
  simp [execOp, hop, resolve, invoke, builtin, hs, hx, hr, Result.andThen]
  exact hK
theorem rd_of_block {w w' : World} {B : Nat} {A : Option Addr} {c : Nat} {l : List UInt8} (h : Rd w B A c l) (hk : ∀ a, A = some a → w'.heap[a.block]? = w.heap[a.block]?) : Rd w' B A c l :=
  ⟨h.1, h.2.1, h.2.2.1, fun hn => by
    obtain ⟨b, o, e, hb, hc⟩ := h.2.2.2 hn
    exact ⟨b, o, e, hb, fun i hi => (show w'.cell? ⟨b, o + i, none⟩ = w.cell? ⟨b, o + i, none⟩ from World.cell?_of_block (w := w) (hk ⟨b, o, none⟩ e)).trans (hc i hi)⟩⟩
set_option maxHeartbeats 2000000 in
theorem write_none (h : IsD w db y d) (i : Nat) (A : Option Addr) (c : Nat) (l : List UInt8) (hr : Rd w w.heap.size A c l) (hl : l.length = 4096) (hd : d.dead = false) (hi : i < d.n) (hm : y.m < 999999999) (hw : d.wait i = none) (hA : ∀ a, A = some a → ¬ y.foot a.block) :
    Calls Tryz.prog 106 #[ptr db, .int .i64 i, .slice A 4096 c] w fun e w' => e = .returned (.int .i64 d.went) ∧ ∃ y', IsD w' db y' (d.put i l).burn ∧ Kp w y w' y' ∧ y'.m ≤ y.m + 2 := by
  have hrf := (h.refused43 i A 4096 c)
  have e0 : refuse d (d.has i && decide (4096 = 4096)) = 0 := by simp [refuse, hd, Dsk.has, hi]
  rw [e0] at hrf
  have H2 := Lib.hid hrf
  have hmk := hmf
  have n2 := h.n2
  obtain ⟨W, hW⟩ : ∃ W, W = boxed3 w db i A 4096 c := ⟨_, rfl⟩
  have hD : IsD W db y d := hW ▸ ((h.alloc _).alloc _).alloc _
  have a1 : W.cell? ⟨w.heap.size, 0, none⟩ = some (ptr db) := hW ▸ cell_alloc (cell_alloc (cell_alloc_new w _ _) _) _
  have a2 : W.cell? ⟨w.heap.size + 1, 0, none⟩ = some (.int .i64 i) := by
    have := cell_alloc (cell_alloc_new (w.alloc (.cells #[ptr db] 60)) (.int .i64 i) 3) (.cells #[.slice A 4096 c] 32)
    rw [size_alloc'] at this
    rw [hW]; exact this
  have a3 : W.cell? ⟨w.heap.size + 1 + 1, 0, none⟩ = some (.slice A 4096 c) := by
    have := cell_alloc_new ((w.alloc (.cells #[ptr db] 60)).alloc (.cells #[.int .i64 i] 3)) (.slice A 4096 c) 32
    rw [size_alloc', size_alloc'] at this
    rw [hW]; exact this
  have hB : Below w.heap.size w W := hW ▸ (((Below.refl _ w).alloc (Nat.le_refl _) _).alloc (by simp) _).alloc (by simp; omega) _
  have hRd : Rd W W.heap.size A c l := (hr.below hB).more hB.size
  have b1 := hD.c1
  have hM : y.M i = none := by
    have := hD.waitOk i hi
    rcases hM : y.M i with _ | ⟨b, cb⟩
    · rfl
    · rw [hM, hw] at this; exact this.elim
  have b2 := hD.c2
  have f2 := hD.frozen 2
  have hlk : ∀ n, (Instr.lookup 93 (.map (some y.mb)) (.int .i64 i) true).run Tryz.prog (W.drewN n) = .ok (.tuple #[.slice none 0 0, .bool false]) (W.drewN n) := fun n => by
    have := ((hD.drewN n).waits.look_ok Tryz.underlying93 (zero42 _) i (by omega))
    rw [this, hM]; rfl
  have hmb := hD.foot _ hD.fmb
  have hne : ∀ k, k < w.heap.size + 3 → w.heap.size ≤ k → k ≠ y.mb := fun k h1 h2 e => by have := h.foot _ h.fmb; omega
  have H := Lib.hid hD
  have HW := Lib.hid hW
  have HB := Lib.hid hB
  have HR := Lib.hid hRd
  have HN := Lib.hid (And.intro (hne _ (by omega) (Nat.le_refl _)) (And.intro (hne (w.heap.size + 1) (by omega) (by omega)) (hne (w.heap.size + 1 + 1) (by omega) (by omega))))
  have HD := Lib.hid hD.ne_mb
  have H3 := Lib.hid h
  have HI := Lib.hid (And.intro hi (And.intro hl (And.intro hm hw)))
  have HA := Lib.hid hA
  clear h hrf e0 hD hB hRd hr hd n2 hW hne hmb hM hi hl hm hw hA
  go_enter Tryz.func106, Tryz.ntmps106
  go_wp2_with (go_at_call 107; refine H2.out.mono ?_; rintro e w1 ⟨rfl, rfl⟩)
  rw [← HW.out]; clear HW
  go_quiet (fail)
  go_wp2
  have v1 := (drewN_cell W nq _).trans a1
  have v2 := (drewN_cell W nq _).trans a2
  have v3 := (drewN_cell W nq _).trans a3
  have v4 := (drewN_cell W nq _).trans b1
  have v5 := (drewN_cell W nq _).trans b2
  have v6 : (W.drewN nq).frozen? ⟨db, 2, none⟩ = false := f2
  have u1 := Lib.hid (H.out.drewN nq)
  have u2 := Lib.hid (below_drewN HB.out nq)
  have u3 := Lib.hid (HR.out.below (below_drewN (Below.refl _ W) nq))
  have u4 := Lib.hid (show W.heap.size = (W.drewN nq).heap.size from rfl)
  clear a1 a2 a3 b1 b2 f2 hlk H HB HR
  generalize W.drewN nq = V at v1 v2 v3 v4 v5 v6 u1 u2 u3 u4 ⊢
  have u5 := Lib.hid (u4.out ▸ u3.out)
  clear u3 u4
  have u6 := Lib.hid u1.out.drew
  obtain ⟨A0, c0, hov, _, _, _⟩ := u1.out.ord.form
  have hw1 : IsD (V.drew.alloc (.cells #[.int .i64 (i : Int)] 3)) db y d := u6.out.alloc _
  obtain ⟨v', w2, hrun, ho2, hg2, hat2⟩ := run_append_i (V.drew.alloc (.cells #[.int .i64 (i : Int)] 3)) 104 0 y.ov (ints d.order) hw1.ord (V.heap.size + 1) (some ⟨V.heap.size, 0, none⟩) 1 [(i : Int)]
    ⟨Nat.le_refl _, by unfold maxLen; omega, (fun e => by cases e), fun _ => ⟨V.heap.size, 0, rfl, by omega, fun j hj => by
      have : j = 0 := by simp at hj; omega
      subst this
      exact cell_alloc_new V.drew (.int .i64 (i : Int)) 3⟩⟩ (by have := u1.out.ordLen; have := HI.out.2.2.1; rw [ints_len]; simp; omega) (Nat.zero_le _)
  obtain ⟨A1, c1, hv', hr1, hlt1, hs1⟩ := ho2.form
  have hsz : (V.drew.alloc (.cells #[.int .i64 (i : Int)] 3)).heap.size = V.heap.size + 1 := by simp
  obtain ⟨y1, hD1, hK1, hm1, hM1⟩ := hw1.push i ho2 hg2 (by rw [hsz] at hat2; rw [hsz]; exact hat2) (fun k hk => (hlt1 k hk).2)
  obtain ⟨w3, hw3⟩ : ∃ w3, w3 = w2.setCell ⟨db, 2, none⟩ v' := ⟨_, rfl⟩
  -- what stays
  have hold : ∀ a v, V.cell? a = some v → ¬ y.foot a.block → w2.cell? a = some v ∧ w3.cell? a = some v := fun a v ha hf => by
    have e0 : (V.drew.alloc (.cells #[.int .i64 (i : Int)] 3)).cell? a = some v := cell_alloc (w := V.drew) ha _
    have e1 : w2.cell? a = some v := (World.cell?_of_block (hg2.block _ (lt_of_cell e0) (fun e => hf (by simp [Lay.foot, u1.out.rob _ e.symm])))).trans e0
    exact ⟨e1, by rw [hw3, World.cell?_setCell_other _ _ _ _ (fun e => hf (by rw [← e]; exact u1.out.fdb))]; exact e1⟩
  have hnf : ∀ k, w.heap.size ≤ k → ¬ y.foot k := fun k hk hf => by have := H3.out.foot k hf; omega
  have t1 := hold _ _ v1 (hnf _ (Nat.le_refl _))
  have t2 := hold _ _ v2 (hnf _ (by show w.heap.size ≤ w.heap.size + 1; omega))
  have t3 := hold _ _ v3 (hnf _ (by show w.heap.size ≤ w.heap.size + 1 + 1; omega))
  have hdb2 : w2.heap[db]? = V.heap[db]? := (hg2.block _ (hw1.foot _ hw1.fdb) (fun e => by have := u1.out.rob _ e.symm; rw [u1.out.rdb] at this; cases this)).trans (Below.heap_alloc V.drew _ _ (u1.out.foot _ u1.out.fdb))
  have t4 : w2.cell? ⟨db, 2, none⟩ = some y.ov := (World.cell?_of_block (w := V) hdb2).trans v5
  have t5 : w2.frozen? ⟨db, 2, none⟩ = false := (World.frozen?_of_block (w := V) hdb2).trans v6
  have t1' := t1.1
  have HT := Lib.hid (And.intro t1.2 (And.intro t2.2 t3.2))
  rw [hov] at hrun v5 t4
  rw [hv'] at hrun hD1 hK1 hw3
  have hl1 : (ints d.order ++ [(i : Int)]).length = (ints d.order).length + 1 := by simp
  rw [hl1] at hrun hD1 hK1 hw3
  obtain ⟨nn, hnn⟩ : ∃ nn, nn = (ints d.order).length := ⟨_, rfl⟩
  rw [← hnn] at hrun hD1 hK1 hw3 v5 t4
  have q1 := Lib.hid hD1
  have q2 := Lib.hid hK1
  have q3 := Lib.hid (And.intro hm1 hM1)
  have q4 := Lib.hid hw3
  clear hold hnf hdb2 hw1 ho2 hg2 hat2 hv' hr1 hlt1 hs1 hsz hD1 hK1 hm1 hM1 hw3 hov t1 t2 t3 hl1 hnn
  have z1 := cell_alloc v1 (.cells #[.int .i64 (i : Int)] 3)
  have z2 := cell_alloc v2 (.cells #[.int .i64 (i : Int)] 3)
  have z3 := cell_alloc v5 (.cells #[.int .i64 (i : Int)] 3)
  have hrun' : Sem.run Tryz.prog (Builtin.append_ #[104, 104] 104 #[.slice A0 nn c0, .slice (some ⟨V.heap.size, 0, none⟩) 1 1]) (V.alloc (.cells #[.int .i64 (i : Int)] 3)).drew = .ok (.slice A1 (nn + 1) c1) w2 := hrun
  clear hrun
  have HX := Lib.hid hrun'
  clear hrun'
  go_cut [] (fun wz => w2.setCell ⟨db, 2, none⟩ (.slice A1 (nn + 1) c1) = wz)
  case first =>
    go_region_law (refine step_append_run rfl (.tmp 31) (.tmp 33) 104 rfl (.slice A0 nn c0) (.slice (some ⟨V.heap.size, 0, none⟩) 1 1) (by simp [Act.eval, Act.put]) (by simp [Act.eval, Act.put]) HX.out ?_)
    all_goals
      go_wp2_with fail
      go_meet
      case rel => rfl
  case rest =>
    have q5 := Lib.hid (show IsD w3 db y1 (d.pushed i) by rw [q4.out]; exact q1.out)
    have q6 := Lib.hid (show Kp w y w3 y1 by
      have h1 : Kp w y (V.drew.alloc (.cells #[.int .i64 (i : Int)] 3)) y := Kp.same (Fr.ofBelow ((below_drewN u2.out 1).alloc u2.out.size _))
      rw [q4.out]; exact h1.trans q2.out)
    have q7 := Lib.hid (show Rd w3 w3.heap.size A c l by
      have h2 := q2.out.fr
      rw [← q4.out] at h2
      have h3 := rd_of_block (w' := w3) u5.out fun a ha => (h2.block _ (by
        obtain ⟨b, o, e, hb, _⟩ := u5.out.2.2.2 (by rw [HI.out.2.1]; omega)
        rw [ha] at e; injection e with e; subst e
        show b < (V.drew.alloc _).heap.size
        have : (V.drew.alloc (.cells #[.int .i64 (i : Int)] 3)).heap.size = V.heap.size + 1 := by simp
        omega) (HA.out a ha)).trans (by
        obtain ⟨b, o, e, hb, _⟩ := u5.out.2.2.2 (by rw [HI.out.2.1]; omega)
        rw [ha] at e; injection e with e; subst e
        exact Below.heap_alloc V.drew _ _ hb)
      have : (V.drew.alloc (.cells #[.int .i64 (i : Int)] 3)).heap.size = V.heap.size + 1 := by simp
      exact h3.more (by have := h2.size; omega))
    have q8 := Lib.hid (show ∀ j, j < w.heap.size + 3 → w.heap.size ≤ j → j ≠ y1.mb from fun j h1 h2 e => by
      have hf := q5.out.fmb
      have : y.foot y1.mb := by
        refine q2.out.foot _ ?_ hf
        have e1 := lt_of_cell v3
        have e2 : (V.drew.alloc (.cells #[.int .i64 (i : Int)] 3)).heap.size = V.heap.size + 1 := by simp
        change w.heap.size + 1 + 1 < V.heap.size at e1
        omega
      have := H3.out.foot _ this
      omega)
    clear z1 z2 z3 HX t1' t4 t5 v1 v2 v3 v4 v5 v6 u1 u5 u6 u2 HN HD HA
    rw [← q4.out] at hcut
    subst hcut
    clear q1 q2 q4
    have HE := Lib.hid (show w3.drew.cell? ⟨w.heap.size, 0, none⟩ = some (ptr db) ∧ w3.drew.cell? ⟨w.heap.size + 1, 0, none⟩ = some (.int .i64 i) ∧ w3.drew.cell? ⟨w.heap.size + 1 + 1, 0, none⟩ = some (.slice A 4096 c) ∧ w3.drew.cell? ⟨db, 1, none⟩ = some (.map (some y1.mb)) from ⟨HT.out.1, HT.out.2.1, HT.out.2.2, q5.out.c1⟩)
    have x1 := HT.out.1
    have x2 := HT.out.2.1
    have x3 := HT.out.2.2
    have x4 := q5.out.c1
    have r1 := Lib.hid q5.out.drew
    have r2 := Lib.hid (show Rd w3.drew w3.drew.heap.size A c l from q7.out)
    have r3 := Lib.hid q5.out.ne_mb
    clear q7 HT
    go_wp2_with fail
    go_region_held3 (fun w' => w'.cell? ⟨w.heap.size, 0, none⟩ = some (ptr db) ∧ w'.cell? ⟨w.heap.size + 1, 0, none⟩ = some (.int .i64 i) ∧ w'.cell? ⟨w.heap.size + 1 + 1, 0, none⟩ = some (.slice A 4096 c) ∧ w'.cell? ⟨db, 1, none⟩ = some (.map (some y1.mb)))
      (first | exact HE.out | exact P4.out | exact P5.out)
      (first | (go_at_call 143; refine (clone_any A c 4096 l _ r2.out HI.out.2.1 (by omega)).mono ?_; rintro e w4 ⟨v, rfl, ho, hb⟩; obtain ⟨g, cg, w5, y5, rfl, hrun, hD5, hK5, hm5, hc5⟩ := IsD.lays r1.out i l HI.out.1 HI.out.2.1 (by have := HI.out.2.2.1; have := q3.out.1; omega) ho hb; have p1 := hc5 _ _ (q8.out w.heap.size (by omega) (Nat.le_refl _)) HE.out.1; have p2 := hc5 _ _ (q8.out (w.heap.size + 1) (by omega) (by omega)) HE.out.2.1; have p3 := hc5 _ _ (q8.out (w.heap.size + 1 + 1) (by omega) (by omega)) HE.out.2.2.1; have p4 := hc5 ⟨db, 1, none⟩ _ r3.out HE.out.2.2.2; have P4 := Lib.hid (And.intro p1.1 (And.intro p2.1 (And.intro p3.1 p4.1))); have P5 := Lib.hid (And.intro p1.2 (And.intro p2.2 (And.intro p3.2 p4.2))); have q1 := Lib.hid hD5; have q2 := Lib.hid hK5; have q3' := Lib.hid hm5; have p1' := p1.2; clear ho hb hD5 hK5 hm5 hc5 p1 p2 p3 p4))
    have HP := Lib.hid (show d.put i l = (d.pushed i).laid i l by simp [Dsk.put, HI.out.2.2.2])
    have K0 := Lib.hid (q6.out.trans ((Kp.same (Fr.ofBelow (Below.refl _ _)).drew : Kp w3 y1 w3.drew y1).trans q2.out))
    have m0 := Lib.hid (show y5.m ≤ y.m + 2 by have := q3.out.1; have := q3'.out; omega)
    obtain ⟨bb, hbt⟩ : ∃ bb, d.burnt = bb := ⟨_, rfl⟩
    have hbb := burns_any q1.out
    rw [show ((d.pushed i).laid i l).burnt = bb from hbt] at hbb
    have HBT := Lib.hid hbt
    have Hb := Lib.hid hbb
    clear hbb hbt x1 x2 x3 x4
    rcases bb with _ | _
    · go_wp2_with (go_at_call 109; refine Hb.out.mono ?_; rintro e w6 ⟨rfl, hD6, hK6⟩; have r1' := Lib.hid hD6; have r2' := Lib.hid hK6; clear hD6 hK6)
      go_ret
      exact ⟨by rw [show d.went = _ from congrArg (fun b : Bool => if b then (9 : Int) else 0) HBT.out]; rfl, y5, HP.out ▸ r1'.out, K0.out.trans r2'.out, m0.out⟩
    · go_wp2_with (go_at_call 109; refine Hb.out.mono ?_; rintro e w6 ⟨rfl, hD6, hK6⟩; have r1' := Lib.hid hD6; have r2' := Lib.hid hK6; clear hD6 hK6)
      go_ret
      exact ⟨by rw [show d.went = _ from congrArg (fun b : Bool => if b then (9 : Int) else 0) HBT.out]; rfl, y5, HP.out ▸ r1'.out, K0.out.trans r2'.out, m0.out⟩
def Dsk.ref (d : Dsk) (i : Int) : Int := refuse d (d.has i)
def Dsk.ansW (d : Dsk) (i : Int) : Int := if d.ref i = 0 then d.went else d.ref i
def Dsk.doW (d : Dsk) (i : Int) (l : List UInt8) : Dsk := if d.ref i = 0 then (d.put i.toNat l).burn else d
def Dsk.ansF (d : Dsk) : Int := if d.dead then 9 else d.went
def Dsk.doF (d : Dsk) : Dsk := if d.dead then d else d.flush
theorem ref_zero (d : Dsk) (i : Int) : d.ref i = 0 ↔ d.dead = false ∧ 0 ≤ i ∧ i < d.n := by
  unfold Dsk.ref refuse Dsk.has
  cases d.dead <;> simp
theorem burn_good {d : Dsk} (hg : Good d) : Good d.burn := by
  unfold Dsk.burn; split
  · exact hg
  · exact ⟨hg.mem, hg.nodup⟩
  · exact ⟨hg.mem, hg.nodup⟩
theorem put_good {d : Dsk} (hg : Good d) {i : Nat} (hi : i < d.n) (l : List UInt8) : Good (d.put i l) := by
  unfold Dsk.put
  rcases hW : d.wait i with _ | l'
  · rw [if_neg (by simp)]
    have hni : i ∉ d.order := fun h => ((hg.mem i).1 h).2 hW
    refine ⟨fun j => ?_, ?_⟩
    · show j ∈ d.order ++ [i] ↔ j < d.n ∧ (if j = i then some l else d.wait j) ≠ none
      rw [List.mem_append, List.mem_singleton]
      by_cases e : j = i
      · subst e; simp [hi]
      · rw [if_neg e]; simp only [e, or_false]; exact hg.mem j
    · show (d.order ++ [i]).Nodup
      rw [List.nodup_append]
      exact ⟨hg.nodup, by simp, fun a ha b hb e => by simp at hb; subst hb; subst e; exact hni ha⟩
  · rw [if_pos (by simp)]
    refine ⟨fun j => ?_, hg.nodup⟩
    show j ∈ d.order ↔ j < d.n ∧ (if j = i then some l else d.wait j) ≠ none
    by_cases e : j = i
    · subst e
      rw [if_pos rfl, hg.mem j, hW]; simp
    · rw [if_neg e]; exact hg.mem j
theorem doW_good {d : Dsk} (hg : Good d) (i : Int) (l : List UInt8) : Good (d.doW i l) := by
  unfold Dsk.doW
  split
  · rename_i h
    have := (ref_zero d i).1 h
    exact burn_good (put_good hg (by omega) l)
  · exact hg
theorem doF_good {d : Dsk} (hg : Good d) : Good d.doF := by
  unfold Dsk.doF Dsk.flush
  split
  · exact hg
  · split
    · exact burn_good hg
    · exact ⟨fun i => by simp [Dsk.flushed], List.nodup_nil⟩
structure St (B : Nat) (W w : World) (db : Nat) (y : Lay) (d : Dsk) (m : Nat) : Prop where
  is : IsD w db y d
  good : Good d
  le : y.m ≤ m
  bel : Below B W w
  low : ∀ k, y.foot k → B ≤ k
  base : B ≤ W.heap.size
variable {B : Nat} {W w : World} {db : Nat} {y : Lay} {d : Dsk} {m : Nat}
theorem St.step (s : St B W w db y d m) {w' : World} {y' : Lay} {d' : Dsk} {m' : Nat} (h : IsD w' db y' d') (hg : Good d') (hm : y'.m ≤ m') (hk : Kp w y w' y') : St B W w' db y' d' m' :=
  ⟨h, hg, hm, s.bel.trans (hk.below (Nat.le_trans s.base s.bel.size) s.low), hk.low (Nat.le_trans s.base s.bel.size) s.low, s.base⟩
theorem St.keep (s : St B W w db y d m) {w' : World} (hb : Below w.heap.size w w') : St B W w' db y d m :=
  ⟨s.is.below hb, s.good, s.le, s.bel.trans (hb.mono (Nat.le_trans s.base s.bel.size)), s.low, s.base⟩
theorem St.alloc (s : St B W w db y d m) (o : Obj) : St B W (w.alloc o) db y d m := s.keep ((Below.refl _ w).alloc (Nat.le_refl _) o)
theorem Kp.ofBelow {w w' : World} (y : Lay) (h : Below w.heap.size w w') : Kp w y w' y := Kp.same (Fr.ofBelow h)
theorem St.new (n : Nat) (w : World) (h1 : 1 ≤ n) (h2 : n ≤ 4096) :
    Calls Tryz.prog 26 #[.int .i64 n] w fun e w' => e = .returned (.tuple #[ptr (w.heap.size + 2), .int .i64 0]) ∧ St w.heap.size w w' (w.heap.size + 2) (newY w.heap.size) (newD n) 0 := by
  refine (new_any n w h1 h2).mono ?_
  rintro e w' ⟨rfl, h3, h4⟩
  exact ⟨rfl, h3, newD_good n, Nat.le_refl _, h4, fun k hk => (newY_low _ _ hk).1, Nat.le_refl _⟩
theorem St.read (s : St B W w db y d m) (i : Int) :
    Calls Tryz.prog 81 #[ptr db, .int .i64 i] w fun e w' => ∃ v, e = .returned (.tuple #[v, .int .i64 (d.ref i)]) ∧ (d.ref i = 0 → Own 5 w' w.heap.size v (d.page i.toNat)) ∧ (d.ref i ≠ 0 → v = .slice none 0 0) ∧ St B W w' db y d m ∧ Below w.heap.size w w' := by
  by_cases h : d.ref i = 0
  · obtain ⟨h1, h2, h3⟩ := (ref_zero d i).1 h
    obtain ⟨n, rfl⟩ := Int.eq_ofNat_of_zero_le h2
    refine (read_ok s.is n h1 (by omega)).mono ?_
    rintro e w' ⟨v, rfl, h4, h5⟩
    exact ⟨v, by rw [h], fun _ => h4, fun e => absurd h e, s.keep h5, h5⟩
  · refine (read_bad s.is i h).mono ?_
    rintro e w' ⟨rfl, h5⟩
    exact ⟨_, rfl, fun e => absurd e h, fun _ => rfl, s.keep h5, h5⟩
theorem St.write (s : St B W w db y d m) (i : Int) (l : List UInt8) (hl : l.length = 4096) (hm : m < 999999999) :
    Calls Tryz.prog 106 #[ptr db, .int .i64 i, .slice (some ⟨w.heap.size, 0, none⟩) 4096 4096] (w.alloc (.cells (bcs l) 5)) fun e w' => e = .returned (.int .i64 (d.ansW i)) ∧ ∃ y', St B W w' db y' (d.doW i l) (m + 2) ∧ Kp (w.alloc (.cells (bcs l) 5)) y w' y' := by
  have s1 := s.alloc (.cells (bcs l) 5)
  have hrd : Rd (w.alloc (.cells (bcs l) 5)) (w.alloc (.cells (bcs l) 5)).heap.size (some ⟨w.heap.size, 0, none⟩) 4096 l := by
    have := Rd.lit w l 5 (w.heap.size + 1) (by omega) (by rw [hl]; unfold maxLen; omega)
    rw [hl] at this
    rw [size_alloc']; exact this
  have hA : ∀ a : Addr, some (⟨w.heap.size, 0, none⟩ : Addr) = some a → ¬ y.foot a.block := fun a e hf => by
    injection e with e; subst e
    have := s.is.foot _ hf; simp at this
  by_cases h : d.ref i = 0
  · obtain ⟨h1, h2, h3⟩ := (ref_zero d i).1 h
    obtain ⟨n, rfl⟩ := Int.eq_ofNat_of_zero_le h2
    have e1 : d.ansW n = d.went := if_pos h
    have e2 : d.doW n l = (d.put n l).burn := if_pos h
    have hgood := doW_good s.good n l
    have hle := s.le
    rw [e1]
    rw [e2] at hgood ⊢
    rcases hW : d.wait n with _ | l'
    · refine (write_none s1.is n _ 4096 l hrd hl h1 (by omega) (by omega) hW hA).mono ?_
      rintro e w' ⟨rfl, y', i1, i2, i3⟩
      exact ⟨rfl, y', s1.step i1 hgood (by omega) i2, i2⟩
    · refine (write_some s1.is n _ 4096 l hrd hl h1 (by omega) (by omega) (by rw [hW]; rfl)).mono ?_
      rintro e w' ⟨rfl, y', i1, i2, i3⟩
      exact ⟨rfl, y', s1.step i1 hgood (by omega) i2, i2⟩
  · have e0 : refuse d (d.has i && decide (4096 = 4096)) = d.ref i := by simp [Dsk.ref]
    have e1 : d.ansW i = d.ref i := if_neg h
    have e2 : d.doW i l = d := if_neg h
    rw [e1, e2]
    refine (write_bad s1.is i _ 4096 4096 (by rw [e0]; exact h)).mono ?_
    rintro e w' ⟨rfl, i1⟩
    have s2 := s1.keep i1
    exact ⟨by rw [e0], y, ⟨s2.is, s2.good, Nat.le_trans s2.le (by omega), s2.bel, s2.low, s2.base⟩, Kp.ofBelow y i1⟩
theorem St.flush (s : St B W w db y d m) (hm : m < 1000000000) :
    Calls Tryz.prog 77 #[ptr db] w fun e w' => e = .returned (.int .i64 d.ansF) ∧ ∃ y', St B W w' db y' d.doF m ∧ Kp w y w' y' := by
  have hgood := doF_good s.good
  have hle := s.le
  by_cases h : d.dead = true
  · have e1 : d.ansF = 9 := if_pos h
    have e2 : d.doF = d := if_pos h
    rw [e1, e2]
    refine (flush_bad s.is h).mono ?_
    rintro e w' ⟨rfl, rfl⟩
    exact ⟨rfl, y, s, Kp.refl _ _⟩
  · have e1 : d.ansF = d.went := if_neg h
    have e2 : d.doF = d.flush := if_neg h
    rw [e1]
    rw [e2] at hgood ⊢
    refine (flush_any s.is s.good (by omega) (by simpa using h)).mono ?_
    rintro e w' ⟨rfl, y', i1, i2, i3⟩
    exact ⟨rfl, y', s.step i1 hgood (by omega) i2, i2⟩
theorem St.poke (s : St B W w db y d m) (p : Addr) (u : Value) (hf : ¬ y.foot p.block) (hB : B ≤ p.block) : St B W (w.setCell p u) db y d m :=
  ⟨s.is.fr (Fr.setCell (F := fun k => k = p.block) w p (fun _ => rfl) u) (fun k hk e => hf (e ▸ hk)), s.good, s.le, s.bel.setCell hB u, s.low, s.base⟩
theorem write_nil (w : World) (i : Int) (A : Option Addr) (n c : Nat) : Calls Tryz.prog 106 #[.pointer none, .int .i64 i, .slice A n c] w fun e w' => e = .returned (.int .i64 8) ∧ Below w.heap.size w w' := by
  have hmk := hmf
  have H1 := Lib.hid ((((Below.refl _ w).alloc (Nat.le_refl _) (.cells #[.pointer none] 60)).alloc (by simp) (.cells #[.int .i64 i] 3)).alloc (by simp; omega) (.cells #[.slice A n c] 32))
  go_enter Tryz.func106, Tryz.ntmps106
  go_wp2_with (go_at_call 107; refine (refuses_nil _ _).mono ?_; rintro e w1 ⟨rfl, rfl⟩)
  go_ret
  exact ⟨rfl, H1.out⟩
end Go.Proofs.YtcjokkjepgfinaaGreatDoor.Dk
