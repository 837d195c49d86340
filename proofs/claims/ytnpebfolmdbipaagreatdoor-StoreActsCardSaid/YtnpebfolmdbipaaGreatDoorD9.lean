import Derived.Test.YtnpebfolmdbipaaGreatDoorD8
namespace Go.Proofs.YtnpebfolmdbipaaGreatDoor.Dk
set_option maxRecDepth 8000
set_option linter.unusedVariables false
set_option linter.unusedSimpArgs false
open Go.RowKit Mem Go.ChangeMaps
variable {w : World} {db : Nat} {y : Lay} {d : Dsk}

/-- What a call that may be answers: OK, or that the power went. -/
def Dsk.went (d : Dsk) : Int := if d.burnt then 9 else 0
theorem Rd.slice {w : World} {B n c : Nat} {A : Option Addr} {l : List UInt8} (h : Rd w B A c l) (hn : l.length = n) (hp : 0 < n) : ∃ b o, A = some ⟨b, o, none⟩ := by
  obtain ⟨b, o, e, _⟩ := h.2.2.2 (by omega)
  exact ⟨b, o, e⟩
theorem Own.page {w : World} {base : Nat} {v : Value} {l : List UInt8} (h : Own 5 w base v l) (hl : l.length = 4096) : ∃ g c, v = .slice (some ⟨g, 0, none⟩) 4096 c ∧ base ≤ g ∧ g < w.heap.size := by
  have hlt := World.ownsRow.lt h
  rcases h.2 with ⟨_, h0⟩ | ⟨g, cap, cur, rfl, hb, hh, _⟩
  · omega
  · exact ⟨g, cap, by rw [hl], hb, (hlt g rfl).2⟩
theorem Own.down {e : TypeId} {w : World} {base : Nat} {v : Value} {l : List UInt8} (h : Own e w base v l) : Own e w 0 v l :=
  ⟨h.1, h.2.imp id fun ⟨g, cap, cur, h1, _, h3⟩ => ⟨g, cap, cur, h1, Nat.zero_le _, h3⟩⟩

/-- What Write does behind its question, given the copy of the bytes and where it lies. -/
theorem IsD.lays {V w4 : World} (h : IsD V db y d) (i : Nat) (l : List UInt8) (hi : i < d.n) (hl : l.length = 4096) (hm : y.m < 1000000000) {v : Value} (ho : Own 5 w4 V.heap.size v l) (hb : Below V.heap.size V w4) :
    ∃ g c w5 y5, v = .slice (some ⟨g, 0, none⟩) 4096 c ∧ (Instr.mapUpdate 83 (.map (some y.mb)) (.int .i64 (i : Int)) (.slice (some ⟨g, 0, none⟩) 4096 c)).run Tryz.prog w4 = .ok () w5 ∧ IsD w5 db y5 (d.laid i l) ∧ Kp V y w5 y5 ∧ y5.m = y.m + 1 ∧
      (∀ a v, a.block ≠ y.mb → V.cell? a = some v → w4.cell? a = some v ∧ w5.cell? a = some v) := by
  obtain ⟨g, c, rfl, hg1, hg2⟩ := Own.page ho hl
  have h4 := h.below hb
  have hf : ¬ y.foot g := fun e => by have := h.foot g e; omega
  obtain ⟨w5, y5, h1, h2, h3, h4', h5⟩ := h4.lay i g c l hi hl hm (Own.down ho) hf
  refine ⟨g, c, w5, y5, rfl, h1, h2, ⟨(Fr.ofBelow hb).trans h3 (fun k _ e => by subst e; exact h.fmb), fun k hk e => (h5 k e).resolve_right (by omega)⟩, h4', fun a v ha hc => ?_⟩
  have hlt := lt_of_cell hc
  have e1 : w4.cell? a = some v := (World.cell?_of_block (w := V) (hb.block _ hlt)).trans hc
  exact ⟨e1, (World.cell?_of_block (w := w4) (h3.block _ (lt_of_cell e1) ha)).trans e1⟩

set_option maxHeartbeats 1000000 in
theorem write_some (h : IsD w db y d) (i : Nat) (A : Option Addr) (c : Nat) (l : List UInt8) (hr : Rd w w.heap.size A c l) (hl : l.length = 4096) (hd : d.dead = false) (hi : i < d.n) (hm : y.m < 1000000000) (hw : (d.wait i).isSome = true) :
    Calls Tryz.prog 45 #[ptr db, .int .i64 i, .slice A 4096 c] w fun e w' => e = .returned (.int .i64 d.went) ∧ ∃ y', IsD w' db y' (d.put i l).burn ∧ Kp w y w' y' ∧ y'.m ≤ y.m + 2 := by
  have hrf := (h.refused43 i A 4096 c)
  have e0 : refuse d (d.has i && decide (4096 = 4096)) = 0 := by simp [refuse, hd, Dsk.has, hi]
  rw [e0] at hrf
  have H2 := Lib.hid hrf
  have hmk := hmf
  have n2 := h.n2
  obtain ⟨W, hW⟩ : ∃ W, W = boxed3 w db i A 4096 c := ⟨_, rfl⟩
  have hD : IsD W db y d := hW ▸ ((h.alloc _).alloc _).alloc _
  have a1 : W.cell? ⟨w.heap.size, 0, none⟩ = some (ptr db) := hW ▸ cell_alloc (cell_alloc (cell_alloc_new w _ _) _) _
  have a2 : W.cell? ⟨w.heap.size + 1, 0, none⟩ = some (.int .i64 i) := by
    have := cell_alloc (cell_alloc_new (w.alloc (.cells #[ptr db] 24)) (.int .i64 i) 3) (.cells #[.slice A 4096 c] 36)
    rw [size_alloc'] at this
    rw [hW]; exact this
  have a3 : W.cell? ⟨w.heap.size + 1 + 1, 0, none⟩ = some (.slice A 4096 c) := by
    have := cell_alloc_new ((w.alloc (.cells #[ptr db] 24)).alloc (.cells #[.int .i64 i] 3)) (.slice A 4096 c) 36
    rw [size_alloc', size_alloc'] at this
    rw [hW]; exact this
  have hB : Below w.heap.size w W := hW ▸ (((Below.refl _ w).alloc (Nat.le_refl _) _).alloc (by simp) _).alloc (by simp; omega) _
  have hRd : Rd W W.heap.size A c l := (hr.below hB).more hB.size
  have b1 := hD.c1
  have hM : ∃ b cb, y.M i = some (b, cb) := by
    have := hD.waitOk i hi
    rcases hM : y.M i with _ | ⟨b, cb⟩
    · rw [hM] at this
      rcases hwt : d.wait i with _ | l
      · rw [hwt] at hw; cases hw
      · rw [hwt] at this; exact this.elim
    · exact ⟨b, cb, rfl⟩
  obtain ⟨b, cb, hM⟩ := hM
  have hlk : ∀ n, (Instr.lookup 83 (.map (some y.mb)) (.int .i64 i) true).run Tryz.prog (W.drewN n) = .ok (.tuple #[sl (some (b, cb)), .bool true]) (W.drewN n) := fun n => by
    have := ((hD.drewN n).waits.look_ok Tryz.underlying83 (zero42 _) i (by omega))
    rw [this, hM]; rfl
  simp only [sl] at hlk
  have hmb := hD.foot _ hD.fmb
  have hne : ∀ k, k < w.heap.size + 3 → w.heap.size ≤ k → k ≠ y.mb := fun k h1 h2 e => by have := h.foot _ h.fmb; omega
  have H := Lib.hid hD
  have HW := Lib.hid hW
  have HB := Lib.hid hB
  have HR := Lib.hid hRd
  have HN := Lib.hid (And.intro (hne _ (by omega) (Nat.le_refl _)) (And.intro (hne (w.heap.size + 1) (by omega) (by omega)) (hne (w.heap.size + 1 + 1) (by omega) (by omega))))
  have HD := Lib.hid hD.ne_mb
  have H3 := Lib.hid h
  have HI := Lib.hid (And.intro hi (And.intro hl (And.intro hm hw)))
  clear h hrf e0 hD hB hRd hr hd n2 hW hne hmb hM hi hl hm hw
  go_enter Tryz.func45, Tryz.ntmps45
  go_wp2_with (go_at_call 70; refine H2.out.mono ?_; rintro e w1 ⟨rfl, rfl⟩)
  rw [← HW.out]; clear HW
  go_quiet (fail)
  go_wp2
  have v1 := (drewN_cell W nq _).trans a1
  have v2 := (drewN_cell W nq _).trans a2
  have v3 := (drewN_cell W nq _).trans a3
  have v4 := (drewN_cell W nq _).trans b1
  have u1 := Lib.hid (H.out.drewN nq)
  have u2 := Lib.hid (below_drewN HB.out nq)
  have u3 := Lib.hid (HR.out.below (below_drewN (Below.refl _ W) nq))
  have u4 := Lib.hid (show W.heap.size = (W.drewN nq).heap.size from rfl)
  clear a1 a2 a3 b1 hlk H HB HR
  generalize W.drewN nq = V at v1 v2 v3 v4 u1 u2 u3 u4 ⊢
  have u5 := Lib.hid (u4.out ▸ u3.out)
  clear u3 u4
  have u6 := Lib.hid u1.out.drew
  have u7 := Lib.hid (show Rd V.drew V.drew.heap.size A c l from u5.out)
  clear u1 u5
  have e1 : V.drew.cell? ⟨w.heap.size, 0, none⟩ = some (ptr db) := v1
  have e2 : V.drew.cell? ⟨w.heap.size + 1, 0, none⟩ = some (.int .i64 i) := v2
  have e3 : V.drew.cell? ⟨w.heap.size + 1 + 1, 0, none⟩ = some (.slice A 4096 c) := v3
  have e4 : V.drew.cell? ⟨db, 1, none⟩ = some (.map (some y.mb)) := v4
  have HE := Lib.hid (And.intro e1 (And.intro e2 (And.intro e3 e4)))
  clear e1 e2 e3 e4
  go_region_held3 (fun w' => w'.cell? ⟨w.heap.size, 0, none⟩ = some (ptr db) ∧ w'.cell? ⟨w.heap.size + 1, 0, none⟩ = some (.int .i64 i) ∧ w'.cell? ⟨w.heap.size + 1 + 1, 0, none⟩ = some (.slice A 4096 c) ∧ w'.cell? ⟨db, 1, none⟩ = some (.map (some y.mb)))
    (first | exact HE.out | exact P4.out | exact P5.out)
    (first | (go_at_call 88; refine (clone_any A c 4096 l _ u7.out HI.out.2.1 (by omega)).mono ?_; rintro e w4 ⟨v, rfl, ho, hb⟩; obtain ⟨g, cg, w5, y5, rfl, hrun, hD5, hK5, hm5, hc5⟩ := IsD.lays u6.out i l HI.out.1 HI.out.2.1 HI.out.2.2.1 ho hb; have p1 := hc5 _ _ HN.out.1 HE.out.1; have p2 := hc5 _ _ HN.out.2.1 HE.out.2.1; have p3 := hc5 _ _ HN.out.2.2 HE.out.2.2.1; have p4 := hc5 ⟨db, 1, none⟩ _ HD.out HE.out.2.2.2; have P4 := Lib.hid (And.intro p1.1 (And.intro p2.1 (And.intro p3.1 p4.1))); have P5 := Lib.hid (And.intro p1.2 (And.intro p2.2 (And.intro p3.2 p4.2))); have q1 := Lib.hid hD5; have q2 := Lib.hid hK5; have q3 := Lib.hid hm5; have p1' := p1.2; clear ho hb hD5 hK5 hm5 hc5 p1 p2 p3 p4))
  have HP := Lib.hid (show d.put i l = d.laid i l by simp [Dsk.put, HI.out.2.2.2])
  have K0 := Lib.hid ((Kp.same (Fr.ofBelow (below_drewN u2.out 1)) : Kp w y V.drew y).trans q2.out)
  have m0 := Lib.hid (show y5.m ≤ y.m + 2 by have := q3.out; omega)
  obtain ⟨bb, hbt⟩ : ∃ bb, d.burnt = bb := ⟨_, rfl⟩
  have hbb := burns_any q1.out
  rw [show (d.laid i l).burnt = bb from hbt] at hbb
  have HBT := Lib.hid hbt
  have Hb := Lib.hid hbb
  clear hbb hbt v1 v2 v3 v4
  rcases bb with _ | _
  · go_wp2_with (go_at_call 89; refine Hb.out.mono ?_; rintro e w6 ⟨rfl, hD6, hK6⟩; have r1 := Lib.hid hD6; have r2 := Lib.hid hK6; clear hD6 hK6)
    go_ret
    exact ⟨by rw [show d.went = _ from congrArg (fun b : Bool => if b then (9 : Int) else 0) HBT.out]; rfl, y5, HP.out ▸ r1.out, K0.out.trans r2.out, m0.out⟩
  · go_wp2_with (go_at_call 89; refine Hb.out.mono ?_; rintro e w6 ⟨rfl, hD6, hK6⟩; have r1 := Lib.hid hD6; have r2 := Lib.hid hK6; clear hD6 hK6)
    go_ret
    exact ⟨by rw [show d.went = _ from congrArg (fun b : Bool => if b then (9 : Int) else 0) HBT.out]; rfl, y5, HP.out ▸ r1.out, K0.out.trans r2.out, m0.out⟩
end Go.Proofs.YtnpebfolmdbipaaGreatDoor.Dk
