import Derived.Test.YtnpebfolmdbipaaGreatDoorD6
import Derived.Laws.CopyRow
import Derived.StillTailTactics
namespace Go.Proofs.YtnpebfolmdbipaaGreatDoor.Dk
set_option maxRecDepth 8000
set_option linter.unusedVariables false
set_option linter.unusedSimpArgs false
open Go.RowKit Mem Go.ChangeMaps
variable {w : World} {db : Nat} {y : Lay} {d : Dsk}

/-- A page as it is read. -/
def Dsk.page (d : Dsk) (i : Nat) : List UInt8 := (d.wait i).getD (d.last i)
theorem makePage : ∀ W, (Instr.makeSlice 36 (.int .i64 4096) (.int .i64 4096)).run Tryz.prog W = .ok (.slice (some ⟨W.heap.size, 0, none⟩) 4096 4096) (W.alloc (.cells (bcs zpage) 5)) := by
  intro W
  have hr := run_make_row' (P := Tryz.prog) 36 5 (.int .u8 0) 1 Tryz.underlying36 u8_info rfl .i64 .i64 4096 (by omega) (by omega) W
  rw [bcs_zeros] at hr
  exact hr

theorem lt_of_cell {w : World} {p : Addr} {v : Value} (h : w.cell? p = some v) : p.block < w.heap.size := by
  rcases Nat.lt_or_ge p.block w.heap.size with h' | h'
  · exact h'
  · simp [World.cell?, Array.getElem?_eq_none h'] at h
theorem cell_alloc {w : World} {p : Addr} {v : Value} (h : w.cell? p = some v) (o : Obj) : (w.alloc o).cell? p = some v :=
  (World.cell?_of_block (w := w) (Below.heap_alloc _ _ _ (lt_of_cell h))).trans h
theorem cell_alloc_new (w : World) (v : Value) (t : TypeId) : (w.alloc (.cells #[v] t)).cell? ⟨w.heap.size, 0, none⟩ = some v := by
  rw [cell_of_row _ _ _ _ _ _ (heap_alloc_new w _)]; rfl

/-- The two boxes that Read lays. -/
abbrev boxed (w : World) (db : Nat) (i : Int) : World := (w.alloc (.cells #[ptr db] 24)).alloc (.cells #[.int .i64 i] 3)
theorem IsD.refused36 (h : IsD w db y d) (i : Int) :
    Calls Tryz.prog 70 #[ptr db, .func (.func 71) #[] #[.pointer (some ⟨w.heap.size, 0, none⟩), .pointer (some ⟨w.heap.size + 1, 0, none⟩)]] (boxed w db i) fun e w' => e = .returned (.int .i64 (refuse d (d.has i))) ∧ w' = boxed w db i := by
  have hb : IsD (boxed w db i) db y d := (h.alloc _).alloc _
  refine refuses_any hb 71 _ (d.has i) (enter36 _) ?_
  refine fits36 hb _ _ i (cell_alloc (cell_alloc_new w _ _) _) ?_
  have := cell_alloc_new (w.alloc (.cells #[ptr db] 24)) (.int .i64 i) 3
  rwa [size_alloc'] at this

theorem read_bad (h : IsD w db y d) (i : Int) (hb : refuse d (d.has i) ≠ 0) :
    Calls Tryz.prog 37 #[ptr db, .int .i64 i] w fun e w' => e = .returned (.tuple #[.slice none 0 0, .int .i64 (refuse d (d.has i))]) ∧ Below w.heap.size w w' := by
  have H := Lib.hid h
  have H1 := Lib.hid (((Below.refl _ w).alloc (Nat.le_refl _) (.cells #[ptr db] 24)).alloc (by simp) (.cells #[.int .i64 i] 3))
  have hr := (H.out.refused36 i)
  generalize refuse d (d.has i) = r at hb hr ⊢
  have H2 := Lib.hid hr
  have hmk := hmf
  clear h hr
  go_enter Tryz.func37, Tryz.ntmps37
  go_wp2_with (go_at_call 70; refine H2.out.mono ?_; rintro e w1 ⟨rfl, rfl⟩)
  go_ret2
  exact ⟨rfl, H1.out⟩


theorem own_len {w : World} {base b n c : Nat} {l : List UInt8} (h : Own 5 w base (.slice (some ⟨b, 0, none⟩) n c) l) : l.length = n := by
  rcases h.2 with ⟨e, _⟩ | ⟨g, cap, cur, e, _⟩
  · cases e
  · injection e with _ e2; exact e2.symm
theorem own_cell {w : World} {base b n c : Nat} {l : List UInt8} (h : Own 5 w base (.slice (some ⟨b, 0, none⟩) n c) l) (j : Nat) (hj : j < l.length) : w.cell? ⟨b, j, none⟩ = some (bv l[j]) := by
  have := World.ownsRow.cells (g := b) h rfl j (bv l[j]) (by simp [hj])
  rwa [show (⟨b, 0, none⟩ : Addr).add j = ⟨b, j, none⟩ by unfold Addr.add; split <;> simp_all] at this
theorem own_row {w : World} (g : Nat) (l : List UInt8) (base : Nat) (hb : base ≤ g) (hm : l.length ≤ maxLen) (h : w.heap[g]? = some (.cells (bcs l) 5 (0, 0))) : Own 5 w base (.slice (some ⟨g, 0, none⟩) l.length l.length) l :=
  ⟨by simp, .inr ⟨g, l.length, bcs l, rfl, hb, h, Nat.le_refl _, hm, by simp [bcs], by simp [bcs, List.take_of_length_le]⟩⟩
theorem goInt_nat (n : Nat) : goInt n = .int .i64 (n : Int) := rfl
theorem u8_size : (Tryz.prog.info? 5).map (·.size) = some 1 := by kernel_rfl

theorem copyPage (W : World) (ty : TypeId) (g b c : Nat) (z l : List UInt8) (hz : z.length = 4096) (hg : W.heap[g]? = some (.cells (bcs z) 5 (0, 0))) (ho : Own 5 W 0 (.slice (some ⟨b, 0, none⟩) 4096 c) l) :
    (Builtin.copy_ #[36, 36] ty #[.slice (some ⟨g, 0, none⟩) 4096 4096, .slice (some ⟨b, 0, none⟩) 4096 c]).run Tryz.prog W = .ok (.int .i64 4096) (W.setRow g (bcs l)) := by
  have hl := own_len ho
  have h := run_copy_row (P := Tryz.prog) W 36 36 ty 5 g 0 4096 4096 ⟨b, 0, none⟩ 4096 c (bcs z) 5 (l.map bv) Tryz.underlying36 u8_size hg (by simp [hl])
    (fun j v hv => by
      have hj : j < l.length := by
        rcases Nat.lt_or_ge j l.length with h | h
        · exact h
        · simp [List.getElem?_eq_none h] at hv
      rw [show (⟨b, 0, none⟩ : Addr).add j = ⟨b, j, none⟩ by unfold Addr.add; split <;> simp_all, own_cell ho j hj]
      simp [hj] at hv
      rw [hv])
    (by rw [size_bcs]; simp [hl, hz]) (by intro v hv; simp only [List.mem_map] at hv; obtain ⟨x, _, rfl⟩ := hv; rfl)
  rw [h, goInt_nat]
  congr 1
  · simp [hl]
  · congr 1
    apply Array.toList_inj.1
    simp [bcs, hl, hz]
theorem copyNil (W : World) (ty : TypeId) (g : Nat) : (Builtin.copy_ #[36, 36] ty #[.slice (some ⟨g, 0, none⟩) 4096 4096, .slice none 0 0]).run Tryz.prog W = .ok (.int .i64 0) W := by
  have h := run_copy_none (P := Tryz.prog) W 36 36 ty 5 (some ⟨g, 0, none⟩) none 4096 4096 0 0 Tryz.underlying36 u8_size (by rfl)
  rw [h]; rfl

theorem zpage_max : zpage.length ≤ maxLen := by rw [zpage_len]; unfold maxLen; omega
theorem IsD.drewN (h : IsD w db y d) (n : Nat) : IsD (w.drewN n) db y d := h.keep (by rw [show (w.drewN n).heap = w.heap from (World.drewN_alike w n).1]; exact Nat.le_refl _) fun _ _ => by rw [show (w.drewN n).heap = w.heap from (World.drewN_alike w n).1]

/-- Behind a page of one's own is filled. -/
theorem filled {w W : World} {g : Nat} {l : List UInt8} (hb : Below w.heap.size w W) (hg : W.heap[g]? = some (.cells (bcs zpage) 5 (0, 0))) (hgs : w.heap.size ≤ g) (hl : l.length = 4096) :
    Own 5 (W.setRow g (bcs l)) w.heap.size (.slice (some ⟨g, 0, none⟩) 4096 4096) l ∧ Below w.heap.size w (W.setRow g (bcs l)) := by
  have h1 := setRow_heap W g (bcs zpage) (bcs l) 5 _ hg
  have h2 := own_row (w := W.setRow g (bcs l)) g l w.heap.size hgs (by rw [hl]; unfold maxLen; omega) h1
  rw [hl] at h2
  refine ⟨h2, hb.trans ⟨rfl, rfl, rfl, by simp [World.setRow], fun k hk => setRow_other W g k _ (by omega)⟩⟩
theorem drewN_cell (W : World) (n : Nat) (a : Addr) : (W.drewN n).cell? a = W.cell? a := by rw [World.cell?, World.cell?, show (W.drewN n).heap = W.heap from (World.drewN_alike W n).1]

theorem read_ok (h : IsD w db y d) (i : Nat) (hd : d.dead = false) (hi : i < d.n) :
    Calls Tryz.prog 37 #[ptr db, .int .i64 i] w fun e w' => ∃ v, e = .returned (.tuple #[v, .int .i64 0]) ∧ Own 5 w' w.heap.size v (d.page i) ∧ Below w.heap.size w w' := by
  have hr := (h.refused36 i)
  have e0 : refuse d (d.has i) = 0 := by simp [refuse, hd, Dsk.has, hi]
  rw [e0] at hr
  have H2 := Lib.hid hr
  have hmk := hmf
  have hmp := makePage
  have n2 := h.n2
  obtain ⟨W, hW⟩ : ∃ W, W = (boxed w db i).alloc (.cells (bcs zpage) 5) := ⟨_, rfl⟩
  have hD : IsD W db y d := hW ▸ ((h.alloc _).alloc _).alloc _
  have a1 : W.cell? ⟨w.heap.size, 0, none⟩ = some (ptr db) := hW ▸ cell_alloc (cell_alloc (cell_alloc_new w _ _) _) _
  have a2 : W.cell? ⟨w.heap.size + 1, 0, none⟩ = some (.int .i64 i) := by
    have := cell_alloc (cell_alloc_new (w.alloc (.cells #[ptr db] 24)) (.int .i64 i) 3) (.cells (bcs zpage) 5)
    rw [size_alloc'] at this
    rw [hW]; exact this
  have hg : ∀ n, (W.drewN n).heap[w.heap.size + 2]? = some (.cells (bcs zpage) 5 (0, 0)) := fun n => by
    rw [show (W.drewN n).heap = W.heap from (World.drewN_alike W n).1, hW]
    have := heap_alloc_new (boxed w db i) (.cells (bcs zpage) 5)
    rwa [size_alloc', size_alloc'] at this
  have hB : Below w.heap.size w W := hW ▸ (((Below.refl _ w).alloc (Nat.le_refl _) _).alloc (by simp) _).alloc (by simp; omega) _
  have b0 := hD.c0
  have b1 := hD.c1
  have hlk : ∀ n, (Instr.lookup 83 (.map (some y.mb)) (.int .i64 i) true).run Tryz.prog (W.drewN n) = .ok (.tuple #[((y.M i).map fun x => sl (some x)).getD (.slice none 0 0), .bool ((y.M i).map fun x => sl (some x)).isSome]) (W.drewN n) :=
    fun n => ((hD.drewN n).waits.look_ok Tryz.underlying83 (zero42 _) i (by omega))
  have hL := (hD.lasts.cell hi)
  have hWt := fun n => (hD.drewN n).waitOk i hi
  have hLs := fun n => (hD.drewN n).lastOk i hi
  have hll := hD.lastLen i hi
  have hwl := fun l => hD.waitLen i l hi
  have hBn := fun n => below_drewN hB n
  have H := Lib.hid hD
  have HG := Lib.hid hg
  have HB := Lib.hid hBn
  have HW := Lib.hid hW
  have hpg : d.page i = (d.wait i).getD (d.last i) := rfl
  generalize d.page i = pg at hpg ⊢
  clear h hr e0 hD hg hB hBn hd n2 hW
  rcases hM : y.M i with _ | ⟨b, c⟩
  · rw [hM] at hlk
    simp only [Option.map_none, Option.getD_none, Option.isSome_none] at hlk
    have hwt : d.wait i = none := by
      rcases hwt : d.wait i with _ | l
      · rfl
      · have := hWt 0
        rw [hM, hwt] at this
        exact this.elim
    have hpl : pg = d.last i := by rw [hpg, hwt]; rfl
    rw [hpl]
    have i1 : ((i : Nat) : Int) < (d.n : Int) := by omega
    have i2 : ¬ ((i : Nat) : Int) < 0 := by omega
    rcases hLi : y.L i with _ | ⟨b, c⟩
    · have hz : d.last i = zpage := by have := hLs 0; rw [hLi] at this; exact this
      rw [hz]
      rw [hLi] at hL
      simp only [sl] at hL
      have hcp : ∀ n, (Builtin.copy_ #[36, 36] 3 #[.slice (some ⟨w.heap.size + 1 + 1, 0, none⟩) 4096 4096, .slice none 0 0]).run Tryz.prog (W.drewN n) = .ok (.int .i64 0) (W.drewN n) := fun n => copyNil _ _ _
      have hcp' := fun n => hcp (n + 1)
      have F := fun n => Lib.hid (show Own 5 (W.drewN n) w.heap.size (.slice (some ⟨w.heap.size + 2, 0, none⟩) 4096 4096) zpage from zpage_len ▸ own_row _ zpage _ (by omega) zpage_max (HG.out n))
      clear hWt hLs hll hwl hpg hpl hM hwt hz hLi
      go_enter Tryz.func37, Tryz.ntmps37
      go_wp2_with (go_at_call 70; refine H2.out.mono ?_; rintro e w1 ⟨rfl, rfl⟩)
      rw [← HW.out]; clear HW
      go_quiet (fail)
      go_wp2
      have v1 := (drewN_cell W nq _).trans a1
      have v2 := (drewN_cell W nq _).trans a2
      have v3 := (drewN_cell W nq _).trans b0
      have v4 := (drewN_cell W nq _).trans hL
      have v5 := hcp (nq + 1)
      have v6 := F (nq + 1)
      have v7 := Lib.hid (HB.out (nq + 1))
      change Sem.run Tryz.prog _ (W.drewN nq).drew = .ok _ (W.drewN nq).drew at v5
      change Hid (Own 5 (W.drewN nq).drew _ _ _) at v6
      change Hid (Below _ _ (W.drewN nq).drew) at v7
      clear a1 a2 b0 b1 hL hcp hcp' F HB HG hlk H
      generalize W.drewN nq = V at v1 v2 v3 v4 v5 v6 v7 ⊢
      go_still_tail 8, (by kernel_rfl)
      change wpList _ _ _ _ _ V.drew
      go_wp2
      go_ret2
      exact ⟨_, rfl, v6.out, v7.out⟩
    · rw [hLi] at hL
      simp only [sl] at hL
      have hcp : ∀ n, (Builtin.copy_ #[36, 36] 3 #[.slice (some ⟨w.heap.size + 1 + 1, 0, none⟩) 4096 4096, .slice (some ⟨b, 0, none⟩) 4096 c]).run Tryz.prog (W.drewN n) = .ok (.int .i64 4096) ((W.drewN n).setRow (w.heap.size + 2) (bcs (d.last i))) := fun n =>
        copyPage (W.drewN n) 3 (w.heap.size + 2) b c zpage (d.last i) zpage_len (HG.out n) (by have := hLs n; rw [hLi] at this; exact this.2)
      have F := fun n => Lib.hid (filled (HB.out n) (HG.out n) (by omega) hll)
      generalize d.last i = l at hcp F ⊢
      clear hWt hLs hll hwl hpg hpl hM hwt hLi
      go_enter Tryz.func37, Tryz.ntmps37
      go_wp2_with (go_at_call 70; refine H2.out.mono ?_; rintro e w1 ⟨rfl, rfl⟩)
      rw [← HW.out]; clear HW
      go_quiet (fail)
      go_wp2
      have v1 := (drewN_cell W nq _).trans a1
      have v2 := (drewN_cell W nq _).trans a2
      have v3 := (drewN_cell W nq _).trans b0
      have v4 := (drewN_cell W nq _).trans hL
      have v5 := hcp (nq + 1)
      have v6 := F (nq + 1)
      change Sem.run Tryz.prog _ (W.drewN nq).drew = .ok _ ((W.drewN nq).drew.setRow _ _) at v5
      change Hid (Own 5 ((W.drewN nq).drew.setRow _ _) _ _ _ ∧ Below _ _ ((W.drewN nq).drew.setRow _ _)) at v6
      clear a1 a2 b0 b1 hL hcp F HB HG hlk H
      generalize W.drewN nq = V at v1 v2 v3 v4 v5 v6 ⊢
      go_still_tail 8, (by kernel_rfl)
      change wpList _ _ _ _ _ V.drew
      go_wp2
      go_ret2
      exact ⟨_, rfl, v6.out.1, v6.out.2⟩
  · rw [hM] at hlk
    simp only [Option.map_some, Option.getD_some, Option.isSome_some, sl] at hlk
    rcases hwt : d.wait i with _ | l
    · have := hWt 0
      rw [hM, hwt] at this
      exact this.elim
    · have hpl : pg = l := by rw [hpg, hwt]; rfl
      have hlen := hwl l hwt
      have hcp : ∀ n, (Builtin.copy_ #[36, 36] 3 #[.slice (some ⟨w.heap.size + 1 + 1, 0, none⟩) 4096 4096, .slice (some ⟨b, 0, none⟩) 4096 c]).run Tryz.prog (W.drewN n) = .ok (.int .i64 4096) ((W.drewN n).setRow (w.heap.size + 2) (bcs l)) := fun n =>
        copyPage (W.drewN n) 3 (w.heap.size + 2) b c zpage l zpage_len (HG.out n) (by have := hWt n; rw [hM, hwt] at this; exact this.2)
      have F := fun n => Lib.hid (filled (HB.out n) (HG.out n) (by omega) hlen)
      rw [hpl]
      clear hWt hLs hll hwl hpg hpl hM hwt hL hlen
      go_enter Tryz.func37, Tryz.ntmps37
      go_wp2_with (go_at_call 70; refine H2.out.mono ?_; rintro e w1 ⟨rfl, rfl⟩)
      rw [← HW.out]; clear HW
      go_quiet (fail)
      go_wp2
      go_ret2
      exact ⟨_, rfl, (F _).out.1, (F _).out.2⟩
end Go.Proofs.YtnpebfolmdbipaaGreatDoor.Dk
