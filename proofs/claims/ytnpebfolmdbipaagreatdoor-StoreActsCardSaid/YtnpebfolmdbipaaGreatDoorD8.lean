import Derived.Test.YtnpebfolmdbipaaGreatDoorD7
import Derived.BigRegion
import Derived.Deep.RegionHeld3
import Derived.Deep.DeepCutAuto
namespace Go.Proofs.YtnpebfolmdbipaaGreatDoor.Dk
set_option maxRecDepth 8000
set_option linter.unusedVariables false
set_option linter.unusedSimpArgs false
open Go.RowKit Mem Go.ChangeMaps
variable {w : World} {db : Nat} {y : Lay} {d : Dsk}

/-- Page i waits, with these bytes. -/
def Dsk.pushed (d : Dsk) (i : Nat) : Dsk := { d with order := d.order ++ [i] }
def Dsk.laid (d : Dsk) (i : Nat) (l : List UInt8) : Dsk := { d with wait := fun j => if j = i then some l else d.wait j }
def Dsk.put (d : Dsk) (i : Nat) (l : List UInt8) : Dsk := if (d.wait i).isSome then d.laid i l else (d.pushed i).laid i l

abbrev boxed3 (w : World) (db : Nat) (i : Int) (A : Option Addr) (n c : Nat) : World := ((w.alloc (.cells #[ptr db] 24)).alloc (.cells #[.int .i64 i] 3)).alloc (.cells #[.slice A n c] 36)
theorem IsD.refused43 (h : IsD w db y d) (i : Int) (A : Option Addr) (n c : Nat) :
    Calls Tryz.prog 70 #[ptr db, .func (.func 87) #[] #[.pointer (some ⟨w.heap.size, 0, none⟩), .pointer (some ⟨w.heap.size + 1, 0, none⟩), .pointer (some ⟨w.heap.size + 1 + 1, 0, none⟩)]] (boxed3 w db i A n c)
      fun e w' => e = .returned (.int .i64 (refuse d (d.has i && decide (n = 4096)))) ∧ w' = boxed3 w db i A n c := by
  have hb : IsD (boxed3 w db i A n c) db y d := ((h.alloc _).alloc _).alloc _
  refine refuses_any hb 87 _ _ (enter43 _) ?_
  have a2 := cell_alloc_new (w.alloc (.cells #[ptr db] 24)) (.int .i64 i) 3
  have a3 := cell_alloc_new ((w.alloc (.cells #[ptr db] 24)).alloc (.cells #[.int .i64 i] 3)) (.slice A n c) 36
  rw [size_alloc'] at a2
  rw [size_alloc', size_alloc'] at a3
  exact fits43 hb _ _ _ i A n c (cell_alloc (cell_alloc (cell_alloc_new w _ _) _) _) (cell_alloc a2 _) a3

theorem write_bad (h : IsD w db y d) (i : Int) (A : Option Addr) (n c : Nat) (hb : refuse d (d.has i && decide (n = 4096)) ≠ 0) :
    Calls Tryz.prog 45 #[ptr db, .int .i64 i, .slice A n c] w fun e w' => e = .returned (.int .i64 (refuse d (d.has i && decide (n = 4096)))) ∧ Below w.heap.size w w' := by
  have H := Lib.hid h
  have H1 := Lib.hid ((((Below.refl _ w).alloc (Nat.le_refl _) (.cells #[ptr db] 24)).alloc (by simp) (.cells #[.int .i64 i] 3)).alloc (by simp; omega) (.cells #[.slice A n c] 36))
  have hr := (H.out.refused43 i A n c)
  generalize refuse d (d.has i && decide (n = 4096)) = r at hb hr ⊢
  have H2 := Lib.hid hr
  have hmk := hmf
  clear h hr
  go_enter Tryz.func45, Tryz.ntmps45
  go_wp2_with (go_at_call 70; refine H2.out.mono ?_; rintro e w1 ⟨rfl, rfl⟩)
  go_ret
  exact ⟨rfl, H1.out⟩

/-- The order grown by a page. -/
def Lay.grown (y : Lay) (N : Nat) (v : Value) : Lay := { y with ov := v, m := y.m + 1, role := fun k => if k = N then some .order else y.role k }
theorem IsD.push {w2 : World} (h : IsD w db y d) (i : Nat) {v : Value} (ho : OwnI w2 0 v (ints d.order ++ [(i : Int)])) (hg : w.grownBy w2 y.ov.ownBlock) (hat : v.ownBlock = y.ov.ownBlock ∨ v.ownBlock = some w.heap.size) (hlt : ∀ k, v.ownBlock = some k → k < w2.heap.size) :
    ∃ y', IsD (w2.setCell ⟨db, 2, none⟩ v) db y' (d.pushed i) ∧ Kp w y (w2.setCell ⟨db, 2, none⟩ v) y' ∧ y'.m = y.m + 1 ∧ y'.M = y.M := by
  have hnw : ∀ {k r}, y.role k = some r → k < w.heap.size := fun e => h.foot _ (by simp [Lay.foot, e])
  have hnd : ∀ {k r}, y.role k = some r → r ≠ .disk → k ≠ db := fun e hr e2 => hr (by rw [e2, h.rdb] at e; cases e; rfl)
  have hno : ∀ {k r}, y.role k = some r → r ≠ .order → some k ≠ y.ov.ownBlock := fun e hr e2 => hr (by have := h.rob _ e2.symm; rw [this] at e; cases e; rfl)
  have h1 : ∀ {k r}, y.role k = some r → r ≠ .order → w2.heap[k]? = w.heap[k]? := fun e hr => hg.block _ (hnw e) (hno e hr)
  have h2 : ∀ k, k ≠ db → (w2.setCell ⟨db, 2, none⟩ v).heap[k]? = w2.heap[k]? := fun k hk => Below.heap_setCell _ _ _ _ hk
  have h3 : ∀ {k r}, y.role k = some r → r ≠ .order → r ≠ .disk → (w2.setCell ⟨db, 2, none⟩ v).heap[k]? = w.heap[k]? := fun e hr hr' => (h2 _ (hnd e hr')).trans (h1 e hr)
  by_cases hN : v.ownBlock = some w.heap.size
  · have hr : ∀ {k r}, y.role k = some r → (if k = w.heap.size then some Role.order else y.role k) = some r := fun {k r} e => by rw [if_neg (by have := hnw e; omega)]; exact e
    refine ⟨y.grown w.heap.size v, {
      n1 := h.n1
      n2 := h.n2
      row := ((h.row.of_block (h1 h.rdb (by simp))).set 2 v).congr fun j hj => by match j, hj with | 0, _ | 1, _ | 2, _ | 3, _ | 4, _ | 5, _ => rfl
      lasts := h.lasts.of_block (h3 h.rlb (by simp) (by simp))
      waits := (h.waits.of_block (h3 h.rmb (by simp) (by simp))).mono (Nat.le_succ _)
      ord := by
        have : OwnI w2 0 v (ints (d.pushed i).order) := by simpa [ints, Dsk.pushed] using ho
        exact owns_of_block this fun k e => h2 k (by intro e2; change v.ownBlock = some k at e; rw [hN] at e; injection e with e; have := h.foot _ h.fdb; omega)
      lastOk := fun j hj => ?_, waitOk := fun j hj => ?_, apart := h.apart, rdb := hr h.rdb, rlb := hr h.rlb, rmb := hr h.rmb
      rob := fun k e => by change v.ownBlock = some k at e; rw [hN] at e; injection e with e; subst e; simp [Lay.grown]
      foot := fun k hk => ?_, ordLen := by simpa [Dsk.pushed, Lay.grown] using h.ordLen, fuseOk := h.fuseOk, lastLen := h.lastLen, waitLen := h.waitLen }, ⟨?_, fun k hk hf => ?_⟩, rfl, rfl⟩
    · have := (h.lastOk j hj).of_block (w' := w2.setCell ⟨db, 2, none⟩ v) fun k e => h3 e (by simp) (by simp)
      show LastAt _ _ _ (y.L j) _
      rcases hL : y.L j with _ | ⟨b, c⟩
      · rw [hL] at this; exact this
      · rw [hL] at this; exact ⟨hr this.1, this.2⟩
    · have := (h.waitOk j hj).of_block (w' := w2.setCell ⟨db, 2, none⟩ v) fun k e => h3 e (by simp) (by simp)
      show WaitAt _ _ _ (y.M j) (d.wait j)
      rcases hL : y.M j with _ | ⟨b, c⟩ <;> rcases hW : d.wait j with _ | l <;> rw [hL, hW] at this
      · trivial
      · exact this
      · exact this
      · exact ⟨hr this.1, this.2⟩
    · have hs := hg.size
      simp only [World.setCell, Array.size_modify]
      by_cases e : k = w.heap.size
      · subst e; exact hlt _ hN
      · have : y.foot k := by simpa [Lay.foot, Lay.grown, e] using hk
        have := h.foot k this; omega
    · exact (Fr.grown hg (fun k _ e => by simp [Lay.foot, h.rob k e])).trans (Fr.setCell (F := y.foot) _ _ (fun _ => h.fdb) _) fun _ _ h => h
    · have e : k ≠ w.heap.size := by omega
      simpa [Lay.foot, Lay.grown, e] using hf
  · have hv : v.ownBlock = y.ov.ownBlock := hat.resolve_right hN
    refine ⟨{ y with ov := v, m := y.m + 1 }, {
      n1 := h.n1
      n2 := h.n2
      row := ((h.row.of_block (h1 h.rdb (by simp))).set 2 v).congr fun j hj => by match j, hj with | 0, _ | 1, _ | 2, _ | 3, _ | 4, _ | 5, _ => rfl
      lasts := h.lasts.of_block (h3 h.rlb (by simp) (by simp))
      waits := (h.waits.of_block (h3 h.rmb (by simp) (by simp))).mono (Nat.le_succ _)
      ord := by
        have : OwnI w2 0 v (ints (d.pushed i).order) := by simpa [ints, Dsk.pushed] using ho
        exact owns_of_block this fun k e => h2 k (hnd (h.rob k (hv ▸ e)) (by simp))
      lastOk := fun j hj => (h.lastOk j hj).of_block fun k e => h3 e (by simp) (by simp)
      waitOk := fun j hj => (h.waitOk j hj).of_block fun k e => h3 e (by simp) (by simp)
      apart := h.apart, rdb := h.rdb, rlb := h.rlb, rmb := h.rmb
      rob := fun k e => h.rob k (hv ▸ e)
      foot := fun k hk => by have := h.foot k hk; have hs := hg.size; simp only [World.setCell, Array.size_modify]; omega
      ordLen := by simpa [Dsk.pushed] using h.ordLen, fuseOk := h.fuseOk, lastLen := h.lastLen, waitLen := h.waitLen }, ⟨?_, fun k hk hf => hf⟩, rfl, rfl⟩
    exact (Fr.grown hg (fun k _ e => by simp [Lay.foot, h.rob k e])).trans (Fr.setCell (F := y.foot) _ _ (fun _ => h.fdb) _) fun _ _ h => h

/-- A page's bytes laid into the map, from a block that is none of the disk's. -/
theorem IsD.lay (h : IsD w db y d) (i g c : Nat) (l : List UInt8) (hi : i < d.n) (hl : l.length = 4096) (hm : y.m < 1000000000) (ho : Own 5 w 0 (.slice (some ⟨g, 0, none⟩) 4096 c) l) (hf : ¬ y.foot g) :
    ∃ w' y', (Instr.mapUpdate 83 (.map (some y.mb)) (.int .i64 (i : Int)) (.slice (some ⟨g, 0, none⟩) 4096 c)).run Tryz.prog w = .ok () w' ∧ IsD w' db y' (d.laid i l) ∧ Fr (fun k => k = y.mb) w w' ∧ y'.m = y.m + 1 ∧ ∀ k, y'.foot k → y.foot k ∨ k = g := by
  have n2 := h.n2
  obtain ⟨w', hrun, hM, ht⟩ := h.waits.store Tryz.underlying83 (by unfold maxLen; omega) i (by omega) (sl (some (g, c))) (z := .agg [.lit (.int .i64 g), .lit (.int .i64 (4096 : Nat)), .lit (.int .i64 c)]) rfl
  have hg := ht.grown
  have hnm : ∀ {k r}, y.role k = some r → r ≠ .waits → k ≠ y.mb := fun e hr e2 => hr (by rw [e2, h.rmb] at e; cases e; rfl)
  have hng : ∀ {k r}, y.role k = some r → k ≠ g := fun e e2 => hf (by subst e2; simp [Lay.foot, e])
  have hgm : g ≠ y.mb := fun e => hf (e ▸ h.fmb)
  have hlt : g < w.heap.size := by
    have := own_cell ho 0 (by omega)
    exact lt_of_cell this
  have hk : ∀ k, k < w.heap.size → k ≠ y.mb → w'.heap[k]? = w.heap[k]? := fun k h1 h2 => hg.block k h1 (by simpa using h2)
  have hnw : ∀ {k r}, y.role k = some r → k < w.heap.size := fun e => h.foot _ (by simp [Lay.foot, e])
  have h1 : ∀ {k r}, y.role k = some r → r ≠ .waits → w'.heap[k]? = w.heap[k]? := fun e hr => hk _ (hnw e) (hnm e hr)
  have hr : ∀ {k r}, y.role k = some r → (if k = g then some (Role.page i) else y.role k) = some r := fun {k r} e => by rw [if_neg (hng e)]; exact e
  refine ⟨w', { y with M := fun j => if j = i then some (g, c) else y.M j, m := y.m + 1, role := fun k => if k = g then some (.page i) else y.role k }, hrun, {
      n1 := h.n1
      n2 := h.n2
      row := (h.row.of_block (h1 h.rdb (by simp)))
      lasts := h.lasts.of_block (h1 h.rlb (by simp))
      waits := ?_
      ord := owns_of_block h.ord fun k e => h1 (h.rob k e) (by simp)
      lastOk := fun j hj => ?_, waitOk := fun j hj => ?_, apart := fun j b c1 b' c' e e' => ?_, rdb := hr h.rdb, rlb := hr h.rlb, rmb := hr h.rmb
      rob := fun k e => hr (h.rob k e)
      foot := fun k hk => ?_, ordLen := Nat.le_succ_of_le h.ordLen, fuseOk := h.fuseOk, lastLen := h.lastLen, waitLen := fun j l' hj e => ?_ }, Fr.turned ht (fun _ => rfl), rfl, fun k hk => ?_⟩
  · obtain ⟨D, zd, a1, a2, a3⟩ := hM
    refine ⟨D, zd, a1, a2, fun j hj => ?_⟩
    have := a3 j hj
    by_cases e : j = i
    · subst e; simpa using this
    · simpa [e] using this
  · have := (h.lastOk j hj).of_block (w' := w') fun k e => h1 e (by simp)
    show LastAt _ _ _ (y.L j) _
    rcases hL : y.L j with _ | ⟨b, c⟩
    · rw [hL] at this; exact this
    · rw [hL] at this; exact ⟨hr this.1, this.2⟩
  · show WaitAt _ _ _ (if j = i then some (g, c) else y.M j) (if j = i then some l else d.wait j)
    by_cases e : j = i
    · subst e
      rw [if_pos rfl, if_pos rfl]
      exact ⟨by simp, Own.of_block ho fun k e => by cases e; exact hk _ hlt hgm⟩
    · rw [if_neg e, if_neg e]
      have := (h.waitOk j hj).of_block (w' := w') fun k e => h1 e (by simp)
      rcases hL : y.M j with _ | ⟨b, c⟩ <;> rcases hW : d.wait j with _ | l <;> rw [hL, hW] at this
      · trivial
      · exact this
      · exact this
      · exact ⟨hr this.1, this.2⟩
  · change (if j = i then some (g, c) else y.M j) = some (b', c') at e'
    change y.L j = some (b, c1) at e
    by_cases e2 : j = i
    · rw [if_pos e2] at e'
      injection e' with e'
      injection e' with e3 e4
      subst e3
      intro e3
      rcases Nat.lt_or_ge j d.n with hj | hj
      · have := h.lastOk j hj
        rw [e] at this
        exact hng this.1 e3
      · omega
    · rw [if_neg e2] at e'
      exact h.apart j b c1 b' c' e e'
  · have hs := hg.size
    by_cases e : k = g
    · omega
    · have : y.foot k := by simpa [Lay.foot, e] using hk
      have := h.foot k this; omega
  · change (if j = i then some l else d.wait j) = some l' at e
    by_cases e2 : j = i
    · rw [if_pos e2] at e; injection e with e; exact e ▸ hl
    · rw [if_neg e2] at e; exact h.waitLen j l' hj e
  · by_cases e : k = g
    · exact .inr e
    · exact .inl (by simpa [Lay.foot, e] using hk)
end Go.Proofs.YtnpebfolmdbipaaGreatDoor.Dk
