import Derived.Test.YtnaoodaadeimbaaPn4
import Derived.Test.YtnaoodaadeimbaaPn5
namespace Go.Proofs.Ytnaoodaadeimbaa.Pl
set_option linter.unusedVariables false
set_option linter.unusedSimpArgs false
open Go.RowKit Mem Ti Mo
attribute [local go_sem] Oper.semAt_some
/-- What holds between two rounds of Get's loops: w the call's first world, w0 the loop's; the reader's block g; the places ad 0 .. ad (m - 1). -/
structure GI (w w0 : World) (g : Nat) (ad : Nat → Addr) (m : Nat) (s : St) (f : Nat → Int) (W : World) : Prop where
  rd : RdrS W g s
  row : ∀ k, k < m → W.cell? (ad k) = some (.int .i64 (f k))
  zf : ∀ k, k < m → W.frozen? (ad k) = false
  size : w0.heap.size ≤ W.heap.size
  bl : Below w.heap.size w W
  blk : ∀ k, k < w0.heap.size → k ≠ g → (∀ j, j < m → k ≠ (ad j).block) → W.heap[k]? = w0.heap[k]?
  cel : ∀ a : Addr, a.block < w0.heap.size → a.block ≠ g → (∀ j, j < m → a ≠ ad j) → W.cell? a = w0.cell? a ∧ W.frozen? a = w0.frozen? a
/-- What the places are. -/
structure Pls (w w0 : World) (g : Nat) (ad : Nat → Addr) (m : Nat) : Prop where
  ne : ∀ j, j < m → (ad j).block ≠ g
  lt : ∀ j, j < m → (ad j).block < w0.heap.size
  ge : ∀ j, j < m → w.heap.size ≤ (ad j).block
  inj : ∀ i j, i < m → j < m → ad i = ad j → i = j
  g0 : w.heap.size ≤ g
  g1 : g < w0.heap.size
  le : w.heap.size ≤ w0.heap.size
theorem rdr_set {w : World} {g : Nat} {l : List UInt8} {bad : Bool} (h : Rdr w g l bad) {p : Addr} (hp : p.block ≠ g) (hc : ∀ x : Int, w.cell? p ≠ some (.int .u8 x)) (u : Value) : Rdr (w.setCell p u) g l bad := by
  obtain ⟨A, c, hh, hr, hs⟩ := h
  refine ⟨A, c, ?_, ⟨hr.1, hr.2.1, hr.2.2.1, fun hn => ?_⟩, hs⟩
  · obtain ⟨b, o, sp⟩ := p
    exact (Below.heap_setCell _ _ _ _ hp.symm).trans hh
  · obtain ⟨b, o, e, hb, hcell⟩ := hr.2.2.2 hn
    refine ⟨b, o, e, hb, fun i hi => (World.cell?_setCell_other _ _ _ _ (fun e2 => ?_)).trans (hcell i hi)⟩
    have := hcell i hi
    rw [← e2] at this
    exact hc _ this
theorem rdr_kept {W W' : World} {row : Option Nat} {g : Nat} {l : List UInt8} {bad : Bool} (h : Rdr W g l bad) (hg : W.grownBy W' row) (hr : ∀ r, row = some r → ∃ o : Obj, W.heap[r]? = some o ∧ o.isCells = false) : Rdr W' g l bad := by
  obtain ⟨A, c, hh, hrd, hs⟩ := h
  exact ⟨A, c, (grownBy_keeps_cells hg hr hh rfl).trans hh, hrd.kept hg hr, hs⟩
section
variable {w w0 : World} {g : Nat} {ad : Nat → Addr} {m : Nat}
theorem GI.own (hle : w.heap.size ≤ w0.heap.size) {α : Type} (s : List α → St) (f : List α → Nat → Int) : OwnFrom w0.heap.size (fun pre W => GI w w0 g ad m (s pre) (f pre) W) :=
  fun p X Y row h hg hr => by
    have hr2 : ∀ r, row = some r → ∃ o : Obj, X.heap[r]? = some o ∧ o.isCells = false := fun r e => (hr r e).2
    have hkeep : ∀ k, k < w0.heap.size → Y.heap[k]? = X.heap[k]? := fun k hk => hg.block k (Nat.lt_of_lt_of_le hk h.size) (fun e => by have := (hr k e.symm).1; omega)
    exact ⟨rdr_kept h.rd hg hr2, fun k hk => cell_kept (h.row k hk) hg hr2, fun k hk => (frozen_kept (h.row k hk) hg hr2).trans (h.zf k hk), Nat.le_trans h.size hg.size,
      h.bl.grown hg h.bl.size (fun k e => by have := (hr k e).1; omega), fun k hk h1 h2 => (hkeep k hk).trans (h.blk k hk h1 h2),
      fun a ha h1 h2 => ⟨(World.cell?_of_block (hkeep a.block ha)).trans (h.cel a ha h1 h2).1, (World.frozen?_of_block (w := X) (hkeep a.block ha)).trans (h.cel a ha h1 h2).2⟩⟩
/-- A number more: read, and stored at place x. -/
theorem GI.step (hp : Pls w w0 g ad m) {s s' : St} {f : Nat → Int} {W W2 : World} (h : GI w w0 g ad m s f W) (hl : Left W W2 g s') {x : Nat} (hx : x < m) (v : Int) : GI w w0 g ad m s' (fun j => if j = x then v else f j) (W2.setCell (ad x) (.int .i64 v)) := by
  obtain ⟨hr, hg⟩ := hl
  have hb : ∀ k, k < W.heap.size → k ≠ g → W2.heap[k]? = W.heap[k]? := fun k hk hne => hg.block k hk (fun e => hne (by injection e))
  have lt2 : ∀ j, j < m → (ad j).block < W.heap.size := fun j hj => Nat.lt_of_lt_of_le (hp.lt j hj) h.size
  have c2 : ∀ j, j < m → W2.cell? (ad j) = some (.int .i64 (f j)) := fun j hj => (World.cell?_of_block (hb _ (lt2 j hj) (hp.ne j hj))).trans (h.row j hj)
  have z2 : ∀ j, j < m → W2.frozen? (ad j) = false := fun j hj => (World.frozen?_of_block (w := W) (hb _ (lt2 j hj) (hp.ne j hj))).trans (h.zf j hj)
  refine ⟨rdr_set hr (hp.ne x hx) (fun y e => by rw [c2 x hx] at e; cases e) _, fun k hk => ?_, fun k hk => (World.frozen?_setCell _ _ _ _).trans (z2 k hk), ?_, ?_, fun k hk h1 h2 => ?_, fun a ha h1 h2 => ?_⟩
  · by_cases e : k = x
    · subst e
      rw [if_pos rfl]
      exact World.cell?_setCell_same _ _ _ (c2 k hk)
    · rw [if_neg e]
      exact (World.cell?_setCell_other _ _ _ _ (fun e2 => e (hp.inj _ _ hx hk e2).symm)).trans (c2 k hk)
  · rw [size_setCell]; exact Nat.le_trans h.size hg.size
  · exact (h.bl.grown hg h.bl.size (fun k e => by cases e; exact hp.g0)).setCell (hp.ge x hx) _
  · have e : (W2.setCell (ad x) (.int .i64 v)).heap[k]? = W2.heap[k]? := Below.heap_setCell _ _ _ _ (h2 x hx)
    exact e.trans ((hb k (Nat.lt_of_lt_of_le hk h.size) h1).trans (h.blk k hk h1 h2))
  · have e := hb a.block (Nat.lt_of_lt_of_le ha h.size) h1
    obtain ⟨q1, q2⟩ := h.cel a ha h1 h2
    exact ⟨(World.cell?_setCell_other _ _ _ _ (fun e2 => h2 x hx e2.symm)).trans ((World.cell?_of_block e).trans q1), (World.frozen?_setCell _ _ _ _).trans ((World.frozen?_of_block (w := W) e).trans q2)⟩
/-- A variable that is no place of the loop's. -/
theorem GI.vn {s : St} {f : Nat → Int} {W : World} (h : GI w w0 g ad m s f W) {b : Nat} {xs : List Value} (hv : VN w0 b xs) (h1 : b ≠ g) (h2 : ∀ j, j < m → b ≠ (ad j).block) : VN W b xs :=
  have e := h.blk b hv.lt h1 h2
  ⟨Nat.lt_of_lt_of_le hv.lt h.size, fun j v hj => (World.cell?_of_block e).trans (hv.c j v hj), fun i => (World.frozen?_of_block (w := w0) e).trans (hv.z i), fun i hi => (World.cell?_of_block e).trans (hv.top i hi)⟩
end
theorem _root_.Go.Proofs.Ytnaoodaadeimbaa.Mem.VN.gb {w w' : World} {b g : Nat} {xs : List Value} (h : VN w b xs) (hg : w.grownBy w' (some g)) (hne : b ≠ g) : VN w' b xs :=
  have e := hg.block b h.lt (fun e => hne (by injection e))
  ⟨Nat.lt_of_lt_of_le h.lt hg.size, fun j v hj => (World.cell?_of_block e).trans (h.c j v hj), fun i => (World.frozen?_of_block (w := w) e).trans (h.z i), fun i hi => (World.cell?_of_block e).trans (h.top i hi)⟩
theorem _root_.Go.Proofs.Ytnaoodaadeimbaa.Mem.VN.bl {w w' : World} {b : Nat} {xs : List Value} (h : VN w b xs) (e : w'.heap[b]? = w.heap[b]?) (hs : w.heap.size ≤ w'.heap.size) : VN w' b xs :=
  ⟨Nat.lt_of_lt_of_le h.lt hs, fun j v hj => (World.cell?_of_block e).trans (h.c j v hj), fun i => (World.frozen?_of_block (w := w) e).trans (h.z i), fun i hi => (World.cell?_of_block e).trans (h.top i hi)⟩
/-- Tiers that are made: all noughts. -/
theorem make_t (m : Nat) (hm : m ≤ 1000) : ∀ W, (Instr.makeSlice 23 (.int .i64 (m : Int)) (.int .i64 (m : Int))).run Try.prog W = .ok (.slice (some ⟨W.heap.size, 0, none⟩) m m) (W.alloc (.cells (Array.replicate (m * 2) (.int .i64 0)) 58)) := by
  intro W
  obtain ⟨i0, hi, hz0, hz1, hz2⟩ := tierParts
  have hr := run_make (P := Try.prog) W 23 58 i0 _ Try.underlying23 hi hz0 .i64 .i64 (m : Int) (m : Int) (by omega) (by omega) (by rw [hz2]; omega) (by omega)
  rw [hz1] at hr
  have e : madeCells (Value.agg #[.int .i64 0, .int .i64 0]).cells (m * 2) = Array.replicate (m * 2) (.int .i64 0) := by
    apply Array.ext_getElem?
    intro j
    unfold madeCells
    by_cases hj : j < m * 2
    · have hz : ([Value.int .i64 0, .int .i64 0] : List Value)[j % 2]?.getD default = .int .i64 0 := by
        have : j % 2 = 0 ∨ j % 2 = 1 := by omega
        rcases this with h | h <;> rw [h] <;> rfl
      simp [hj, Value.cells, hz]
    · simp [hj]
  exact hr.trans (by simp [e])
end Go.Proofs.Ytnaoodaadeimbaa.Pl
