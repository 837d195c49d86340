import Derived.Test.YtnpebfolmdbipaaGreatDoorF1
namespace Go.Proofs.YtnpebfolmdbipaaGreatDoor.Fm
open Go.RowKit Mem
attribute [local go_sem] Oper.semAt_some

def mostOf (l : List UInt8) (pre : List (Fin 8)) : Nat := pre.foldl (fun m k => max m (val (Frm.mark l k.1))) 0
theorem mostOf_snoc (l : List UInt8) (pre : List (Fin 8)) (k : Fin 8) : mostOf l (pre ++ [k]) = max (mostOf l pre) (val (Frm.mark l k.1)) := by simp [mostOf]
theorem mostOf_upto (l : List UInt8) (k : Nat) (h : k ≤ 8) : mostOf l (upto k) = Frm.newestTo l k := by
  induction k with
  | zero => rfl
  | succ k ih => rw [upto_succ k (by omega), mostOf_snoc, ih (by omega)]; rfl
theorem mostOf_lt (l : List UInt8) (pre : List (Fin 8)) : mostOf l pre < 18446744073709551616 := by
  unfold mostOf
  suffices h : ∀ m, m < 18446744073709551616 → pre.foldl (fun m k => max m (val (Frm.mark l k.1))) m < 18446744073709551616 from h 0 (by omega)
  induction pre with
  | nil => intro m hm; exact hm
  | cons k pre ih =>
    intro m hm
    refine ih _ ?_
    show max m _ < _
    have := val_lt64 (Frm.mark l k.1) (by unfold Frm.mark; rw [List.length_take]; omega)
    omega
theorem cell_new (W : World) (v : Value) (t : TypeId) : (W.alloc (.cells #[v] t)).cell? ⟨W.heap.size, 0, none⟩ = some v ∧ (W.alloc (.cells #[v] t)).frozen? ⟨W.heap.size, 0, none⟩ = false :=
  ⟨(Boxed.new W t v).cell, (Boxed.new W t v).frozen⟩
theorem cell_kept_alloc {W : World} {a : Addr} {v : Value} (o : Obj) (h : W.cell? a = some v) : (W.alloc o).cell? a = some v := cell_kept h (World.grownBy_alloc W o none) (fun r e => by cases e)
theorem frozen_kept_alloc {W : World} {a : Addr} {v : Value} (o : Obj) (h : W.cell? a = some v) (hf : W.frozen? a = false) : (W.alloc o).frozen? a = false := (frozen_kept h (World.grownBy_alloc W o none) (fun r e => by cases e)).trans hf
theorem lt_cell {w : World} {a : Addr} {v : Value} (h : w.cell? a = some v) : a.block < w.heap.size := by
  obtain ⟨o, ho, _⟩ := cells_of_cell h
  exact (Array.getElem?_eq_some_iff.1 ho).1
theorem max_if (a b : Nat) : ((max a b : Nat) : Int) = if a < b then (b : Int) else (a : Int) := by split <;> omega
theorem keeps_below {W W' : World} (h : Below W.heap.size W W') : KeepsOthers W W' :=
  ⟨h.size, fun k _ hk _ => (h.block k (Array.getElem?_eq_some_iff.1 hk).1).trans hk⟩
theorem rd_mark {w : World} {B g o c : Nat} {l : List UInt8} (h : Rd w B (some ⟨g, o, none⟩) c l) (hl : l.length = 4096) (k : Nat) (hk : k < 8) : Rd w B (some ⟨g, o + k * 512, none⟩) (c - k * 512) (Frm.mark l k) ∧ (Frm.mark l k).length = 8 := by
  unfold Frm.mark
  rw [Nat.mul_comm 512 k]
  exact ⟨(h.drop (k * 512) (by omega)).take 8, by rw [List.length_take, List.length_drop]; omega⟩
theorem rd_part {w : World} {B g o c : Nat} {l : List UInt8} (h : Rd w B (some ⟨g, o, none⟩) c l) (hl : l.length = 4096) (k : Nat) (hk : k < 8) : Rd w B (some ⟨g, o + k * 512 + 8, none⟩) (c - k * 512 - 8) (Frm.part l k) ∧ (Frm.part l k).length = 504 := by
  unfold Frm.part
  rw [Nat.mul_comm 512 k]
  have h2 := (h.drop (k * 512 + 8) (by omega)).take 504
  rw [← Nat.add_assoc, ← Nat.sub_sub] at h2
  exact ⟨h2, by rw [List.length_take, List.length_drop]; omega⟩

set_option maxRecDepth 100000 in
set_option maxHeartbeats 2000000 in
theorem newest_any (g o c : Nat) (l : List UInt8) (w : World) (hr : Rd w w.heap.size (some ⟨g, o, none⟩) c l) (hl : l.length = 4096) :
    Calls Tryz.prog 74 #[.slice (some ⟨g, o, none⟩) 4096 c] w fun e w' => e = .returned (.int .u64 (Frm.newestTo l 8 : Int)) ∧ Below w.heap.size w w' := by
  have hc0 : 4096 ≤ c := by have := hr.1; omega
  have hc1 : c ≤ 9223372036854775807 := by have := hr.2.1; unfold maxLen at this; omega
  refine (callsIn_wide (n := 5)).1 ?_
  refine callsIn_of_wp_marks Tryz.func74 rfl trivial ?_ rfl
  simp only [Tryz.ntmps74, List.size_toArray, List.length_cons, List.length_nil, Nat.reduceAdd, Nat.reduceSub, Array.replicate_succ, Array.replicate_zero, List.push_toArray, List.append_toArray, List.nil_append, List.cons_append]
  gi_wp2_with (refine ⟨trivial, ?_⟩; gi_at_call 104; refine (callsIn_wide.2 (sectors_any _ _ _ _)).mono ?_; rintro e w' ⟨rfl, rfl⟩)
  have hs := cell_new w (.int .u64 0) 60
  have hb := cell_new (w.alloc (.cells #[.int .u64 0] 60)) (.slice (some ⟨g, o, none⟩) 4096 c) 36
  rw [World.size_alloc] at hb
  have hB0 : Below w.heap.size w ((w.alloc (.cells #[.int .u64 0] 60)).alloc (.cells #[.slice (some ⟨g, o, none⟩) 4096 c] 36)) := ((Below.refl _ w).alloc (Nat.le_refl _) _).alloc (by simp) _
  refine wpIn_rangeFunc_ownF rfl (by omega) (gf := 120) (lb := #[.pointer (some ⟨w.heap.size + 1, 0, none⟩)]) rfl trivial (enters_of Tryz.func120 (by kernel_rfl) rfl)
    (sectors_stops (5 - 1) (by omega) (w.heap.size + 1) g o c hc0 hc1 _ (by simp) hb.1) Box.t (Box.b (by simp)) (Below.refl _ _) (fun _ => rfl)
    (fun pre W => (W.cell? ⟨w.heap.size, 0, none⟩ = some (.int .u64 (mostOf l pre : Int)) ∧ W.frozen? ⟨w.heap.size, 0, none⟩ = false ∧ W.cell? ⟨w.heap.size + 1, 0, none⟩ = some (.slice (some ⟨g, o, none⟩) 4096 c)) ∧ Below w.heap.size w W)
    (fun _ _ _ => False)
    (OwnFrom.and (Own.from (fun s A B row hs hg hr => ⟨cell_kept hs.1 hg hr, (frozen_kept hs.1 hg hr).trans hs.2.1, cell_kept hs.2.2 hg hr⟩) _) (ownFrom_below (Nat.le_refl _) (by simp; omega)))
    (fun _ _ _ _ _ hs _ _ => hs)
    ⟨⟨cell_kept_alloc _ hs.1, frozen_kept_alloc _ hs.1 hs.2, hb.1⟩, hB0⟩
    (fun x => { tmps := #[.slice (some ⟨g, o, none⟩) 4096 c, undef, .int .u64 0, .pointer (some ⟨w.heap.size, 0, none⟩), .slice (some ⟨g, o + x.1 * 512, none⟩) 8 (c - x.1 * 512), .slice (some ⟨g, o, none⟩) 4096 c, .func (.func 120) #[] #[.pointer (some ⟨w.heap.size + 1, 0, none⟩)],
      .slice (some ⟨g, o + x.1 * 512, none⟩) 8 (c - x.1 * 512), .slice (some ⟨g, o + x.1 * 512 + 8, none⟩) 504 (c - x.1 * 512 - 8), undef, undef, undef, undef, undef, undef], defers := [] }) ?assign ?body ?done ?stop
  case assign =>
    intro l x W K hK
    dsimp only [encs]
    gi_wp2
    exact hK
  case body =>
    rintro lp pre x W ⟨⟨hcm, hfm, hbx⟩, hB⟩ _
    have HBX := Lib.hid hbx
    clear hbx
    have hmx : Tryz.prog.follows .mixedOrders = true := by kernel_rfl
    have hnum := mostOf_lt l pre
    obtain ⟨hrm, hlm⟩ := rd_mark (hr.below hB) hl x.1 x.2
    have HR := Lib.hid (hrm.more (B' := W.drew.heap.size) hB.size)
    have HRd : Hid (Rd W.drew W.drew.heap.size _ _ _) := Lib.hid (HR.out.below ((Below.refl _ W).drew))
    have HL := Lib.hid hlm
    have HB := Lib.hid hB
    have HM := Lib.hid (mostOf_snoc l pre x)
    clear hrm hlm hB HR
    have HN := Lib.hid (show (⟨Frm.mark l x.1, false⟩ : St).num 8 = val (Frm.mark l x.1) by unfold St.num; rw [if_neg (by simp), if_neg (by rw [HL.out]; omega), List.take_of_length_le (by rw [HL.out]; omega)])
    have hv := val_lt64 (Frm.mark l x.1) (by rw [HL.out]; omega)
    have HV := Lib.hid hv
    have hn1 : 1 ≤ 5 - 1 - 1 := by omega
    clear hv
    gi_wp2
    gi_region_with (first
      | (refine ⟨trivial, ?_⟩; gi_at_call 105; refine (CallsIn.inRound lp (callsIn_wide.2 (New_any _ _ 8 _ _ HRd.out HL.out (by omega)))).mono ?_; rintro e w1 ⟨g1, rfl, hg1, hrd1, hb1⟩; have hcm1 : w1.cell? ⟨w.heap.size, 0, none⟩ = some (.int .u64 (mostOf l pre : Int)) := (hb1.cell (p := ⟨w.heap.size, 0, none⟩) (lt_cell hcm)).trans hcm; have hfm1 : w1.frozen? ⟨w.heap.size, 0, none⟩ = false := (hb1.frozen (p := ⟨w.heap.size, 0, none⟩) (lt_cell hcm)).trans hfm; have HG1 := Lib.hid hg1; have HR1 := Lib.hid hrd1; have HB1 := Lib.hid hb1; clear hg1 hrd1 hb1)
      | (refine ⟨trivial, ?_⟩; gi_at_call 109; refine (CallsIn.inRound lp (callsIn_wide.2 (RUint_any g1 _ w1 HR1.out))).mono ?_; rintro e w2 ⟨rfl, hl2⟩; rw [HN.out]; have hb2 := (hl2.below HG1.out HB1.out.size); have hcm2 : w2.cell? ⟨w.heap.size, 0, none⟩ = some (.int .u64 (mostOf l pre : Int)) := (hb2.cell (p := ⟨w.heap.size, 0, none⟩) (lt_cell hcm)).trans hcm1; have hfm2 : w2.frozen? ⟨w.heap.size, 0, none⟩ = false := (hb2.frozen (p := ⟨w.heap.size, 0, none⟩) (lt_cell hcm)).trans hfm1; have HB2 := Lib.hid hb2; clear hl2 hb2))
    all_goals gi_wp2
    all_goals
      have hBW : Below W.heap.size W w2 := ((Below.refl W.heap.size W).drew).trans (HB1.out.trans HB2.out)
      have hbx2 := (hBW.cell (p := ⟨w.heap.size + 1, 0, none⟩) (lt_cell HBX.out)).trans HBX.out
      have hne : (⟨w.heap.size + 1, 0, none⟩ : Addr).block ≠ w.heap.size := by show w.heap.size + 1 ≠ w.heap.size; omega
      have key : ∀ v : Nat, v = max (mostOf l pre) (val (Frm.mark l x.1)) → KeepsOthers W (w2.setCell ⟨w.heap.size, 0, none⟩ (.int .u64 (v : Int))) ∧ Box (w.heap.size + 1) W (w2.setCell ⟨w.heap.size, 0, none⟩ (.int .u64 (v : Int))) ∧
          ((w2.setCell ⟨w.heap.size, 0, none⟩ (.int .u64 (v : Int))).cell? ⟨w.heap.size, 0, none⟩ = some (.int .u64 (mostOf l (pre ++ [x]) : Int)) ∧ (w2.setCell ⟨w.heap.size, 0, none⟩ (.int .u64 (v : Int))).frozen? ⟨w.heap.size, 0, none⟩ = false ∧ (w2.setCell ⟨w.heap.size, 0, none⟩ (.int .u64 (v : Int))).cell? ⟨w.heap.size + 1, 0, none⟩ = some (.slice (some ⟨g, o, none⟩) 4096 c)) ∧
          Below w.heap.size w (w2.setCell ⟨w.heap.size, 0, none⟩ (.int .u64 (v : Int))) := by
        intro v hv
        have hbx3 : (w2.setCell ⟨w.heap.size, 0, none⟩ (.int .u64 (v : Int))).cell? ⟨w.heap.size + 1, 0, none⟩ = some (.slice (some ⟨g, o, none⟩) 4096 c) := (World.cell?_of_block (Below.heap_setCell _ _ _ _ hne)).trans hbx2
        refine ⟨(keeps_below hBW).trans (KeepsOthers.setCell _ _ _), hbx3.trans HBX.out.symm, ⟨?_, by rw [World.frozen?_setCell]; exact hfm2, hbx3⟩, (HB.out.trans (hBW.mono HB.out.size)).setCell (p := ⟨w.heap.size, 0, none⟩) (Nat.le_refl _) _⟩
        rw [HM.out, ← hv]
        exact World.cell?_setCell_same' _ _ _ (by rw [hcm2]; rfl)
      first
        | exact key (val (Frm.mark l x.1)) (by omega)
        | exact key (mostOf l pre) (by omega)
  case done =>
    rintro D ys W hD rfl ⟨⟨hc, _⟩, hB⟩ hK
    gi_wp2
    refine ⟨by simp, .inl ⟨_, _, rfl, run_takeDeferred hK, ?_⟩⟩
    exact ⟨_, results_tmp rfl _ _ _, by rw [← mostOf_upto l 8 (Nat.le_refl _)]; rfl, hB.trans (belowK_b (w := w) (Nat.le_refl _) W D _ _ (by simp at hD; omega) hK rfl rfl)⟩
  case stop =>
    rintro D c pre W _ _ h _
    exact h.elim
end Go.Proofs.YtnpebfolmdbipaaGreatDoor.Fm
