import Derived.RangeFuncNested
import Derived.RangeFuncBound
import Derived.RangeFuncCalls
import Derived.RangeFuncLeaves
import Derived.Shelf.Abstract
import Derived.Shelf.RegionOpen
import Derived.WalkKit
import Derived.OwnWalkIn
import Derived.TacticsInMore
import Derived.LoopNIn
import Derived.LoopIn
import Derived.RegionIn
import Derived.Stop.RegionWithIn
import Derived.Test.YtcjokkjepgfinaaGreatDoorQF0
import Derived.Test.YtcjokkjepgfinaaGreatDoorQStr
import Derived.Laws.CopyRow
import Derived.Deep.OwnRows
import Derived.Sort.CutIn
import Derived.Test.YtcjokkjepgfinaaGreatDoorQCrc4
set_option linter.unusedVariables false
set_option linter.unusedSimpArgs false
namespace Go.Proofs.YtcjokkjepgfinaaGreatDoor.Fm
open Go.RowKit Mem
attribute [local go_sem] Oper.semAt_some
theorem sectors_any (A : Option Addr) (n c : Nat) (w : World) :
    Calls Tryz.prog 116 #[.slice A n c] w fun e w' => e = .returned (.func (.func 147) #[] #[.pointer (some ⟨w.heap.size, 0, none⟩)]) ∧ w' = w.alloc (.cells #[.slice A n c] 32) := by
  have hmf : ∀ (fn : Fn) (first cap : Array Value) (w : World), (Instr.makeFunc fn first cap).run Tryz.prog w = .ok (.func fn first cap) w := fun _ _ _ _ => rfl
  go_enter Tryz.func116, Tryz.ntmps116
  go_wp2
  go_ret
  exact ⟨rfl, rfl⟩
def encs (g o c k : Nat) : Array Value := #[.slice (some ⟨g, o + k * 512, none⟩) 8 (c - k * 512), .slice (some ⟨g, o + k * 512 + 8, none⟩) 504 (c - k * 512 - 8)]
def upto (k : Nat) : List (Fin 8) := (List.finRange 8).take k
theorem length_upto (k : Nat) (h : k ≤ 8) : (upto k).length = k := by unfold upto; rw [List.length_take, List.length_finRange]; omega
theorem upto_succ (k : Nat) (h : k < 8) : upto (k + 1) = upto k ++ [⟨k, h⟩] := by
  unfold upto
  rw [List.take_succ_eq_append_getElem (by rw [List.length_finRange]; exact h), List.getElem_finRange]
  rfl
theorem upto_all : upto 8 = List.finRange 8 := rfl
def Box (Bx : Nat) (W W' : World) : Prop := W'.cell? ⟨Bx, 0, none⟩ = W.cell? ⟨Bx, 0, none⟩
theorem Box.t {Bx : Nat} {A B C : World} (h : Box Bx A B) (k : Box Bx B C) : Box Bx A C := k.trans h
theorem Box.b {Bx : Nat} {w : World} (hB : Bx < w.heap.size) (W : World) (l : Nat) (o o' : Obj) (hl : w.heap.size ≤ l) (_ : W.heap[l]? = some o) (_ : o.isCells = false) (_ : o.isWalk = false) : Box Bx W (W.putObj l o') :=
  World.cell?_of_block (World.putObj_heap_other (by show Bx ≠ l; omega))
set_option maxRecDepth 100000 in
set_option maxHeartbeats 2000000 in
theorem sectors1_in (n : Nat) (hn : 1 ≤ n) (l Bx g o c : Nat) (hc : 4096 ≤ c) (hc1 : c ≤ 9223372036854775807) (J Jx : List (Fin 8) → World → Prop) (hJd : ∀ pre W, J pre W → J pre W.drew)
    (hY : ∀ pre x W, J pre W → pre.length < 8 → YieldAt Fence.wide (n - 1) Tryz.prog l (encs g o c x.1) W fun e W' =>
      (e = .returned (.bool true) ∧ J (pre ++ [x]) W' ∧ Box Bx W W') ∨ (e = .returned (.bool false) ∧ Jx (pre ++ [x]) W'))
    (W : World) (hBx : W.cell? ⟨Bx, 0, none⟩ = some (.slice (some ⟨g, o, none⟩) 4096 c)) (h0 : J [] W) :
    CallsIn Fence.wide n Tryz.prog 147 #[.func (.yield l) #[] #[], .pointer (some ⟨Bx, 0, none⟩)] W fun e W' => (∃ v, e = .returned v) ∧
      ((∃ ys, ys = List.finRange 8 ∧ J ys W') ∨ (∃ pre, True ∧ Jx pre W')) := by
  refine callsIn_of_wp Tryz.func147 rfl trivial ?_ rfl
  simp only [Tryz.ntmps147, List.size_toArray, List.length_cons, List.length_nil, Nat.reduceAdd, Nat.reduceSub, Array.replicate_succ, Array.replicate_zero, List.push_toArray, List.append_toArray, List.nil_append, List.cons_append]
  gi_wp2
  gi_loopw [8] (fun i wr => ∃ k : Nat, k ≤ 8 ∧ i = .int .i64 k ∧ J (upto k) wr ∧ wr.cell? ⟨Bx, 0, none⟩ = some (.slice (some ⟨g, o, none⟩) 4096 c)) (fun i _ => 8 - (intOf i).toNat)
  case atStart => exact ⟨0, Nat.zero_le _, rfl, h0, hBx⟩
  case round =>
    obtain ⟨k, hk, rfl, hJs, hBr⟩ := hrel
    by_cases hlt : k < 8
    · obtain ⟨fn, tmps, assign, body, hy, hR⟩ := hY _ ⟨k, hlt⟩ wr.drew (hJd _ _ hJs) (by rw [length_upto _ hk]; exact hlt)
      dsimp only [encs] at hy
      have hR2 := Lib.hid hR
      clear hR hY
      gi_wp2
      rw [show (k + 1) * 512 - k * 512 = 512 by omega]
      have hmx : Tryz.prog.follows .mixedOrders = true := by kernel_rfl
      have b1 : ((8 : Int) ≤ (512 : Nat)) := by omega
      have b2 : (512 : Nat) ≤ c - k * 512 := by omega
      have b3 : ((512 : Nat) : Int) ≤ ((c - k * 512 : Nat) : Int) := by omega
      have b4 : (8 : Int) ≤ ((c - k * 512 : Nat) : Int) := by omega
      gi_region_with (refine hR2.out.mono ?_; rintro e W3 h3; obtain ⟨b, rfl, h4⟩ : ∃ b : Bool, e = .returned (.bool b) ∧ ((b = true ∧ J (upto k ++ [⟨k, hlt⟩]) W3 ∧ Box Bx wr.drew W3) ∨ (b = false ∧ Jx (upto k ++ [⟨k, hlt⟩]) W3)) := by (rcases h3 with ⟨rfl, h5⟩ | ⟨rfl, h5⟩; exact ⟨_, rfl, .inl ⟨rfl, h5⟩⟩; exact ⟨_, rfl, .inr ⟨rfl, h5⟩⟩))
      simp only [Act.put, List.getElem_toArray, List.getElem_cons_zero, List.getElem_cons_succ]
      rcases h4 with ⟨rfl, hJ3, hB3⟩ | ⟨rfl, hJx3⟩
      · have hb3 : W3.cell? ⟨Bx, 0, none⟩ = some (.slice (some ⟨g, o, none⟩) 4096 c) := hB3.trans hBr
        gi_wp2
        go_roundw
        case rel => exact ⟨k + 1, by omega, by go_num, by rw [upto_succ _ hlt]; exact hJ3, hb3⟩
        case measure => simp [intOf]; omega
      · gi_wp2
        refine bodyPost_ret (results_none rfl _ _ _) rfl ?_
        exact ⟨⟨_, rfl⟩, .inr ⟨_, hJx3⟩⟩
    · obtain rfl : k = 8 := by omega
      gi_wp2
      go_end0
      exact ⟨⟨_, rfl⟩, .inl ⟨_, rfl, hJs⟩⟩
set_option maxRecDepth 100000 in
set_option maxHeartbeats 1000000 in
theorem sectors0_in (n : Nat) (hn : 1 ≤ n) (l Bx len c : Nat) (A : Option Addr) (hl : len ≠ 4096) (hl1 : len ≤ 9223372036854775807) (J : List (Fin 8) → World → Prop)
    (W : World) (hBx : W.cell? ⟨Bx, 0, none⟩ = some (.slice A len c)) (h0 : J [] W) :
    CallsIn Fence.wide n Tryz.prog 147 #[.func (.yield l) #[] #[], .pointer (some ⟨Bx, 0, none⟩)] W fun e W' => (∃ v, e = .returned v) ∧ J [] W' := by
  refine callsIn_of_wp Tryz.func147 rfl trivial ?_ rfl
  simp only [Tryz.ntmps147, List.size_toArray, List.length_cons, List.length_nil, Nat.reduceAdd, Nat.reduceSub, Array.replicate_succ, Array.replicate_zero, List.push_toArray, List.append_toArray, List.nil_append, List.cons_append]
  have hne : (len : Int) ≠ 4096 := by omega
  gi_wp2
  refine bodyPost_ret (results_none rfl _ _ _) rfl ?_
  exact ⟨⟨_, rfl⟩, h0⟩
theorem abides_drew {J : List (Fin 8) → World → Prop} {B : Nat} (h : AbidesFrom B J) (pre : List (Fin 8)) (W : World) (hJ : J pre W) : J pre W.drew :=
  h pre W W.drew none hJ (grownBy_below none ((Below.refl _ W).drew)) (fun _ e => by cases e)
theorem sectors_stops (n : Nat) (hn : 1 ≤ n) (Bx g o c : Nat) (hc : 4096 ≤ c) (hc1 : c ≤ 9223372036854775807) (w : World) (hB : Bx < w.heap.size) (hBx : w.cell? ⟨Bx, 0, none⟩ = some (.slice (some ⟨g, o, none⟩) 4096 c)) :
    SeqStopsK Fence.wide n Tryz.prog 147 #[.pointer (some ⟨Bx, 0, none⟩)] (fun x : Fin 8 => encs g o c x.1) (Box Bx) (fun ys => ys = List.finRange 8) (fun _ => True) 8 w := fun l J Jx W hW hJ _ hY h0 => by
  refine (sectors1_in n hn l Bx g o c hc hc1 J Jx (abides_drew hJ) hY W ((hW.cell (p := ⟨Bx, 0, none⟩) hB).trans hBx) h0).mono ?_
  rintro e W' ⟨he, h⟩
  exact ⟨he, h⟩
theorem sectors_none (n : Nat) (hn : 1 ≤ n) (Bx len c : Nat) (A : Option Addr) (hl : len ≠ 4096) (hl1 : len ≤ 9223372036854775807) (w : World) (hB : Bx < w.heap.size) (hBx : w.cell? ⟨Bx, 0, none⟩ = some (.slice A len c)) :
    SeqStopsK Fence.wide n Tryz.prog 147 #[.pointer (some ⟨Bx, 0, none⟩)] (fun x : Fin 8 => encs 0 0 0 x.1) (Box Bx) (fun ys => ys = []) (fun _ => True) 0 w := fun l J Jx W hW _ _ _ h0 => by
  refine (sectors0_in n hn l Bx len c A hl hl1 J W ((hW.cell (p := ⟨Bx, 0, none⟩) hB).trans hBx) h0).mono ?_
  rintro e W' ⟨he, h⟩
  exact ⟨he, .inl ⟨_, rfl, h⟩⟩
def mostOf (l : List UInt8) (pre : List (Fin 8)) : Nat := pre.foldl (fun m k => max m (val (Frm.mark l k.1))) 0
theorem mostOf_snoc (l : List UInt8) (pre : List (Fin 8)) (k : Fin 8) : mostOf l (pre ++ [k]) = max (mostOf l pre) (val (Frm.mark l k.1)) := by simp [mostOf]
theorem mostOf_upto (l : List UInt8) (k : Nat) (h : k ≤ 8) : mostOf l (upto k) = Frm.newestTo l k := by
  induction k with
  | zero => rfl
  | succ k ih => rw [upto_succ k (by omega), mostOf_snoc, ih (by omega)]; rfl
theorem mostOf_lt (l : List UInt8) (pre : List (Fin 8)) : mostOf l pre < 18446744073709551616 := by
  unfold mostOf
  suffices h : ∀ m, m < 18446744073709551616 → pre.foldl (fun m k => max m (val (Frm.mark l k.1))) m < 18446744073709551616 from h 0 (by omega)
  induction pre with
  | nil => intro m hm; exact hm
  | cons k pre ih =>
    intro m hm
    refine ih _ ?_
    show max m _ < _
    have := val_lt64 (Frm.mark l k.1) (by unfold Frm.mark; rw [List.length_take]; omega)
    omega
theorem cell_new (W : World) (v : Value) (t : TypeId) : (W.alloc (.cells #[v] t)).cell? ⟨W.heap.size, 0, none⟩ = some v ∧ (W.alloc (.cells #[v] t)).frozen? ⟨W.heap.size, 0, none⟩ = false :=
  ⟨(Boxed.new W t v).cell, (Boxed.new W t v).frozen⟩
theorem cell_kept_alloc {W : World} {a : Addr} {v : Value} (o : Obj) (h : W.cell? a = some v) : (W.alloc o).cell? a = some v := cell_kept h (World.grownBy_alloc W o none) (fun r e => by cases e)
theorem frozen_kept_alloc {W : World} {a : Addr} {v : Value} (o : Obj) (h : W.cell? a = some v) (hf : W.frozen? a = false) : (W.alloc o).frozen? a = false := (frozen_kept h (World.grownBy_alloc W o none) (fun r e => by cases e)).trans hf
theorem lt_cell {w : World} {a : Addr} {v : Value} (h : w.cell? a = some v) : a.block < w.heap.size := by
  obtain ⟨o, ho, _⟩ := cells_of_cell h
  exact (Array.getElem?_eq_some_iff.1 ho).1
theorem keeps_below {W W' : World} (h : Below W.heap.size W W') : KeepsOthers W W' :=
  ⟨h.size, fun k _ hk _ => (h.block k (Array.getElem?_eq_some_iff.1 hk).1).trans hk⟩
theorem rd_mark {w : World} {B g o c : Nat} {l : List UInt8} (h : Rd w B (some ⟨g, o, none⟩) c l) (hl : l.length = 4096) (k : Nat) (hk : k < 8) : Rd w B (some ⟨g, o + k * 512, none⟩) (c - k * 512) (Frm.mark l k) ∧ (Frm.mark l k).length = 8 := by
  unfold Frm.mark
  rw [Nat.mul_comm 512 k]
  exact ⟨(h.drop (k * 512) (by omega)).take 8, by rw [List.length_take, List.length_drop]; omega⟩
theorem rd_part {w : World} {B g o c : Nat} {l : List UInt8} (h : Rd w B (some ⟨g, o, none⟩) c l) (hl : l.length = 4096) (k : Nat) (hk : k < 8) : Rd w B (some ⟨g, o + k * 512 + 8, none⟩) (c - k * 512 - 8) (Frm.part l k) ∧ (Frm.part l k).length = 504 := by
  unfold Frm.part
  rw [Nat.mul_comm 512 k]
  have h2 := (h.drop (k * 512 + 8) (by omega)).take 504
  rw [← Nat.add_assoc, ← Nat.sub_sub] at h2
  exact ⟨h2, by rw [List.length_take, List.length_drop]; omega⟩
set_option maxRecDepth 100000 in
set_option maxHeartbeats 2000000 in
theorem newest_any (g o c : Nat) (l : List UInt8) (w : World) (hr : Rd w w.heap.size (some ⟨g, o, none⟩) c l) (hl : l.length = 4096) :
    Calls Tryz.prog 82 #[.slice (some ⟨g, o, none⟩) 4096 c] w fun e w' => e = .returned (.int .u64 (Frm.newestTo l 8 : Int)) ∧ Below w.heap.size w w' := by
  have hc0 : 4096 ≤ c := by have := hr.1; omega
  have hc1 : c ≤ 9223372036854775807 := by have := hr.2.1; unfold maxLen at this; omega
  refine (callsIn_wide (n := 5)).1 ?_
  refine callsIn_of_wp_marks Tryz.func82 rfl trivial ?_ rfl
  simp only [Tryz.ntmps82, List.size_toArray, List.length_cons, List.length_nil, Nat.reduceAdd, Nat.reduceSub, Array.replicate_succ, Array.replicate_zero, List.push_toArray, List.append_toArray, List.nil_append, List.cons_append]
  gi_wp2_with (refine ⟨trivial, ?_⟩; gi_at_call 116; refine (callsIn_wide.2 (sectors_any _ _ _ _)).mono ?_; rintro e w' ⟨rfl, rfl⟩)
  have hs := cell_new w (.int .u64 0) 98
  have hb := cell_new (w.alloc (.cells #[.int .u64 0] 98)) (.slice (some ⟨g, o, none⟩) 4096 c) 32
  rw [World.size_alloc] at hb
  have hB0 : Below w.heap.size w ((w.alloc (.cells #[.int .u64 0] 98)).alloc (.cells #[.slice (some ⟨g, o, none⟩) 4096 c] 32)) := ((Below.refl _ w).alloc (Nat.le_refl _) _).alloc (by simp) _
  refine wpIn_rangeFunc_ownF rfl (by omega) (gf := 147) (lb := #[.pointer (some ⟨w.heap.size + 1, 0, none⟩)]) rfl trivial (enters_of Tryz.func147 (by kernel_rfl) rfl)
    (sectors_stops (5 - 1) (by omega) (w.heap.size + 1) g o c hc0 hc1 _ (by simp) hb.1) Box.t (Box.b (by simp)) (Below.refl _ _) (fun _ => rfl)
    (fun pre W => (W.cell? ⟨w.heap.size, 0, none⟩ = some (.int .u64 (mostOf l pre : Int)) ∧ W.frozen? ⟨w.heap.size, 0, none⟩ = false ∧ W.cell? ⟨w.heap.size + 1, 0, none⟩ = some (.slice (some ⟨g, o, none⟩) 4096 c)) ∧ Below w.heap.size w W)
    (fun _ _ _ => False)
    (OwnFrom.and (Own.from (fun s A B row hs hg hr => ⟨cell_kept hs.1 hg hr, (frozen_kept hs.1 hg hr).trans hs.2.1, cell_kept hs.2.2 hg hr⟩) _) (ownFrom_below (Nat.le_refl _) (by simp; omega)))
    (fun _ _ _ _ _ hs _ _ => hs)
    ⟨⟨cell_kept_alloc _ hs.1, frozen_kept_alloc _ hs.1 hs.2, hb.1⟩, hB0⟩
    (fun x => { tmps := #[.slice (some ⟨g, o, none⟩) 4096 c, undef, .int .u64 0, .pointer (some ⟨w.heap.size, 0, none⟩), .slice (some ⟨g, o + x.1 * 512, none⟩) 8 (c - x.1 * 512), .slice (some ⟨g, o, none⟩) 4096 c, .func (.func 147) #[] #[.pointer (some ⟨w.heap.size + 1, 0, none⟩)],
      .slice (some ⟨g, o + x.1 * 512, none⟩) 8 (c - x.1 * 512), .slice (some ⟨g, o + x.1 * 512 + 8, none⟩) 504 (c - x.1 * 512 - 8), undef, undef, undef, undef, undef, undef], defers := [] }) ?assign ?body ?done ?stop
  case assign =>
    intro l x W K hK
    dsimp only [encs]
    gi_wp2
    exact hK
  case body =>
    rintro lp pre x W ⟨⟨hcm, hfm, hbx⟩, hB⟩ _
    have HBX := Lib.hid hbx
    clear hbx
    have hmx : Tryz.prog.follows .mixedOrders = true := by kernel_rfl
    have hnum := mostOf_lt l pre
    obtain ⟨hrm, hlm⟩ := rd_mark (hr.below hB) hl x.1 x.2
    have HR := Lib.hid (hrm.more (B' := W.drew.heap.size) hB.size)
    have HRd : Hid (Rd W.drew W.drew.heap.size _ _ _) := Lib.hid (HR.out.below ((Below.refl _ W).drew))
    have HL := Lib.hid hlm
    have HB := Lib.hid hB
    have HM := Lib.hid (mostOf_snoc l pre x)
    clear hrm hlm hB HR
    have HN := Lib.hid (show (⟨Frm.mark l x.1, false⟩ : St).num 8 = val (Frm.mark l x.1) by unfold St.num; rw [if_neg (by simp), if_neg (by rw [HL.out]; omega), List.take_of_length_le (by rw [HL.out]; omega)])
    have hv := val_lt64 (Frm.mark l x.1) (by rw [HL.out]; omega)
    have HV := Lib.hid hv
    have hn1 : 1 ≤ 5 - 1 - 1 := by omega
    clear hv
    gi_wp2
    gi_region_with (first
      | (refine ⟨trivial, ?_⟩; gi_at_call 117; refine (CallsIn.inRound lp (callsIn_wide.2 (New_any _ _ 8 _ _ HRd.out HL.out (by omega)))).mono ?_; rintro e w1 ⟨g1, rfl, hg1, hrd1, hb1⟩; have hcm1 : w1.cell? ⟨w.heap.size, 0, none⟩ = some (.int .u64 (mostOf l pre : Int)) := (hb1.cell (p := ⟨w.heap.size, 0, none⟩) (lt_cell hcm)).trans hcm; have hfm1 : w1.frozen? ⟨w.heap.size, 0, none⟩ = false := (hb1.frozen (p := ⟨w.heap.size, 0, none⟩) (lt_cell hcm)).trans hfm; have HG1 := Lib.hid hg1; have HR1 := Lib.hid hrd1; have HB1 := Lib.hid hb1; clear hg1 hrd1 hb1)
      | (refine ⟨trivial, ?_⟩; gi_at_call 118; refine (CallsIn.inRound lp (callsIn_wide.2 (RUint_any g1 _ w1 HR1.out))).mono ?_; rintro e w2 ⟨rfl, hl2⟩; rw [HN.out]; have hb2 := (hl2.below HG1.out HB1.out.size); have hcm2 : w2.cell? ⟨w.heap.size, 0, none⟩ = some (.int .u64 (mostOf l pre : Int)) := (hb2.cell (p := ⟨w.heap.size, 0, none⟩) (lt_cell hcm)).trans hcm1; have hfm2 : w2.frozen? ⟨w.heap.size, 0, none⟩ = false := (hb2.frozen (p := ⟨w.heap.size, 0, none⟩) (lt_cell hcm)).trans hfm1; have HB2 := Lib.hid hb2; clear hl2 hb2))
    all_goals gi_wp2
    all_goals
      have hBW : Below W.heap.size W w2 := ((Below.refl W.heap.size W).drew).trans (HB1.out.trans HB2.out)
      have hbx2 := (hBW.cell (p := ⟨w.heap.size + 1, 0, none⟩) (lt_cell HBX.out)).trans HBX.out
      have hne : (⟨w.heap.size + 1, 0, none⟩ : Addr).block ≠ w.heap.size := by show w.heap.size + 1 ≠ w.heap.size; omega
      have key : ∀ v : Nat, v = max (mostOf l pre) (val (Frm.mark l x.1)) → KeepsOthers W (w2.setCell ⟨w.heap.size, 0, none⟩ (.int .u64 (v : Int))) ∧ Box (w.heap.size + 1) W (w2.setCell ⟨w.heap.size, 0, none⟩ (.int .u64 (v : Int))) ∧
          ((w2.setCell ⟨w.heap.size, 0, none⟩ (.int .u64 (v : Int))).cell? ⟨w.heap.size, 0, none⟩ = some (.int .u64 (mostOf l (pre ++ [x]) : Int)) ∧ (w2.setCell ⟨w.heap.size, 0, none⟩ (.int .u64 (v : Int))).frozen? ⟨w.heap.size, 0, none⟩ = false ∧ (w2.setCell ⟨w.heap.size, 0, none⟩ (.int .u64 (v : Int))).cell? ⟨w.heap.size + 1, 0, none⟩ = some (.slice (some ⟨g, o, none⟩) 4096 c)) ∧
          Below w.heap.size w (w2.setCell ⟨w.heap.size, 0, none⟩ (.int .u64 (v : Int))) := by
        intro v hv
        have hbx3 : (w2.setCell ⟨w.heap.size, 0, none⟩ (.int .u64 (v : Int))).cell? ⟨w.heap.size + 1, 0, none⟩ = some (.slice (some ⟨g, o, none⟩) 4096 c) := (World.cell?_of_block (Below.heap_setCell _ _ _ _ hne)).trans hbx2
        refine ⟨(keeps_below hBW).trans (KeepsOthers.setCell _ _ _), hbx3.trans HBX.out.symm, ⟨?_, by rw [World.frozen?_setCell]; exact hfm2, hbx3⟩, (HB.out.trans (hBW.mono HB.out.size)).setCell (p := ⟨w.heap.size, 0, none⟩) (Nat.le_refl _) _⟩
        rw [HM.out, ← hv]
        exact World.cell?_setCell_same' _ _ _ (by rw [hcm2]; rfl)
      first
        | exact key (val (Frm.mark l x.1)) (by omega)
        | exact key (mostOf l pre) (by omega)
  case done =>
    rintro D ys W hD rfl ⟨⟨hc, _⟩, hB⟩ hK
    gi_wp2
    refine ⟨by simp, .inl ⟨_, _, rfl, run_takeDeferred hK, ?_⟩⟩
    exact ⟨_, results_tmp rfl _ _ _, by rw [← mostOf_upto l 8 (Nat.le_refl _)]; rfl, hB.trans (belowK_b (w := w) (Nat.le_refl _) W D _ _ (by simp at hD; omega) hK rfl rfl)⟩
  case stop =>
    rintro D c pre W _ _ h _
    exact h.elim
theorem wpListIn_append_rd {F : Fence} {n : Nat} {P : Program} {t e : TypeId} (T : ByteTy P t e) {ops : Array Oper} {rest : List Oper} {o : Oper} {a : Act} {w : World} {Q : Exit → Act → World → Prop} (hgd : o.guard = none) (s x : Operand)
    (ho : o.op = .call { callee := .builtin .append, args := #[s, x], argTypes := #[t, t] })
    (base : Nat) (v : Value) (l : List UInt8) (hs : a.eval s = v) (hown : Mem.Own e w base v l)
    (B : Nat) (A : Option Addr) (m c : Nat) (k : List UInt8) (hx : a.eval x = .slice A m c) (hm : m = k.length) (hr : Rd w B A c k) (hlen : l.length + k.length ≤ 140737488355328) (hbase : base ≤ w.heap.size)
    (h : ∀ v' w', Mem.Own e w' base v' (l ++ k) → w.grownBy w' v.ownBlock → (v'.ownBlock = v.ownBlock ∨ v'.ownBlock = some w.heap.size) → wpListIn F n P ops Q rest (a.put o.dst v') w') : wpListIn F n P ops Q (o :: rest) a w := by
  subst hm
  obtain ⟨v', w', hrun, h2, h3, h4⟩ := run_append_rd T w o.type base v l hown B A c k hr hlen hbase
  refine wpListIn_plain hgd fun K hK => ?_
  unfold Oper.wpIn
  refine ⟨?_, ?_⟩
  · simp [Oper.about, ho, resolve, Target.leads, Sem.run_pure]
  · rw [Oper.semAt_plain F _ _ (by rw [ho]; intro c hc'; cases hc')]
    simp only [execOp, ho, resolve, invoke, builtin, Sem.run_bind, Sem.run_pure, Result.andThen_ok, List.map_toArray, List.map_cons, List.map_nil, hs, hx, hrun]
    exact hK _ _ (h v' w' h2 h3 h4)
def zpage : List UInt8 := List.replicate 4096 0
theorem length_zpage : zpage.length = 4096 := List.length_replicate
theorem make0 : ∀ W, (Instr.makeSlice 32 (.int .i64 0) (.int .i64 4096)).run Tryz.prog W = .ok (.slice (some ⟨W.heap.size, 0, none⟩) 0 4096) (W.alloc (.cells (bcs zpage) 5)) := by
  intro W
  obtain ⟨i0, hi, hz0, hz1, hz2⟩ := info_parts u8_info
  have hr := run_make (P := Tryz.prog) W 32 5 i0 _ Tryz.underlying32 hi hz0 .i64 .i64 0 4096 (by omega) (by omega) (by rw [hz2]; omega) (by omega)
  rw [hz1] at hr
  exact hr.trans (by rw [zpage, ← bcs_zeros]; rfl)
def partsOf (l : List UInt8) (pre : List (Fin 8)) : List UInt8 := (pre.map fun k => Frm.part l k.1).flatten
theorem partsOf_snoc (l : List UInt8) (pre : List (Fin 8)) (k : Fin 8) : partsOf l (pre ++ [k]) = partsOf l pre ++ Frm.part l k.1 := by simp [partsOf]
theorem partsOf_upto (l : List UInt8) (k : Nat) (h : k ≤ 8) : partsOf l (upto k) = Frm.insideTo l k := by
  induction k with
  | zero => rfl
  | succ k ih => rw [upto_succ k (by omega), partsOf_snoc, ih (by omega)]; rfl
theorem partsOf_le (l : List UInt8) (pre : List (Fin 8)) : (partsOf l pre).length ≤ 504 * pre.length := by
  induction pre with
  | nil => simp [partsOf]
  | cons k pre ih =>
    have h : partsOf l (k :: pre) = Frm.part l k.1 ++ partsOf l pre := by simp [partsOf]
    rw [h, List.length_append, List.length_cons]
    have : (Frm.part l k.1).length ≤ 504 := by unfold Frm.part; rw [List.length_take]; omega
    omega
theorem length_insideTo (l : List UInt8) (hl : l.length = 4096) (n : Nat) (h : n ≤ 8) : (Frm.insideTo l n).length = 504 * n := by
  induction n with
  | zero => rfl
  | succ n ih =>
    rw [Frm.insideTo, List.length_append, ih (by omega), Frm.part, List.length_take, List.length_drop]; omega
theorem held_le' (l : List UInt8) : (Frm.held l).length ≤ 4011 := Frm.held_le l
theorem held_take (l : List UInt8) : Frm.held l = ((Frm.insideTo l 8).drop 17).take (Frm.held l).length := by
  unfold Frm.held
  split
  · rw [List.length_take, List.take_eq_take_iff]; simp
  · rfl
def left3 (I : List UInt8) : St := (((⟨I.take 17, false⟩ : St).after 8).after 1)
theorem count_read (l : List UInt8) (hl : l.length = 4096) : (left3 (Frm.insideTo l 8)).count 4011 = ((Frm.held l).length : Int) := by
  have hI := length_insideTo l hl 8 (by omega)
  have h1 : left3 (Frm.insideTo l 8) = ⟨((Frm.insideTo l 8).drop 9).take 8, false⟩ := by
    unfold left3 St.after
    have e1 : ¬ (List.take 17 (Frm.insideTo l 8)).length < 8 := by rw [List.length_take, hI]; omega
    have e2 : ¬ (List.drop 8 (List.take 17 (Frm.insideTo l 8))).length < 1 := by rw [List.length_drop, List.length_take, hI]; omega
    simp only [if_neg e1, if_neg e2, Bool.false_eq_true, if_false]
    simp only [List.drop_take, List.drop_drop]
  have h2 : (left3 (Frm.insideTo l 8)).num 8 = Frm.count l := by
    rw [h1]
    unfold St.num Frm.count
    rw [if_neg (by simp), if_neg (by simp [hI]), List.take_take, Nat.min_self]
  unfold St.count
  rw [h2]
  unfold Frm.held
  by_cases hc : Frm.count l ≤ 4011
  · rw [if_neg (by omega), if_pos hc, List.length_take, List.length_drop, hI]; omega
  · rw [if_pos (by omega), if_neg hc]; rfl
set_option maxRecDepth 100000 in
set_option maxHeartbeats 2000000 in
theorem held_any (g o c : Nat) (l : List UInt8) (w : World) (hr : Rd w w.heap.size (some ⟨g, o, none⟩) c l) (hl : l.length = 4096) :
    Calls Tryz.prog 119 #[.slice (some ⟨g, o, none⟩) 4096 c] w fun e w' => ∃ v, e = .returned v ∧ Mem.Own 5 w' w.heap.size v (Frm.held l) ∧ Below w.heap.size w w' := by
  have hc0 : 4096 ≤ c := by have := hr.1; omega
  have hc1 : c ≤ 9223372036854775807 := by have := hr.2.1; unfold maxLen at this; omega
  have hmk := make0
  refine (callsIn_wide (n := 5)).1 ?_
  refine callsIn_of_wp_marks Tryz.func119 rfl trivial ?_ rfl
  simp only [Tryz.ntmps119, List.size_toArray, List.length_cons, List.length_nil, Nat.reduceAdd, Nat.reduceSub, Array.replicate_succ, Array.replicate_zero, List.push_toArray, List.append_toArray, List.nil_append, List.cons_append]
  gi_wp2_with (refine ⟨trivial, ?_⟩; gi_at_call 116; refine (callsIn_wide.2 (sectors_any _ _ _ _)).mono ?_; rintro e w' ⟨rfl, rfl⟩)
  obtain ⟨W0, hW0⟩ : ∃ W0, (((w.alloc (.cells (bcs zpage) 5)).alloc (.cells #[.slice (some ⟨w.heap.size, 0, none⟩) 0 4096] 32)).alloc (.cells #[.slice (some ⟨g, o, none⟩) 4096 c] 32)) = W0 := ⟨_, rfl⟩
  have hsz : W0.heap.size = w.heap.size + 3 := by rw [← hW0]; simp
  have hx1 : Boxed W0 (w.heap.size + 1) 32 (.slice (some ⟨w.heap.size, 0, none⟩) 0 4096) := by
    rw [← hW0]
    have := (Boxed.new (w.alloc (.cells (bcs zpage) 5)) 32 (.slice (some ⟨w.heap.size, 0, none⟩) 0 4096)).alloc (.cells #[.slice (some ⟨g, o, none⟩) 4096 c] 32)
    rwa [World.size_alloc] at this
  have hx2 : Boxed W0 (w.heap.size + 2) 32 (.slice (some ⟨g, o, none⟩) 4096 c) := by
    rw [← hW0]
    have := Boxed.new ((w.alloc (.cells (bcs zpage) 5)).alloc (.cells #[.slice (some ⟨w.heap.size, 0, none⟩) 0 4096] 32)) 32 (.slice (some ⟨g, o, none⟩) 4096 c)
    rwa [World.size_alloc, World.size_alloc] at this
  have hB0 : Below w.heap.size w W0 := by
    rw [← hW0]; exact (((Below.refl _ w).alloc (Nat.le_refl _) _).alloc (by simp) _).alloc (by simp; omega) _
  have hh0 : W0.heap[w.heap.size]? = some (.cells (bcs zpage) 5) := by
    rw [← hW0]
    exact (Below.heap_alloc _ _ _ (by simp; omega)).trans ((Below.heap_alloc _ _ _ (by simp)).trans (heap_alloc_new w _))
  have ho0 : Mem.Own 5 W0 w.heap.size (.slice (some ⟨w.heap.size, 0, none⟩) 0 4096) [] :=
    ⟨rfl, .inr ⟨w.heap.size, 4096, bcs zpage, rfl, Nat.le_refl _, hh0, Nat.zero_le _, by unfold maxLen; omega, by rw [size_bcs, length_zpage], by simp⟩⟩
  rw [hW0]
  clear hW0 hh0
  refine wpIn_rangeFunc_ownF rfl (by omega) (gf := 147) (lb := #[.pointer (some ⟨w.heap.size + 1 + 1, 0, none⟩)]) rfl trivial (enters_of Tryz.func147 (by kernel_rfl) rfl)
    (sectors_stops (5 - 1) (by omega) (w.heap.size + 1 + 1) g o c hc0 hc1 _ (by omega) hx2.cell) Box.t (Box.b (by omega)) (Below.refl _ _) (fun _ => rfl)
    (fun pre W => ((∃ v, Boxed W (w.heap.size + 1) 32 v ∧ Mem.Own 5 W w.heap.size v (partsOf l pre) ∧ True) ∧ Boxed W (w.heap.size + 2) 32 (.slice (some ⟨g, o, none⟩) 4096 c)) ∧ Below w.heap.size w W)
    (fun _ _ _ => False)
    (OwnFrom.and (Own.from (fun s A B row hs hg hr => ⟨holdsRow_own w.heap.size (w.heap.size + 1) 32 5 1 (fun pre => (partsOf l pre).length) (fun pre => (partsOf l pre).map bv) (fun _ _ => True) s A B row hs.1 hg hr, boxed_own (w.heap.size + 2) 32 (fun _ => Value.slice (some ⟨g, o, none⟩) 4096 c) s A B row hs.2 hg hr⟩) _) (ownFrom_below (Nat.le_refl _) (by omega)))
    (fun _ _ _ _ _ hs _ _ => hs)
    ⟨⟨⟨_, hx1, ho0, trivial⟩, hx2⟩, hB0⟩
    (fun x => { tmps := #[.slice (some ⟨g, o, none⟩) 4096 c, undef, .slice none 0 0, .pointer (some ⟨w.heap.size + 1, 0, none⟩), undef, .slice (some ⟨g, o + x.1 * 512 + 8, none⟩) 504 (c - x.1 * 512 - 8), undef, .slice (some ⟨w.heap.size, 0, none⟩) 0 4096, .slice (some ⟨g, o, none⟩) 4096 c, .func (.func 147) #[] #[.pointer (some ⟨w.heap.size + 1 + 1, 0, none⟩)],
      .slice (some ⟨g, o + x.1 * 512, none⟩) 8 (c - x.1 * 512), .slice (some ⟨g, o + x.1 * 512 + 8, none⟩) 504 (c - x.1 * 512 - 8), undef, undef, undef, undef, undef, undef, undef, undef, undef, undef, undef, undef, undef, undef, undef, undef], defers := [] }) ?assign ?body ?done ?stop
  case assign =>
    intro l x W K hK
    dsimp only [encs]
    gi_wp2
    exact hK
  case body =>
    rintro lp pre x W ⟨⟨⟨v, hv, hown, _⟩, hx⟩, hB⟩ hlen
    obtain ⟨hrp, hlp⟩ := rd_part (hr.below hB) hl x.1 x.2
    obtain ⟨A, n1, rfl, _⟩ := hown.form
    have hvc := hv.cell
    have hvf := hv.frozen
    have H1 := Lib.hid hv
    have H2 := Lib.hid hown
    have H3 := Lib.hid hx
    have H4 := Lib.hid hB
    have H5 := Lib.hid hrp
    have H6 := Lib.hid hlp
    have H7 := Lib.hid (partsOf_snoc l pre x)
    have H8 := Lib.hid (partsOf_le l pre)
    clear hv hown hx hB hrp hlp
    gi_wp2_with (gi_at_builtin; refine wpListIn_append_rd byteTy rfl _ _ rfl w.heap.size _ _ rfl H2.out _ _ _ _ _ rfl H6.out.symm H5.out (by have := H6.out; have := H8.out; omega) H4.out.size ?_; intro v2 w2 hown2 hg2 hat2; have J1 : Boxed w2 (w.heap.size + 1) 32 _ := H1.out.kept hg2 (H1.out.not_row (by decide) H2.out); have J2 : Boxed w2 (w.heap.size + 2) 32 _ := H3.out.kept hg2 (H3.out.not_row (by decide) H2.out); have jc := J1.cell; have jf := J1.frozen; obtain ⟨A2, n2, rfl, _⟩ := hown2.form; have K1 := Lib.hid J1; have K2 := Lib.hid J2; have K3 := Lib.hid hown2; have K4 := Lib.hid hg2; clear J1 J2 hown2 hg2 hat2)
    have hg2' : W.grownBy w2 (Value.slice A (partsOf l pre).length n1).ownBlock := K4.out
    have hj : ∀ j, (Value.slice A (partsOf l pre).length n1).ownBlock = some j → w.heap.size ≤ j := fun j e => (H2.out.lt j e).1
    rw [← List.length_append]
    have h3 := K1.out.set (.slice A2 (partsOf l pre ++ Frm.part l x.1).length n2)
    have hb2 : Boxed (w2.setCell ⟨w.heap.size + 1, 0, none⟩ (.slice A2 (partsOf l pre ++ Frm.part l x.1).length n2)) (w.heap.size + 2) 32 (.slice (some ⟨g, o, none⟩) 4096 c) := K2.out.other (by omega) _
    refine ⟨(KeepsOthers.of_grownBy hg2' ?_).trans (KeepsOthers.setCell _ _ _), hb2.cell.trans H3.out.cell.symm, ⟨⟨_, h3, ?_, trivial⟩, hb2⟩, (H4.out.grown hg2' H4.out.size hj).setCell (p := ⟨w.heap.size + 1, 0, none⟩) (by simp) _⟩
    · intro j ob ej hjo
      rcases H2.out.2 with ⟨e, _⟩ | ⟨g', cap, cur, e, _, hgb, _⟩
      · rw [e] at ej; cases ej
      · rw [e] at ej
        obtain rfl : g' = j := by simpa [Value.ownBlock] using ej
        rw [hgb] at hjo; cases hjo; rfl
    · rw [H7.out]
      exact K3.out.kept (grownBy_setCell' w2 (w.heap.size + 1) _) (.inr (K1.out.not_row (by decide) K3.out).symm)
  case done =>
    rintro D ys W hD rfl ⟨⟨⟨v, hv, hown, _⟩, hx⟩, hB⟩ hK
    have e8 : partsOf l (List.finRange 8) = Frm.insideTo l 8 := partsOf_upto l 8 (by omega)
    rw [e8] at hown
    have hlI := length_insideTo l hl 8 (by omega)
    have Hheld := Lib.hid (held_take l)
    have Hnum := Lib.hid (count_read l hl)
    have hk1 := held_le' l
    generalize (Frm.held l).length = k at Hheld Hnum hk1
    generalize Frm.insideTo l 8 = I at hown hlI Hheld Hnum
    obtain ⟨A, n1, rfl, hrd, _⟩ := hown.form
    obtain ⟨b, o1, rfl, _⟩ := hrd.2.2.2 (by omega)
    rw [hlI] at hv
    have hn0 : 4032 ≤ n1 := by have := hrd.1; omega
    have hn1 : n1 ≤ 9223372036854775807 := hrd.2.1
    have hvc := hv.cell
    have H1 := Lib.hid hv
    have H2 := Lib.hid hrd
    have H3 := Lib.hid hB
    have H4 := Lib.hid hK
    have H5 := Lib.hid hlI
    clear hv hrd hB hK hown hx hlI
    gi_wp2_with (first
      | (refine ⟨trivial, ?_⟩; gi_at_call 117; refine (callsIn_wide.2 (New_any _ _ 17 (I.take 17) _ (H2.out.take 17) (by rw [List.length_take, H5.out]; rfl) (by omega))).mono ?_; rintro e w1 ⟨g1, rfl, hg1, hrd1, hb1⟩; have G1 := Lib.hid hg1; have G2 := Lib.hid hrd1; have G3 := Lib.hid hb1; clear hg1 hrd1 hb1)
      | (refine ⟨trivial, ?_⟩; gi_at_call 151; refine (callsIn_wide.2 (RInt_any g1 _ w1 G2.out)).mono ?_; rintro e w2 ⟨rfl, hl2⟩; have G4 := Lib.hid hl2.1; have G5 := Lib.hid (hl2.below G1.out G3.out.size); clear hl2)
      | (refine ⟨trivial, ?_⟩; gi_at_call 152; refine (callsIn_wide.2 (RByte_any g1 _ w2 G4.out)).mono ?_; rintro e w3 ⟨rfl, hl3⟩; have G6 := Lib.hid hl3.1; have G7 := Lib.hid (hl3.below G1.out (Nat.le_trans G3.out.size G5.out.size)); clear hl3))
    have b3 : Below W.heap.size W w3 := G3.out.trans (G5.out.trans G7.out)
    have hv3 : w3.cell? ⟨w.heap.size + 1, 0, none⟩ = some (.slice (some ⟨b, o1, none⟩) 4032 n1) := (b3.cell (p := ⟨w.heap.size + 1, 0, none⟩) H1.out.lt).trans hvc
    have B3 := Lib.hid b3
    have GD : Hid (RdrS w3.drew g1 (left3 I)) := Lib.hid (Rdr.below G6.out ((Below.refl _ w3).drew) G6.out.lt)
    clear b3
    have e1 : IntKind.i64.wrap (17 + (k : Int)) = 17 + k := by rw [IntKind.wrap_i64]; omega
    have e2 : (17 + (k : Int)).toNat = 17 + k := by omega
    have e3 : (0 : Int) ≤ 17 + k := by omega
    have e4 : 17 + (k : Int) ≤ n1 := by omega
    have e5 : (17 : Int) ≤ 17 + k := by omega
    first | (gi_region_with (first
      | (refine ⟨trivial, ?_⟩; gi_at_call 153; refine (callsIn_wide.2 (RCount_any g1 _ _ 4011 GD.out (by omega) (by omega))).mono ?_; rintro e w4 ⟨rfl, hl4⟩; rw [Hnum.out]; have hb4 := hl4.below G1.out B3.out.size; have hb5 : Below W.heap.size W w4 := (B3.out.drew).trans hb4; have hv4 : w4.cell? ⟨w.heap.size + 1, 0, none⟩ = some (.slice (some ⟨b, o1, none⟩) 4032 n1) := (hb5.cell (p := ⟨w.heap.size + 1, 0, none⟩) H1.out.lt).trans hvc; have HR4 := Lib.hid ((((H2.out.below hb5).more hb5.size).drop 17 (by rw [H5.out]; omega)).take k); have G8 := Lib.hid hb5; clear hl4 hb4 hb5)
      | (refine ⟨trivial, ?_⟩; gi_at_call 38; refine (callsIn_wide.2 (clone_any _ _ k _ w4 HR4.out (by rw [List.length_take, List.length_drop, H5.out]; omega) (by omega))).mono ?_; rintro e w5 ⟨v5, rfl, hown5, hb5⟩; rw [← Hheld.out] at hown5; have G9 := Lib.hid hown5; have GA := Lib.hid hb5; clear hown5 hb5))) | fail
    all_goals gi_wp2
    all_goals
      have hB5 : Below W.heap.size W w5 := G8.out.trans (GA.out.mono G8.out.size)
      have hK5 : w5.heap[D]? = some (.deferred (some [])) := (hB5.block D (Array.getElem?_eq_some_iff.1 H4.out).1).trans H4.out
      have hO5 : Mem.Own 5 w5 w.heap.size v5 (Frm.held l) := G9.out.mono (Nat.le_trans H3.out.size G8.out.size)
      refine ⟨by simp, .inl ⟨_, _, rfl, run_takeDeferred hK5, ?_⟩⟩
      exact ⟨_, results_tmp rfl _ _ _, v5, rfl, ownsRow_putObj hO5 _ hK5 rfl, (H3.out.trans (hB5.mono H3.out.size)).trans (belowK_b (w := w) (Nat.le_refl _) w5 D _ _ (by omega) hK5 rfl rfl)⟩
  case stop =>
    rintro D c pre W _ _ h _
    exact h.elim
def splice (p : List UInt8) (o : Nat) (s : List UInt8) : List UInt8 := p.take o ++ (s ++ p.drop (o + s.length))
theorem length_splice (p : List UInt8) (o : Nat) (s : List UInt8) (h : o + s.length ≤ p.length) : (splice p o s).length = p.length := by
  unfold splice; rw [List.length_append, List.length_append, List.length_take, List.length_drop]; omega
theorem u8_size : (Tryz.prog.info? 5).map (·.size) = some 1 := by kernel_rfl
theorem run_copy_rd (W : World) (ty : TypeId) (g o dLen dCap : Nat) (p s : List UInt8) (ad : Addr) (m c B : Nat) (hg : W.heap[g]? = some (.cells (bcs p) 5 (0, 0))) (hr : Rd W B (some ad) c s) (hm : m = s.length) (n : Nat) (hn : n = min s.length dLen) (hfit : o + n ≤ p.length) :
    (Builtin.copy_ #[32, 32] ty #[.slice (some ⟨g, o, none⟩) dLen dCap, .slice (some ad) m c]).run Tryz.prog W = .ok (.int .i64 (n : Int)) (W.setRow g (bcs (splice p o (s.take n)))) := by
  subst hm
  have hls : (s.take n).length = n := by rw [List.length_take]; omega
  have h := run_copy_row (P := Tryz.prog) W 32 32 ty 5 g o dLen dCap ad s.length c (bcs p) 5 ((s.take n).map bv) Tryz.underlying32 u8_size hg (by rw [List.length_map, hls]; exact hn)
    (fun j v hv => by
      have hj : j < n := by
        rcases Nat.lt_or_ge j n with h | h
        · exact h
        · rw [List.getElem?_eq_none (by rw [List.length_map, hls]; exact h)] at hv; cases hv
      obtain ⟨b, o', e, _, hc⟩ := hr.2.2.2 (by omega)
      injection e with e
      subst e
      rw [show (⟨b, o', none⟩ : Addr).add j = ⟨b, o' + j, none⟩ by unfold Addr.add; split <;> simp_all, hc j (by omega)]
      rw [List.getElem?_map, List.getElem?_take_of_lt hj, List.getElem?_eq_getElem (by omega)] at hv
      exact hv)
    (by rw [size_bcs, List.length_map, hls]; exact hfit) (by intro v hv; simp only [List.mem_map] at hv; obtain ⟨x, _, rfl⟩ := hv; rfl)
  rw [h, List.length_map, hls]
  refine congrArg (fun z => Result.ok (Value.int .i64 (n : Int)) (W.setRow g z)) ?_
  apply Array.toList_inj.1
  simp [bcs, splice, hls]
theorem setRow_heap' (W : World) (g : Nat) (cs : Array Value) (cur : Array Value) (t : TypeId) (fr : Nat × Nat) (h : W.heap[g]? = some (.cells cur t fr)) : (W.setRow g cs).heap[g]? = some (.cells cs t fr) := by
  obtain ⟨hlt, hk⟩ := Array.getElem?_eq_some_iff.1 h
  show (W.heap.modify g _)[g]? = _
  rw [Array.getElem?_eq_getElem (by rw [Array.size_modify]; exact hlt), Array.getElem_modify_self, hk]
theorem grown_setRow (W : World) (g : Nat) (cs : Array Value) : W.grownBy (W.setRow g cs) (some g) :=
  ⟨rfl, rfl, rfl, by show W.heap.size ≤ (W.heap.modify g _).size; simp, fun j _ hj => by
    show (W.heap.modify g _)[j]? = _
    rw [Array.getElem?_modify, if_neg (fun e => hj (by rw [e]))]⟩
theorem rd_row {W : World} {g cap : Nat} {cur : Array Value} {fr : Nat × Nat} {l : List UInt8} (h : W.heap[g]? = some (.cells cur 5 fr)) (hl : l.length ≤ cap) (hm : cap ≤ maxLen) (ht : cur.toList.take l.length = l.map bv) (B : Nat) (hB : g < B) : Rd W B (some ⟨g, 0, none⟩) cap l :=
  ⟨hl, hm, fun e => (by cases e), fun _ => ⟨g, 0, rfl, hB, fun i hi => by
    rw [cell_of_row _ _ _ _ _ _ h, Nat.zero_add]
    have h2 : (cur.toList.take l.length)[i]? = some (bv l[i]) := by rw [ht]; simp [hi]
    rw [List.getElem?_take_of_lt hi, Array.getElem?_toList] at h2
    exact h2⟩⟩
theorem heap_own {β : Type} (B : Nat) (f : β → Obj) (hf : ∀ s, (f s).isCells = true) : Go.Own (fun s W => W.heap[B]? = some (f s)) := fun s X Y row hs hg hrow =>
  (hg.block B (Array.getElem?_eq_some_iff.1 hs).1 (fun e' => by
    obtain ⟨o, ho, hc⟩ := hrow B e'.symm
    rw [show X.heap[B]? = _ from hs] at ho; cases ho
    rw [hf] at hc; cases hc)).trans hs
def lay1 (m i : List UInt8) (s : List UInt8 × Nat) (k : Fin 8) : List UInt8 × Nat := (splice (splice s.1 (k.1 * 512) m) (k.1 * 512 + 8) (Frm.seg i s.2), s.2 + 1)
def layTo (m i : List UInt8) (pre : List (Fin 8)) : List UInt8 × Nat := pre.foldl (lay1 m i) (zpage, 0)
theorem layTo_snoc (m i : List UInt8) (pre : List (Fin 8)) (k : Fin 8) : layTo m i (pre ++ [k]) = lay1 m i (layTo m i pre) k := by simp [layTo]
theorem layTo_snd (m i : List UInt8) (pre : List (Fin 8)) : (layTo m i pre).2 = pre.length := by
  have h : ∀ s : List UInt8 × Nat, (pre.foldl (lay1 m i) s).2 = s.2 + pre.length := by
    induction pre with
    | nil => intro s; rfl
    | cons k pre ih => intro s; rw [List.foldl_cons, ih, List.length_cons]; show s.2 + 1 + _ = _; omega
  rw [layTo, h]; exact Nat.zero_add _
theorem length_lay1 (m i : List UInt8) (s : List UInt8 × Nat) (k : Fin 8) (hm : m.length = 8) (hs : s.1.length = 4096) : (lay1 m i s k).1.length = 4096 := by
  have hk := k.2
  have hseg : (Frm.seg i s.2).length ≤ 504 := by unfold Frm.seg; rw [List.length_take]; omega
  have h1 : (splice s.1 (k.1 * 512) m).length = 4096 := by rw [length_splice _ _ _ (by omega)]; exact hs
  show (splice _ _ _).length = _
  rw [length_splice _ _ _ (by omega)]; exact h1
theorem length_layTo (m i : List UInt8) (pre : List (Fin 8)) (hm : m.length = 8) : (layTo m i pre).1.length = 4096 := by
  have h : ∀ s : List UInt8 × Nat, s.1.length = 4096 → (pre.foldl (lay1 m i) s).1.length = 4096 := by
    induction pre with
    | nil => intro s hs; exact hs
    | cons k pre ih => intro s hs; exact ih _ (length_lay1 m i s k hm hs)
  exact h _ length_zpage
theorem layTo_upto (m i : List UInt8) (k : Nat) (hk : k ≤ 8) (hm : m.length = 8) (hi : i.length = 4032) : (layTo m i (upto k)).1 = Frm.pageTo m i k ++ List.replicate (4096 - 512 * k) 0 := by
  induction k with
  | zero => exact (List.nil_append zpage).symm
  | succ k ih =>
    rw [upto_succ k (by omega), layTo_snoc]
    have h2 : (layTo m i (upto k)).2 = k := by rw [layTo_snd, length_upto _ (by omega)]
    show splice (splice (layTo m i (upto k)).1 (k * 512) m) (k * 512 + 8) (Frm.seg i (layTo m i (upto k)).2) = _
    rw [h2, ih (by omega), Frm.pageTo]
    have hp := Frm.length_pageTo m i k hm (by omega)
    have hs := Frm.length_seg i k (by omega)
    generalize Frm.pageTo m i k = P at hp
    generalize Frm.seg i k = S at hs
    have e1 : splice (P ++ List.replicate (4096 - 512 * k) 0) (k * 512) m = (P ++ m) ++ List.replicate (4096 - 512 * k - 8) 0 := by
      unfold splice
      rw [List.take_left' (by omega), List.drop_append, List.drop_of_length_le (by omega), List.nil_append, List.drop_replicate, hm, hp, List.append_assoc]
      refine congrArg (fun n => P ++ (m ++ List.replicate n 0)) ?_
      omega
    rw [e1]
    unfold splice
    rw [List.take_left' (by rw [List.length_append]; omega), List.drop_append, List.drop_of_length_le (by rw [List.length_append]; omega), List.nil_append, List.drop_replicate, hs, List.length_append, hp, hm]
    simp only [List.append_assoc]
    refine congrArg (fun n => P ++ (m ++ (S ++ List.replicate n 0))) ?_
    omega
theorem layTo_all (m i : List UInt8) (hm : m.length = 8) (hi : i.length = 4032) : (layTo m i (List.finRange 8)).1 = Frm.pageTo m i 8 := by
  have := layTo_upto m i 8 (Nat.le_refl _) hm hi
  rw [upto_all] at this
  rw [this]; simp
theorem concat_any' (A : Option Addr) (n c : Nat) (ps : List Part) (w : World) (hn : n = ps.length) (hp : Pts w w.heap.size A c ps) (h0 : 0 < ps.length) (h1 : ps.length ≤ 1000) (hs : (flat ps).length ≤ 70368744177664) :
    Calls Tryz.prog 111 #[.slice A n c] w fun e w' => ∃ v, e = .returned v ∧ Mem.Own 5 w' w.heap.size v (flat ps) ∧ Below w.heap.size w w' := by
  subst hn
  obtain ⟨b, o, rfl, hb, hc⟩ := hp.2.2.2 h0
  exact concat_any b o c ps w hb hc h1 hs
theorem make_page : ∀ W, (Instr.makeSlice 32 (.int .i64 4096) (.int .i64 4096)).run Tryz.prog W = .ok (.slice (some ⟨W.heap.size, 0, none⟩) 4096 4096) (W.alloc (.cells (bcs zpage) 5)) := by
  intro W
  have hr := run_make_row' (P := Tryz.prog) 32 5 (.int .u8 0) 1 Tryz.underlying32 u8_info rfl .i64 .i64 4096 (by omega) (by omega) W
  rw [bcs_zeros] at hr
  exact hr
theorem own_row {w : World} (g : Nat) (l : List UInt8) (base : Nat) (hb : base ≤ g) (hm : l.length ≤ maxLen) (h : w.heap[g]? = some (.cells (bcs l) 5 (0, 0))) : Mem.Own 5 w base (.slice (some ⟨g, 0, none⟩) l.length l.length) l :=
  ⟨by simp, .inr ⟨g, l.length, bcs l, rfl, hb, h, Nat.le_refl _, hm, by simp [bcs], by simp [bcs, List.take_of_length_le]⟩⟩
theorem own_of {w : World} {base : Nat} {v : Value} {l : List UInt8} (h : Mem.Own 5 w base v l) (hl : l.length = 4032) : ∃ g c, v = .slice (some ⟨g, 0, none⟩) 4032 c ∧ base ≤ g := by
  rcases h.2 with ⟨_, h0⟩ | ⟨g, cap, cur, rfl, hg, _⟩
  · omega
  · exact ⟨g, cap, by rw [hl], hg⟩
theorem box_1 (w : World) (o p : Obj) : (((w.alloc o).alloc (.cells #[.slice none 0 0] 32)).alloc p).drew.cell? ⟨w.heap.size + 1, 0, none⟩ = some (.slice none 0 0) ∧ (((w.alloc o).alloc (.cells #[.slice none 0 0] 32)).alloc p).drew.frozen? ⟨w.heap.size + 1, 0, none⟩ = false := by
  have h := cell_new (w.alloc o) (.slice none 0 0) 32
  have h1 := cell_kept_alloc p h.1
  have h2 := frozen_kept_alloc p h.1 h.2
  rw [World.size_alloc] at h1 h2
  exact ⟨h1, h2⟩
theorem box_2 (w : World) (o p : Obj) : (((w.alloc o).alloc p).alloc (.cells #[.slice none 0 0] 32)).drew.cell? ⟨w.heap.size + 1 + 1, 0, none⟩ = some (.slice none 0 0) ∧ (((w.alloc o).alloc p).alloc (.cells #[.slice none 0 0] 32)).drew.frozen? ⟨w.heap.size + 1 + 1, 0, none⟩ = false := by
  have h := cell_new ((w.alloc o).alloc p) (.slice none 0 0) 32
  rw [World.size_alloc, World.size_alloc] at h
  exact h
theorem box_3 (w : World) (o : Obj) : ((w.alloc o).alloc (.cells #[.slice none 0 0] 32)).drew.cell? ⟨w.heap.size + 1, 0, none⟩ = some (.slice none 0 0) ∧ ((w.alloc o).alloc (.cells #[.slice none 0 0] 32)).drew.frozen? ⟨w.heap.size + 1, 0, none⟩ = false := by
  have h := cell_new (w.alloc o) (.slice none 0 0) 32
  rw [World.size_alloc] at h
  exact h
structure LaidSt (w wc : World) (Am : Option Addr) (cm : Nat) (i : List UInt8) (gp gb bl cl : Nat) : Prop where
  left : Boxed wc bl 32 (.slice (some ⟨gb, 0, none⟩) 4032 cl)
  page : wc.heap[gp]? = some (.cells (bcs zpage) 5 (0, 0))
  own : Mem.Own 5 wc w.heap.size (.slice (some ⟨gb, 0, none⟩) 4032 cl) i
  ne : gp ≠ gb
  mark : Boxed wc w.heap.size 32 (.slice Am 8 cm)
  lt1 : w.heap.size < gp
  lt2 : w.heap.size < bl
  lt3 : w.heap.size < gb
  below : Below w.heap.size w wc
theorem laid_fin {w X w1 wc : World} {row : Option Nat} {Am : Option Addr} {cm : Nat} {i : List UInt8} {g1 c1 gp bl : Nat} (hb : Below X.heap.size X w1) (hwX : Below w.heap.size w X) (hmX : Boxed X w.heap.size 32 (.slice Am 8 cm)) (hown : Mem.Own 5 w1 X.heap.size (.slice (some ⟨g1, 0, none⟩) 4032 c1) i) (hg1 : X.heap.size ≤ g1)
    (hg : w1.grownBy wc row) (hrow : ∀ r, row = some r → w.heap.size < r ∧ r < X.heap.size) (hp : wc.heap[gp]? = some (.cells (bcs zpage) 5 (0, 0))) (hl : Boxed wc bl 32 (.slice (some ⟨g1, 0, none⟩) 4032 c1)) (hne : gp ≠ g1) (lt1 : w.heap.size < gp) (lt2 : w.heap.size < bl) : LaidSt w wc Am cm i gp g1 bl c1 :=
  ⟨hl, hp, by
    have h2 : Mem.Own 5 wc X.heap.size (.slice (some ⟨g1, 0, none⟩) 4032 c1) i := World.ownsRow.kept hown hg (.inr fun e => by
      have e2 : row = some g1 := by rw [← e]; rfl
      have := (hrow _ e2).2; omega)
    exact h2.mono hwX.size, hne, Boxed.kept (show Boxed w1 w.heap.size 32 _ from (hb.block _ hmX.lt).trans hmX) hg (fun e => by have := (hrow _ e.symm).1; omega), lt1, lt2, by have := hmX.lt; omega, (hwX.trans (hb.mono hwX.size)).grown hg (Nat.le_trans hwX.size hb.size) (fun k e => by have := (hrow _ e).1; omega)⟩
theorem heap3 (w : World) (a b c : Obj) : (((w.alloc a).alloc b).alloc c).heap[w.heap.size]? = some a ∧ (((w.alloc a).alloc b).alloc c).heap[w.heap.size + 1]? = some b ∧ (((w.alloc a).alloc b).alloc c).heap[w.heap.size + 2]? = some c := by
  refine ⟨(Below.heap_alloc _ _ _ (by simp; omega)).trans (heap_alloc2_old w a b), (Below.heap_alloc _ _ _ (by simp)).trans (heap_alloc2_new w a b), ?_⟩
  have := heap_alloc_new ((w.alloc a).alloc b) c
  rw [World.size_alloc, World.size_alloc] at this
  exact this
section
variable {w w1 : World} {Am : Option Addr} {cm : Nat} {i : List UInt8} {g1 c1 : Nat} {pg0 : Array Value}
theorem laidA (hP : bcs zpage = pg0) (hb : Below (((w.alloc (.cells #[.slice Am 8 cm] 32)).alloc (.cells pg0 5)).drew).heap.size ((w.alloc (.cells #[.slice Am 8 cm] 32)).alloc (.cells pg0 5)).drew w1) (hown : Mem.Own 5 w1 (((w.alloc (.cells #[.slice Am 8 cm] 32)).alloc (.cells pg0 5)).drew).heap.size (.slice (some ⟨g1, 0, none⟩) 4032 c1) i) (hg1 : (((w.alloc (.cells #[.slice Am 8 cm] 32)).alloc (.cells pg0 5)).drew).heap.size ≤ g1) :
    LaidSt w (w1.alloc (.cells #[.slice (some ⟨g1, 0, none⟩) 4032 c1] 32)) Am cm i (w.heap.size + 1) g1 w1.heap.size c1 := by
  subst hP
  have hs : ((w.alloc (.cells #[.slice Am 8 cm] 32)).alloc (.cells (bcs zpage) 5)).drew.heap.size = w.heap.size + 2 := by show ((w.alloc _).alloc _).heap.size = _; rw [World.size_alloc, World.size_alloc]
  have h1 := hb.size
  refine laid_fin (row := none) hb ((((Below.refl _ w).alloc (Nat.le_refl _) _).alloc (by simp) _).drew) (heap_alloc2_old w _ _) hown hg1 (World.grownBy_alloc _ _ none) (fun r e => by cases e) ?_ (Boxed.new _ _ _) (by omega) (by omega) (by omega)
  exact (Below.heap_alloc _ _ _ (by omega)).trans ((hb.block _ (by omega)).trans (heap_alloc2_new w _ _))
theorem laidB (hP : bcs zpage = pg0) (hb : Below ((((w.alloc (.cells #[.slice Am 8 cm] 32)).alloc (.cells pg0 5)).alloc (.cells #[.slice none 0 0] 32)).drew).heap.size (((w.alloc (.cells #[.slice Am 8 cm] 32)).alloc (.cells pg0 5)).alloc (.cells #[.slice none 0 0] 32)).drew w1) (hown : Mem.Own 5 w1 ((((w.alloc (.cells #[.slice Am 8 cm] 32)).alloc (.cells pg0 5)).alloc (.cells #[.slice none 0 0] 32)).drew).heap.size (.slice (some ⟨g1, 0, none⟩) 4032 c1) i) (hg1 : ((((w.alloc (.cells #[.slice Am 8 cm] 32)).alloc (.cells pg0 5)).alloc (.cells #[.slice none 0 0] 32)).drew).heap.size ≤ g1) :
    LaidSt w (w1.setCell ⟨w.heap.size + 1 + 1, 0, none⟩ (.slice (some ⟨g1, 0, none⟩) 4032 c1)) Am cm i (w.heap.size + 1) g1 (w.heap.size + 1 + 1) c1 := by
  subst hP
  have hs : (((w.alloc (.cells #[.slice Am 8 cm] 32)).alloc (.cells (bcs zpage) 5)).alloc (.cells #[.slice none 0 0] 32)).drew.heap.size = w.heap.size + 3 := by show (((w.alloc _).alloc _).alloc _).heap.size = _; rw [World.size_alloc, World.size_alloc, World.size_alloc]
  have h1 := hb.size
  obtain ⟨k1, k2, k3⟩ := heap3 w (.cells #[.slice Am 8 cm] 32) (.cells (bcs zpage) 5) (.cells #[.slice none 0 0] 32)
  have hx : Boxed w1 (w.heap.size + 1 + 1) 32 (.slice none 0 0) := (hb.block _ (by omega)).trans k3
  refine laid_fin (row := some (w.heap.size + 1 + 1)) hb (((((Below.refl _ w).alloc (Nat.le_refl _) _).alloc (by simp) _).alloc (by simp; omega) _).drew) k1 hown hg1 (grownBy_setCell' _ _ _) (fun r e => by cases e; omega) ?_ (hx.set _) (by omega) (by omega) (by omega)
  exact (Below.heap_setCell _ _ _ _ (by show w.heap.size + 1 ≠ w.heap.size + 1 + 1; omega)).trans ((hb.block _ (by omega)).trans k2)
theorem laidC (hP : bcs zpage = pg0) (hb : Below ((w.alloc (.cells #[.slice Am 8 cm] 32)).drew).heap.size (w.alloc (.cells #[.slice Am 8 cm] 32)).drew w1) (hown : Mem.Own 5 w1 ((w.alloc (.cells #[.slice Am 8 cm] 32)).drew).heap.size (.slice (some ⟨g1, 0, none⟩) 4032 c1) i) (hg1 : ((w.alloc (.cells #[.slice Am 8 cm] 32)).drew).heap.size ≤ g1) (hlt : g1 < w1.heap.size) :
    LaidSt w ((w1.alloc (.cells pg0 5)).alloc (.cells #[.slice (some ⟨g1, 0, none⟩) 4032 c1] 32)) Am cm i w1.heap.size g1 (w1.heap.size + 1) c1 ∧
    LaidSt w ((w1.alloc (.cells #[.slice (some ⟨g1, 0, none⟩) 4032 c1] 32)).alloc (.cells pg0 5)) Am cm i (w1.heap.size + 1) g1 w1.heap.size c1 := by
  subst hP
  have hs : (w.alloc (.cells #[.slice Am 8 cm] 32)).drew.heap.size = w.heap.size + 1 := by show (w.alloc _).heap.size = _; rw [World.size_alloc]
  have h1 := hb.size
  constructor
  · exact laid_fin (row := none) hb (((Below.refl _ w).alloc (Nat.le_refl _) _).drew) (heap_alloc_new w _) hown hg1 (grownBy_trans (World.grownBy_alloc _ _ none) (World.grownBy_alloc _ _ none)) (fun r e => by cases e) (heap_alloc2_old w1 _ _) (heap_alloc2_new w1 _ _) (by omega) (by omega) (by omega)
  · exact laid_fin (row := none) hb (((Below.refl _ w).alloc (Nat.le_refl _) _).drew) (heap_alloc_new w _) hown hg1 (grownBy_trans (World.grownBy_alloc _ _ none) (World.grownBy_alloc _ _ none)) (fun r e => by cases e) (heap_alloc2_new w1 _ _) (heap_alloc2_old w1 _ _) (by omega) (by omega) (by omega)
theorem laidE (hP : bcs zpage = pg0) (hb : Below ((((w.alloc (.cells #[.slice Am 8 cm] 32)).alloc (.cells #[.slice none 0 0] 32)).alloc (.cells pg0 5)).drew).heap.size (((w.alloc (.cells #[.slice Am 8 cm] 32)).alloc (.cells #[.slice none 0 0] 32)).alloc (.cells pg0 5)).drew w1) (hown : Mem.Own 5 w1 ((((w.alloc (.cells #[.slice Am 8 cm] 32)).alloc (.cells #[.slice none 0 0] 32)).alloc (.cells pg0 5)).drew).heap.size (.slice (some ⟨g1, 0, none⟩) 4032 c1) i) (hg1 : ((((w.alloc (.cells #[.slice Am 8 cm] 32)).alloc (.cells #[.slice none 0 0] 32)).alloc (.cells pg0 5)).drew).heap.size ≤ g1) :
    LaidSt w (w1.setCell ⟨w.heap.size + 1, 0, none⟩ (.slice (some ⟨g1, 0, none⟩) 4032 c1)) Am cm i (w.heap.size + 1 + 1) g1 (w.heap.size + 1) c1 := by
  subst hP
  have hs : (((w.alloc (.cells #[.slice Am 8 cm] 32)).alloc (.cells #[.slice none 0 0] 32)).alloc (.cells (bcs zpage) 5)).drew.heap.size = w.heap.size + 3 := by show (((w.alloc _).alloc _).alloc _).heap.size = _; rw [World.size_alloc, World.size_alloc, World.size_alloc]
  have h1 := hb.size
  obtain ⟨k1, k2, k3⟩ := heap3 w (.cells #[.slice Am 8 cm] 32) (.cells #[.slice none 0 0] 32) (.cells (bcs zpage) 5)
  have hx : Boxed w1 (w.heap.size + 1) 32 (.slice none 0 0) := (hb.block _ (by omega)).trans k2
  refine laid_fin (row := some (w.heap.size + 1)) hb (((((Below.refl _ w).alloc (Nat.le_refl _) _).alloc (by simp) _).alloc (by simp; omega) _).drew) k1 hown hg1 (grownBy_setCell' _ _ _) (fun r e => by cases e; omega) ?_ (hx.set _) (by omega) (by omega) (by omega)
  exact (Below.heap_setCell _ _ _ _ (by show w.heap.size + 1 + 1 ≠ w.heap.size + 1; omega)).trans ((hb.block _ (by omega)).trans k3)
theorem laidF (hP : bcs zpage = pg0) (hb : Below (((w.alloc (.cells #[.slice Am 8 cm] 32)).alloc (.cells #[.slice none 0 0] 32)).drew).heap.size ((w.alloc (.cells #[.slice Am 8 cm] 32)).alloc (.cells #[.slice none 0 0] 32)).drew w1) (hown : Mem.Own 5 w1 (((w.alloc (.cells #[.slice Am 8 cm] 32)).alloc (.cells #[.slice none 0 0] 32)).drew).heap.size (.slice (some ⟨g1, 0, none⟩) 4032 c1) i) (hg1 : (((w.alloc (.cells #[.slice Am 8 cm] 32)).alloc (.cells #[.slice none 0 0] 32)).drew).heap.size ≤ g1) (hlt : g1 < w1.heap.size) :
    LaidSt w ((w1.alloc (.cells pg0 5)).setCell ⟨w.heap.size + 1, 0, none⟩ (.slice (some ⟨g1, 0, none⟩) 4032 c1)) Am cm i w1.heap.size g1 (w.heap.size + 1) c1 := by
  subst hP
  have hs : ((w.alloc (.cells #[.slice Am 8 cm] 32)).alloc (.cells #[.slice none 0 0] 32)).drew.heap.size = w.heap.size + 2 := by show ((w.alloc _).alloc _).heap.size = _; rw [World.size_alloc, World.size_alloc]
  have h1 := hb.size
  have hx : Boxed w1 (w.heap.size + 1) 32 (.slice none 0 0) := (hb.block _ (by omega)).trans (heap_alloc2_new w _ _)
  refine laid_fin (row := some (w.heap.size + 1)) hb ((((Below.refl _ w).alloc (Nat.le_refl _) _).alloc (by simp) _).drew) (heap_alloc2_old w _ _) hown hg1 (grownBy_trans (World.grownBy_alloc w1 (.cells (bcs zpage) 5) _) (grownBy_setCell' _ _ _)) (fun r e => by cases e; omega) ?_ ((hx.alloc _).set _) (by omega) (by omega) (by omega)
  exact (Below.heap_setCell _ _ _ _ (by show w1.heap.size ≠ w.heap.size + 1; omega)).trans (heap_alloc_new w1 _)
end
set_option maxRecDepth 100000 in
set_option maxHeartbeats 2000000 in
theorem laid_any (Am Ap : Option Addr) (cm cp np : Nat) (m : List UInt8) (ps : List Part) (w : World) (hm : Rd w w.heap.size Am cm m) (hm8 : m.length = 8) (hp : Pts w w.heap.size Ap cp ps) (hnp : np = ps.length) (h0 : 0 < ps.length) (h1 : ps.length ≤ 1000) (hi : (flat ps).length = 4032) :
    Calls Tryz.prog 139 #[.slice Am 8 cm, .slice Ap np cp] w fun e w' => ∃ v, e = .returned v ∧ Mem.Own 5 w' w.heap.size v (Frm.pageTo m (flat ps) 8) ∧ Below w.heap.size w w' := by
  have hmk0 := make_page
  obtain ⟨pg0, hpg0⟩ : ∃ p, bcs zpage = p := ⟨_, rfl⟩
  have hmk : ∀ W, (Instr.makeSlice 32 (.int .i64 4096) (.int .i64 4096)).run Tryz.prog W = .ok (.slice (some ⟨W.heap.size, 0, none⟩) 4096 4096) (W.alloc (.cells pg0 5)) := by
    rw [← hpg0]; exact hmk0
  have HP := Lib.hid hpg0
  clear hmk0 hpg0
  have hC : ∀ W : World, Below w.heap.size w W → Calls Tryz.prog 111 #[.slice Ap np cp] W fun e w' => ∃ v, e = .returned v ∧ Mem.Own 5 w' W.heap.size v (flat ps) ∧ Below W.heap.size W w' := fun W h =>
    concat_any' Ap np cp ps W hnp ((hp.below h).more h.size) h0 h1 (by omega)
  obtain ⟨mb, mo, rfl, _⟩ := hm.2.2.2 (by omega)
  have HC := Lib.hid hC
  have HM := Lib.hid hm
  clear hC hm hnp h0 h1 hp
  refine (callsIn_wide (n := 5)).1 ?_
  refine callsIn_of_wp_marks Tryz.func139 rfl trivial ?_ rfl
  simp only [Tryz.ntmps139, List.size_toArray, List.length_cons, List.length_nil, Nat.reduceAdd, Nat.reduceSub, Array.replicate_succ, Array.replicate_zero, List.push_toArray, List.append_toArray, List.nil_append, List.cons_append]
  gi_upto_region 1 with fail
  gi_cut [5, 6] from 9 (fun s5 s6 wc => ∃ gp gb bl cl, s5 = .slice (some ⟨gp, 0, none⟩) 4096 4096 ∧ s6 = .pointer (some ⟨bl, 0, none⟩) ∧ LaidSt w wc (some ⟨mb, mo, none⟩) cm (flat ps) gp gb bl cl)
  case first =>
    rename_i J K' hJ hK'
    have HJ := Lib.hid hJ
    clear hJ
    have HX := Lib.hid (box_1 w (.cells #[.slice (some ⟨mb, mo, none⟩) 8 cm] 32) (.cells pg0 5))
    have HY := Lib.hid (box_2 w (.cells #[.slice (some ⟨mb, mo, none⟩) 8 cm] 32) (.cells pg0 5))
    have HZ := Lib.hid (box_3 w (.cells #[.slice (some ⟨mb, mo, none⟩) 8 cm] 32))
    first | (gi_region_with (refine ⟨trivial, ?_⟩; gi_at_call 111; (with_reducible refine (callsIn_wide.2 (HC.out _ ?_)).mono ?_); (repeat (first | with_reducible exact Below.refl _ _ | with_reducible apply Below.drew | (with_reducible refine Below.alloc ?_ (by first | (simp; done) | (simp; omega)) _))); rintro e w1 ⟨v1, rfl, hown, hb⟩; obtain ⟨g1, c1, rfl, hg1⟩ := own_of hown hi; (try with_reducible have hx1 := (Eq.trans (hb.cell (p := ⟨w.heap.size + 1, 0, none⟩) (by first | (simp; done) | (simp; omega))) HX.out.1)); (try with_reducible have hx2 := (Eq.trans (hb.frozen (p := ⟨w.heap.size + 1, 0, none⟩) (by first | (simp; done) | (simp; omega))) HX.out.2)); (try with_reducible have hx1 := (Eq.trans (hb.cell (p := ⟨w.heap.size + 1 + 1, 0, none⟩) (by first | (simp; done) | (simp; omega))) HY.out.1)); (try with_reducible have hx2 := (Eq.trans (hb.frozen (p := ⟨w.heap.size + 1 + 1, 0, none⟩) (by first | (simp; done) | (simp; omega))) HY.out.2)); (try with_reducible have hx1 := (Eq.trans (hb.cell (p := ⟨w.heap.size + 1, 0, none⟩) (by first | (simp; done) | (simp; omega))) HZ.out.1)); (try with_reducible have hx2 := (Eq.trans (hb.frozen (p := ⟨w.heap.size + 1, 0, none⟩) (by first | (simp; done) | (simp; omega))) HZ.out.2)); (try have hx3 := fun o => cell_kept_alloc o hx1); (try have hx4 := fun o => frozen_kept_alloc o hx1 hx2); have H1 := Lib.hid hown; have H2 := Lib.hid hb; have H3 := Lib.hid hg1; clear hown hb hg1)) | fail
    all_goals
      refine hK' _ _ ?_
      have hJ := HJ.out
      gi_meet
    all_goals
      have hlt := (own_lt H1.out).2
      first
        | with_reducible exact ⟨_, _, _, _, rfl, rfl, laidA HP.out H2.out H1.out H3.out⟩
        | with_reducible exact ⟨_, _, _, _, rfl, rfl, laidB HP.out H2.out H1.out H3.out⟩
        | with_reducible exact ⟨_, _, _, _, rfl, rfl, (laidC HP.out H2.out H1.out H3.out hlt).1⟩
        | with_reducible exact ⟨_, _, _, _, rfl, rfl, (laidC HP.out H2.out H1.out H3.out hlt).2⟩
        | with_reducible exact ⟨_, _, _, _, rfl, rfl, laidE HP.out H2.out H1.out H3.out⟩
        | with_reducible exact ⟨_, _, _, _, rfl, rfl, laidF HP.out H2.out H1.out H3.out hlt⟩
  obtain ⟨gp, gb, bl, cl, rfl, rfl, hS⟩ := hcut
  clear hmk HP HC
  obtain ⟨cur, hh, hcl0, hcl1, hcs, hcu⟩ : ∃ cur, wc.heap[gb]? = some (.cells cur 5 (0, 0)) ∧ 4032 ≤ cl ∧ cl ≤ maxLen ∧ cur.size = cl ∧ cur.toList.take 4032 = (flat ps).map bv := by
    rcases hS.own.2 with ⟨e, _⟩ | ⟨g, cap, cur, e, _, h1, h2, h3, h4, h5⟩
    · cases e
    · injection e with e1 e2 e3
      injection e1 with e1
      injection e1 with e1
      subst e1 e3
      rw [hi] at h2 h5
      exact ⟨cur, h1, h2, h3, by omega, h5⟩
  obtain ⟨W9, hW9⟩ : ∃ W9, wc.alloc (.cells #[.slice (some ⟨gp, 0, none⟩) 4096 4096] 32) = W9 := ⟨_, rfl⟩
  have hx2 : Boxed W9 wc.heap.size 32 (.slice (some ⟨gp, 0, none⟩) 4096 4096) := by rw [← hW9]; exact Boxed.new _ _ _
  have hsz : W9.heap.size = wc.heap.size + 1 := by rw [← hW9]; simp
  have hg9 : wc.grownBy W9 none := by rw [← hW9]; exact World.grownBy_alloc _ _ none
  have k1 : W9.heap[gp]? = some (.cells (bcs (layTo m (flat ps) []).1) 5 (0, 0)) := (hg9.block gp (Array.getElem?_eq_some_iff.1 hS.page).1 (by simp)).trans hS.page
  have k2 : W9.heap[gb]? = some (.cells cur 5 (0, 0)) := (hg9.block gb (Array.getElem?_eq_some_iff.1 hh).1 (by simp)).trans hh
  have k3 : Boxed W9 bl 32 (.slice (some ⟨gb, 0, none⟩) 4032 cl) := hS.left.kept hg9 (by simp)
  have k4 := hS.mark.kept hg9 (by simp)
  have hB9 : Below w.heap.size w W9 := hS.below.grown hg9 hS.below.size (fun k e => by cases e)
  have hne := hS.ne
  have l1 := hS.lt1
  have l2 := hS.lt2
  have l3 := hS.lt3
  have hlb : bl < wc.heap.size := hS.left.lt
  have hlg : gp < wc.heap.size := (Array.getElem?_eq_some_iff.1 hS.page).1
  have HS := Lib.hid hS
  clear hS
  gi_wp2_with (refine ⟨trivial, ?_⟩; gi_at_call 116; refine (callsIn_wide.2 (sectors_any _ _ _ _)).mono ?_; rintro e w' ⟨rfl, rfl⟩)
  refine wpIn_rangeFunc_ownF rfl (by omega) (gf := 147) (lb := #[.pointer (some ⟨wc.heap.size, 0, none⟩)]) rfl trivial (enters_of Tryz.func147 (by kernel_rfl) rfl)
    (sectors_stops (5 - 1) (by omega) wc.heap.size gp 0 4096 (Nat.le_refl _) (by omega) _ (by omega) hx2.cell) Box.t (Box.b (by omega)) (Below.refl _ _) (fun _ => rfl)
    (fun pre W => (W.heap[gp]? = some (.cells (bcs (layTo m (flat ps) pre).1) 5 (0, 0)) ∧ W.heap[gb]? = some (.cells cur 5 (0, 0)) ∧ (∃ ad : Addr, Boxed W bl 32 (.slice (some ad) (4032 - 504 * pre.length) (cl - 504 * pre.length)) ∧ (pre.length < 8 → ad = ⟨gb, 504 * pre.length, none⟩)) ∧ Boxed W w.heap.size 32 (.slice (some ⟨mb, mo, none⟩) 8 cm) ∧ Boxed W wc.heap.size 32 (.slice (some ⟨gp, 0, none⟩) 4096 4096)) ∧ Below w.heap.size w W)
    (fun _ _ _ => False)
    (OwnFrom.and (Own.from (fun s A B row hs hg hr => ⟨heap_own gp (fun pre => .cells (bcs (layTo m (flat ps) pre).1) 5 (0, 0)) (fun _ => rfl) s A B row hs.1 hg hr, heap_own gb (fun _ => .cells cur 5 (0, 0)) (fun _ => rfl) s A B row hs.2.1 hg hr, (by obtain ⟨ad, h1, h2⟩ := hs.2.2.1; exact ⟨ad, boxed_own bl 32 (fun (s : List (Fin 8)) => .slice (some ad) (4032 - 504 * s.length) (cl - 504 * s.length)) s A B row h1 hg hr, h2⟩), boxed_own w.heap.size 32 (fun _ => .slice (some ⟨mb, mo, none⟩) 8 cm) s A B row hs.2.2.2.1 hg hr, boxed_own wc.heap.size 32 (fun _ => .slice (some ⟨gp, 0, none⟩) 4096 4096) s A B row hs.2.2.2.2 hg hr⟩) _) (ownFrom_below (Nat.le_refl _) (by omega)))
    (fun _ _ _ _ _ hs _ _ => hs)
    ⟨⟨k1, k2, ⟨_, k3, fun _ => rfl⟩, k4, hx2⟩, hB9⟩
    (fun x => { tmps := #[.slice (some ⟨mb, mo, none⟩) 8 cm, .slice Ap np cp, .pointer (some ⟨w.heap.size, 0, none⟩), undef, .slice none 0 0, .slice (some ⟨gp, 0, none⟩) 4096 4096, .pointer (some ⟨bl, 0, none⟩), .slice (some ⟨gp, x.1 * 512, none⟩) 8 (4096 - x.1 * 512), .slice (some ⟨gp, x.1 * 512 + 8, none⟩) 504 (4096 - x.1 * 512 - 8), u9, u10, u11, .slice (some ⟨gp, 0, none⟩) 4096 4096, .func (.func 147) #[] #[.pointer (some ⟨wc.heap.size, 0, none⟩)],
      .slice (some ⟨gp, x.1 * 512, none⟩) 8 (4096 - x.1 * 512), .slice (some ⟨gp, x.1 * 512 + 8, none⟩) 504 (4096 - x.1 * 512 - 8), u16, u17, u18, u19, u20, u21, u22, u23, u24], defers := [] }) ?assign ?body ?done ?stop
  case assign =>
    intro l x W K hK
    dsimp only [encs]
    simp only [Nat.zero_add]
    gi_wp2
    exact hK
  case body =>
    rintro lp pre x W ⟨⟨p1, p2, ⟨ad0, p3, hla⟩, p4, p5⟩, hB⟩ hlen
    obtain rfl := hla hlen
    clear hla
    have hx8 := x.2
    have hq0 : 504 * pre.length + 504 ≤ 4032 := by omega
    have hP4 := length_layTo m (flat ps) pre hm8
    have hsn := layTo_snoc m (flat ps) pre x
    have hs2 := layTo_snd m (flat ps) pre
    have hrm := HM.out.below hB
    have hri : Rd W.drew (gb + 1) (some ⟨gb, 0, none⟩) cl (flat ps) := rd_row (W := W) p2 (by omega) hcl1 (by rw [hi]; exact hcu) (gb + 1) (by omega)
    have hcp1 := run_copy_rd W 3 gp (x.1 * 512) 8 (4096 - x.1 * 512) _ m _ 8 cm _ p1 hrm hm8.symm 8 (by omega) (by omega)
    rw [List.take_of_length_le (by omega)] at hcp1
    obtain ⟨W1, hW1⟩ : ∃ W1, W.setRow gp (bcs (splice (layTo m (flat ps) pre).1 (x.1 * 512) m)) = W1 := ⟨_, rfl⟩
    rw [hW1] at hcp1
    have hcp1 : (Builtin.copy_ #[32, 32] 3 #[.slice (some ⟨gp, x.1 * 512, none⟩) 8 (4096 - x.1 * 512), .slice (some ⟨mb, mo, none⟩) 8 cm]).run Tryz.prog W = .ok (.int .i64 8) W1 := hcp1
    have g1 : W.grownBy W1 (some gp) := by rw [← hW1]; exact grown_setRow _ _ _
    have r1 : W1.heap[gp]? = some (.cells (bcs (splice (layTo m (flat ps) pre).1 (x.1 * 512) m)) 5 (0, 0)) := by rw [← hW1]; exact setRow_heap' _ _ _ _ _ _ p1
    have r2 : W1.heap[gb]? = some (.cells cur 5 (0, 0)) := (g1.block gb (Array.getElem?_eq_some_iff.1 p2).1 (by simp; omega)).trans p2
    have tp : bl ≠ gp := fun e => by
      have h : W.heap[gp]? = some (.cells #[.slice (some ⟨gb, 504 * pre.length, none⟩) (4032 - 504 * pre.length) (cl - 504 * pre.length)] 32 (0, 0)) := by rw [← e]; exact p3
      have h2 := Option.some.inj (h.symm.trans p1)
      injection h2 with _ h3
      exact absurd h3 (by decide)
    have tb : bl ≠ gb := fun e => by
      have h : W.heap[bl]? = some (.cells #[.slice (some ⟨gb, 504 * pre.length, none⟩) (4032 - 504 * pre.length) (cl - 504 * pre.length)] 32 (0, 0)) := p3
      rw [e] at h
      have h2 := Option.some.inj (h.symm.trans p2)
      injection h2 with _ h3
      exact absurd h3 (by decide)
    have tm : w.heap.size ≠ gp := by omega
    have ts : wc.heap.size ≠ gp := by omega
    have r3 := p3.kept g1 (by simp; exact tp)
    have r4 := p4.kept g1 (by simp; exact tm)
    have r5 := p5.kept g1 (by simp; exact ts)
    obtain ⟨q, hq⟩ : ∃ q, q = 504 * pre.length := ⟨_, rfl⟩
    rw [← hq] at p3 r3 hq0
    have hri : Rd W1.drew (gb + 1) (some ⟨gb, 0 + q, none⟩) (cl - q) ((flat ps).drop q) := (rd_row (W := W1.drew) r2 (by omega) hcl1 (by rw [hi]; exact hcu) (gb + 1) (by omega)).drop q (by omega)
    rw [Nat.zero_add] at hri
    have hcp2 := run_copy_rd W1.drew 3 gp (x.1 * 512 + 8) 504 (4096 - x.1 * 512 - 8) _ _ _ (4032 - q) (cl - q) _ r1 hri (by rw [List.length_drop, hi]) 504 (by rw [List.length_drop, hi]; omega) (by rw [length_splice _ _ _ (by omega)]; omega)
    obtain ⟨W2, hW2⟩ : ∃ W2, W1.drew.setRow gp (bcs (splice (splice (layTo m (flat ps) pre).1 (x.1 * 512) m) (x.1 * 512 + 8) (((flat ps).drop q).take 504))) = W2 := ⟨_, rfl⟩
    rw [hW2] at hcp2
    have hcp2 : (Builtin.copy_ #[32, 32] 3 #[.slice (some ⟨gp, x.1 * 512 + 8, none⟩) 504 (4096 - x.1 * 512 - 8), .slice (some ⟨gb, q, none⟩) (4032 - q) (cl - q)]).run Tryz.prog W1.drew = .ok (.int .i64 504) W2 := hcp2
    have g2 : W1.grownBy W2 (some gp) := by rw [← hW2]; exact grownBy_trans (grownBy_below _ ((Below.refl _ W1).drew)) (grown_setRow _ _ _)
    have s1 : W2.heap[gp]? = some (.cells (bcs (layTo m (flat ps) (pre ++ [x])).1) 5 (0, 0)) := by
      rw [hsn, lay1, hs2, Frm.seg, ← hq, ← hW2]; exact setRow_heap' _ _ _ _ _ _ r1
    have s2 : W2.heap[gb]? = some (.cells cur 5 (0, 0)) := (g2.block gb (Array.getElem?_eq_some_iff.1 r2).1 (by simp; omega)).trans r2
    have s3 := r3.kept g2 (by simp; exact tp)
    have s4 := r4.kept g2 (by simp; exact tm)
    have s5 := r5.kept g2 (by simp; exact ts)
    have c4 := p4.cell
    have c1 := r3.cell
    have f1 := r3.frozen
    have c2 := s3.cell
    have f2 := s3.frozen
    have R1 := Lib.hid r1
    have HQ := Lib.hid hq
    have HB := Lib.hid hB
    have G1 := Lib.hid g1
    have G2 := Lib.hid g2
    have P1 := Lib.hid p1
    have S1 := Lib.hid s1
    have S2 := Lib.hid s2
    have S3 := Lib.hid s3
    have S4 := Lib.hid s4
    have S5 := Lib.hid s5
    have P5 := Lib.hid p5
    clear hq hB g1 g2 s1 s2 s3 s4 s5 p5 r1 r2 r3 r4 r5 p1 p2 p3 p4 hW1 hW2 hsn hs2 hri hrm hP4
    obtain ⟨ad, hif, had⟩ : ∃ ad : Addr, (if cl - q = 504 then some (⟨gb, q, none⟩ : Addr) else some ⟨gb, q + 504, none⟩) = some ad ∧ ((pre ++ [x]).length < 8 → ad = ⟨gb, 504 * (pre ++ [x]).length, none⟩) := by
      by_cases hz : cl - q = 504
      · exact ⟨_, if_pos hz, fun h => by have := HQ.out; rw [List.length_append, List.length_singleton] at h; omega⟩
      · exact ⟨_, if_neg hz, fun _ => by rw [List.length_append, List.length_singleton, HQ.out, Nat.mul_add]⟩
    have HA := Lib.hid had
    clear had
    have b1 : (504 : Int) ≤ ((4032 - q : Nat) : Int) := by omega
    have b2 : ((4032 - q : Nat) : Int) ≤ ((cl - q : Nat) : Int) := by omega
    have b3 : 504 ≤ 4032 - q := by omega
    have b4 : 4032 - q ≤ cl - q := by omega
    gi_wp2
    first | (gi_region_with (fail)) | fail
    all_goals gi_wp2
    all_goals
      have hl1 : 4032 - q - 504 = 4032 - 504 * (pre ++ [x]).length := by rw [List.length_append, List.length_singleton, HQ.out]; omega
      have hl2 : cl - q - 504 = cl - 504 * (pre ++ [x]).length := by rw [List.length_append, List.length_singleton, HQ.out]; omega
      rw [hl1, hl2]
      have g3 := grownBy_setCell' W2 bl (.slice (some ad) (4032 - 504 * (pre ++ [x]).length) (cl - 504 * (pre ++ [x]).length))
      have hW : Below w.heap.size w W2 := (HB.out.grown G1.out HB.out.size (fun k e => by cases e; omega)).grown G2.out (Nat.le_trans HB.out.size G1.out.size) (fun k e => by cases e; omega)
      have e5 := S5.out.kept g3 (by simp; omega)
      refine ⟨?_, e5.cell.trans P5.out.cell.symm, ⟨(g3.block gp (Array.getElem?_eq_some_iff.1 S1.out).1 (by simp; exact fun e => tp e.symm)).trans S1.out, (g3.block gb (Array.getElem?_eq_some_iff.1 S2.out).1 (by simp; exact fun e => tb e.symm)).trans S2.out, ⟨ad, S3.out.set _, HA.out⟩, S4.out.kept g3 (by simp; omega), e5⟩, hW.grown g3 hW.size (fun k e => by cases e; omega)⟩
      exact ((KeepsOthers.of_grownBy G1.out (fun j ob ej hj => by cases ej; rw [P1.out] at hj; cases hj; rfl)).trans (KeepsOthers.of_grownBy G2.out (fun j ob ej hj => by cases ej; rw [R1.out] at hj; cases hj; rfl))).trans (KeepsOthers.setCell _ _ _)
  case done =>
    rintro D ys W hD rfl ⟨⟨p1, _, _, _, _⟩, hB⟩ hK
    rw [layTo_all m (flat ps) hm8 hi] at p1
    have hO : Mem.Own 5 W w.heap.size (.slice (some ⟨gp, 0, none⟩) 4096 4096) (Frm.pageTo m (flat ps) 8) := by
      have h := own_row gp (Frm.pageTo m (flat ps) 8) w.heap.size (by omega) (by rw [Frm.length_pageTo m (flat ps) 8 hm8 (by omega)]; unfold maxLen; omega) p1
      rw [Frm.length_pageTo m (flat ps) 8 hm8 (by omega)] at h
      exact h
    have HO := Lib.hid hO
    clear hO p1
    gi_wp2
    refine ⟨by simp, .inl ⟨_, _, rfl, run_takeDeferred hK, ?_⟩⟩
    have hO2 : Mem.Own 5 (W.putObj D (.deferred none)) w.heap.size (.slice (some ⟨gp, 0, none⟩) 4096 4096) (Frm.pageTo m (flat ps) 8) := ownsRow_putObj HO.out _ hK rfl
    exact ⟨_, results_tmp rfl _ _ _, .slice (some ⟨gp, 0, none⟩) 4096 4096, rfl, hO2, hB.trans (belowK_b (w := w) (Nat.le_refl _) W D _ _ (by omega) hK rfl rfl)⟩
  case stop =>
    rintro D c pre W _ _ h _
    exact h.elim
theorem lowest_any (n : Nat) (w : World) (hn : n < 4294967296) :
    Calls Tryz.prog 140 #[.int .u32 (n : Int)] w fun e w' => e = .returned (.slice (some ⟨w.heap.size, 0, none⟩) 4 4) ∧ w' = w.alloc (.cells (bcs (pl n)) 5) := by
  rw [← bcs_pl n hn]
  go_enter Tryz.func140, Tryz.ntmps140
  go_wp2
  go_ret
  exact ⟨rfl, rfl⟩
def may (a : Int) (s n : Nat) : Int := if a < 0 ∨ 4096 ≤ a ∨ s = 0 then 1 else if 4011 < n then 2 else 0
theorem may_zero (a : Int) (s n : Nat) : may a s n = 0 ↔ 0 ≤ a ∧ a < 4096 ∧ s ≠ 0 ∧ n ≤ 4011 := by
  unfold may
  split
  · omega
  · split <;> omega
theorem unsig_nat (a : Int) (h0 : 0 ≤ a) (h1 : a < 4096) : unsig a = a.toNat := by
  unfold unsig
  rw [IntKind.wrap_u64]
  omega
theorem mark_any (s : Nat) (w : World) (hs : s < 18446744073709551616) :
    Calls Tryz.prog 137 #[.slice none 0 0, .int .u64 (s : Int)] w fun e w' => ∃ A c, e = .returned (.slice A 8 c) ∧ Rd w' w'.heap.size A c (be 8 s) ∧ Below w.heap.size w w' := by
  refine (Uint_any none 0 [] (s : Int) w (Rd.nil _ _) (by simp) (by omega) (by omega)).mono ?_
  rintro e w' ⟨v, rfl, ho, hb⟩
  obtain ⟨A, c, rfl, hr, _⟩ := ho.form
  rw [List.nil_append, Int.toNat_natCast] at hr ⊢
  exact ⟨A, c, by rw [length_be], hr, hb⟩
theorem head1_any (a : Nat) (w : World) (ha : a < 4096) :
    Calls Tryz.prog 112 #[.slice none 0 0, .int .i64 (a : Int)] w fun e w' => ∃ A c, e = .returned (.slice A 8 c) ∧ Rd w' w'.heap.size A c (be 8 a) ∧ Below w.heap.size w w' := by
  refine (Int_any none 0 [] (a : Int) w (Rd.nil _ _) (by simp)).mono ?_
  rintro e w' ⟨v, rfl, ho, hb⟩
  obtain ⟨A, c, rfl, hr, _⟩ := ho.form
  rw [List.nil_append, unsig_nat a (by omega) (by omega), Int.toNat_natCast] at hr ⊢
  exact ⟨A, c, by rw [length_be], hr, hb⟩
theorem head2_any (a k : Nat) (A : Option Addr) (c : Nat) (w : World) (hk : k < 256) (hr : Rd w w.heap.size A c (be 8 a)) :
    Calls Tryz.prog 138 #[.slice A 8 c, .int .u8 (k : Int)] w fun e w' => ∃ A c, e = .returned (.slice A 9 c) ∧ Rd w' w'.heap.size A c (be 8 a ++ be 1 k) ∧ Below w.heap.size w w' := by
  have h := Byte_any A c (be 8 a) (k : Int) w hr (by rw [length_be]; omega) (by omega) (by omega)
  rw [length_be] at h
  refine h.mono ?_
  rintro e w' ⟨v, rfl, ho, hb⟩
  obtain ⟨A, c, rfl, hr, _⟩ := ho.form
  rw [Int.toNat_natCast] at hr ⊢
  exact ⟨A, c, by rw [List.length_append, length_be, length_be], hr, hb⟩
theorem head3_any (a k n : Nat) (A : Option Addr) (c : Nat) (w : World) (hn : n ≤ 4011) (hr : Rd w w.heap.size A c (be 8 a ++ be 1 k)) :
    Calls Tryz.prog 137 #[.slice A 9 c, .int .u64 (n : Int)] w fun e w' => ∃ A c, e = .returned (.slice A 17 c) ∧ Rd w' w'.heap.size A c (Frm.head a k n) ∧ Below w.heap.size w w' := by
  have h := Uint_any A c (be 8 a ++ be 1 k) (n : Int) w hr (by rw [List.length_append, length_be, length_be]; omega) (by omega) (by omega)
  rw [List.length_append, length_be, length_be] at h
  refine h.mono ?_
  rintro e w' ⟨v, rfl, ho, hb⟩
  obtain ⟨A, c, rfl, hr, _⟩ := ho.form
  rw [Int.toNat_natCast, List.append_assoc] at hr ⊢
  exact ⟨A, c, by rw [show (be 8 a ++ (be 1 k ++ be 8 n)).length = 17 by simp [length_be]], hr, hb⟩
def zeros (n : Nat) : List UInt8 := List.replicate n 0
theorem make_n (n : Nat) (hn : n ≤ 4011) : ∀ W, (Instr.makeSlice 32 (.int .i64 (n : Int)) (.int .i64 (n : Int))).run Tryz.prog W = .ok (.slice (some ⟨W.heap.size, 0, none⟩) n n) (W.alloc (.cells (bcs (zeros n)) 5)) := by
  intro W
  have hr := run_make_row' (P := Tryz.prog) 32 5 (.int .u8 0) 1 Tryz.underlying32 u8_info rfl .i64 .i64 n (by omega) (by omega) W
  rw [bcs_zeros] at hr
  exact hr
theorem rd_zeros (w : World) (n : Nat) (hn : n ≤ 4011) : Rd (w.alloc (.cells (bcs (zeros n)) 5)) (w.alloc (.cells (bcs (zeros n)) 5)).heap.size (some ⟨w.heap.size, 0, none⟩) n (zeros n) := by
  have := rd_litc w (zeros n) _ rfl (by unfold zeros; rw [List.length_replicate]; omega)
  unfold zeros at *
  rw [List.length_replicate] at this
  exact this
theorem tail_check (w : World) (A1 A2 A : Option Addr) (c1 c2 c n r a k s : Nat) (b : List UInt8) (hT : Tab w) (h1 : Rd w w.heap.size A1 c1 (be 8 s)) (h2 : Rd w w.heap.size A2 c2 (Frm.head a k n)) (h3 : Rd w w.heap.size A c b) (hbl : b.length = n) (hn : n ≤ 4011) (hr : r = 4011 - n) :
    Calls Tryz.prog 141 #[.slice (some ⟨w.heap.size + 1, 0, none⟩) 4 4] ((w.alloc (.cells (bcs (zeros r)) 5)).alloc (.cells #[.slice A1 8 c1, .slice A2 17 c2, .slice A n c, .slice (some ⟨w.heap.size, 0, none⟩) r r] 32)) fun e w' => e = .returned (.int .u32 ((Crc.check (be 8 s ++ Frm.data a k b) : Nat) : Int)) ∧ (w.alloc (.cells (bcs (zeros r)) 5)).alloc (.cells #[.slice A1 8 c1, .slice A2 17 c2, .slice A n c, .slice (some ⟨w.heap.size, 0, none⟩) r r] 32) = w' := by
  subst hr
  have hz : (zeros (4011 - n)).length = 4011 - n := List.length_replicate
  have hh : (Frm.head a k n).length = 17 := Frm.length_head _ _ _
  have hu : ∀ p, p ∈ ([⟨A1, c1, be 8 s⟩, ⟨A2, c2, Frm.head a k n⟩, ⟨A, c, b⟩, ⟨some ⟨w.heap.size, 0, none⟩, 4011 - n, zeros (4011 - n)⟩] : List Part) → Rd (w.alloc (.cells (bcs (zeros (4011 - n))) 5)) (w.alloc (.cells (bcs (zeros (4011 - n))) 5)).heap.size p.A p.c p.l := by
    intro p hp
    have hbz := (Below.refl w.heap.size w).alloc (Nat.le_refl _) (.cells (bcs (zeros (4011 - n))) 5)
    simp only [List.mem_cons, List.not_mem_nil, or_false] at hp
    rcases hp with rfl | rfl | rfl | rfl
    · exact (h1.below hbz).more hbz.size
    · exact (h2.below hbz).more hbz.size
    · exact (h3.below hbz).more hbz.size
    · exact rd_zeros w _ (by omega)
  have h := Check_new (w.alloc (.cells (bcs (zeros (4011 - n))) 5)) _ (#[.slice A1 8 c1, .slice A2 17 c2, .slice A n c, .slice (some ⟨w.heap.size, 0, none⟩) (4011 - n) (4011 - n)]) 4 rfl (by simp [Part.v, length_be, hh, hbl, hz]) (by simp) (hT.alloc _) hu _ rfl
  have e : flat ([⟨A1, c1, be 8 s⟩, ⟨A2, c2, Frm.head a k n⟩, ⟨A, c, b⟩, ⟨some ⟨w.heap.size, 0, none⟩, 4011 - n, zeros (4011 - n)⟩] : List Part) = be 8 s ++ Frm.data a k b := by
    simp only [flat, List.map_cons, List.map_nil, List.flatten_cons, List.flatten_nil, List.append_nil, Frm.data, hbl, zeros]
  rw [e, size_alloc'] at h
  exact h
theorem tail_laid (W0 w : World) (A1 A2 A : Option Addr) (c1 c2 c n r a k s q g0 : Nat) (b : List UInt8) (hb : Below W0.heap.size W0 w) (h1 : Rd W0 W0.heap.size A1 c1 (be 8 s)) (h2 : Rd W0 W0.heap.size A2 c2 (Frm.head a k n)) (h3 : Rd W0 W0.heap.size A c b) (h4 : Rd W0 W0.heap.size (some ⟨g0, 0, none⟩) r (zeros r)) (hbl : b.length = n) (hn : n ≤ 4011) (hr : r = 4011 - n) (hq : q = Crc.check (be 8 s ++ Frm.data a k b)) :
    Calls Tryz.prog 139 #[.slice A1 8 c1, .slice (some ⟨w.heap.size + 1, 0, none⟩) 4 4] ((w.alloc (.cells (bcs (pl q)) 5)).alloc (.cells #[.slice A2 17 c2, .slice A n c, .slice (some ⟨g0, 0, none⟩) r r, .slice (some ⟨w.heap.size, 0, none⟩) 4 4] 32)) fun e w' => ∃ v, e = .returned v ∧ Mem.Own 5 w' w.heap.size v (Frm.frame a k s b) ∧ Below w.heap.size w w' := by
  subst hr
  have hz : (zeros (4011 - n)).length = 4011 - n := List.length_replicate
  have hh : (Frm.head a k n).length = 17 := Frm.length_head _ _ _
  have hbz := (Below.refl w.heap.size w).alloc (Nat.le_refl _) (.cells (bcs (pl q)) 5)
  have hb2 := hb.trans (hbz.mono hb.size)
  have hu : ∀ p, p ∈ ([⟨A2, c2, Frm.head a k n⟩, ⟨A, c, b⟩, ⟨some ⟨g0, 0, none⟩, 4011 - n, zeros (4011 - n)⟩, ⟨some ⟨w.heap.size, 0, none⟩, 4, pl q⟩] : List Part) → Rd (w.alloc (.cells (bcs (pl q)) 5)) (w.alloc (.cells (bcs (pl q)) 5)).heap.size p.A p.c p.l := by
    intro p hp
    simp only [List.mem_cons, List.not_mem_nil, or_false] at hp
    rcases hp with rfl | rfl | rfl | rfl
    · exact (h2.below hb2).more hb2.size
    · exact (h3.below hb2).more hb2.size
    · exact (h4.below hb2).more hb2.size
    · exact rd_litc w (pl q) _ rfl (by rw [Frm.length_pl]; omega)
  have hP := Pts.new (w.alloc (.cells (bcs (pl q)) 5)) _ 32 4 #[.slice A2 17 c2, .slice A n c, .slice (some ⟨g0, 0, none⟩) (4011 - n) (4011 - n), .slice (some ⟨w.heap.size, 0, none⟩) 4 4] rfl (by simp [Part.v, hh, hbl, hz, Frm.length_pl]) (by simp) hu
  have e : flat ([⟨A2, c2, Frm.head a k n⟩, ⟨A, c, b⟩, ⟨some ⟨g0, 0, none⟩, 4011 - n, zeros (4011 - n)⟩, ⟨some ⟨w.heap.size, 0, none⟩, 4, pl q⟩] : List Part) = Frm.inside a k s b := by
    simp only [flat, List.map_cons, List.map_nil, List.flatten_cons, List.flatten_nil, List.append_nil, Frm.inside, Frm.data, hbl, zeros, hq, List.append_assoc]
  have hb3 : Below W0.heap.size W0 ((w.alloc (.cells (bcs (pl q)) 5)).alloc (.cells #[.slice A2 17 c2, .slice A n c, .slice (some ⟨g0, 0, none⟩) (4011 - n) (4011 - n), .slice (some ⟨w.heap.size, 0, none⟩) 4 4] 32)) := hb2.alloc hb2.size _
  rw [size_alloc'] at hP
  have hb5 := below_two w (.cells (bcs (pl q)) 5) (.cells #[.slice A2 17 c2, .slice A n c, .slice (some ⟨g0, 0, none⟩) (4011 - n) (4011 - n), .slice (some ⟨w.heap.size, 0, none⟩) 4 4] 32)
  have hsz : ((w.alloc (.cells (bcs (pl q)) 5)).alloc (.cells #[.slice A2 17 c2, .slice A n c, .slice (some ⟨g0, 0, none⟩) (4011 - n) (4011 - n), .slice (some ⟨w.heap.size, 0, none⟩) 4 4] 32)).heap.size = w.heap.size + 1 + 1 := by rw [size_alloc', size_alloc']
  refine (laid_any A1 _ c1 4 4 (be 8 s) _ _ ((h1.below hb3).more hb3.size) (length_be 8 s) (by rw [hsz]; exact hP) rfl (by simp) (by simp) (by rw [e, Frm.length_inside _ _ _ _ (by omega)])).mono ?_
  rintro e' w' ⟨v, rfl, ho, hbb⟩
  rw [e] at ho
  exact ⟨v, rfl, ho.mono hb5.size, hb5.trans (hbb.mono hb5.size)⟩
theorem tail_step {w w5 : World} {r : Nat} {o : Obj} (h : (w.alloc (.cells (bcs (zeros r)) 5)).alloc o = w5) (hr : r ≤ 4011) : Below w.heap.size w w5 ∧ Rd w5 w5.heap.size (some ⟨w.heap.size, 0, none⟩) r (zeros r) := by
  subst h
  refine ⟨below_two w _ _, ?_⟩
  have hb := (Below.refl (w.alloc (.cells (bcs (zeros r)) 5)).heap.size (w.alloc (.cells (bcs (zeros r)) 5))).alloc (Nat.le_refl _) o
  exact ((rd_zeros w r hr).below hb).more hb.size
set_option maxRecDepth 20000 in
set_option maxHeartbeats 1000000 in
theorem put_ok (a k s : Nat) (A : Option Addr) (n c : Nat) (b : List UInt8) (w : World) (hT : Tab w) (ha : a < 4096) (hk : k < 256) (hs0 : s ≠ 0) (hs : s < 18446744073709551616) (hb : Rd w w.heap.size A c b) (hbl : b.length = n) (hn : n ≤ 4011) :
    Calls Tryz.prog 105 #[.int .i64 a, .int .u8 k, .int .u64 s, .slice A n c] w fun e w' => ∃ v, e = .returned (.tuple #[v, .int .i64 0]) ∧ Mem.Own 5 w' w.heap.size v (Frm.frame a k s b) ∧ Below w.heap.size w w' := by
  obtain ⟨r, hr⟩ : ∃ r, r = 4011 - n := ⟨_, rfl⟩
  have hmk : ∀ W, (Instr.makeSlice 32 (.int .i64 (4011 - (n : Int))) (.int .i64 (4011 - (n : Int)))).run Tryz.prog W = .ok (.slice (some ⟨W.heap.size, 0, none⟩) r r) (W.alloc (.cells (bcs (zeros r)) 5)) := by
    rw [show 4011 - (n : Int) = (r : Int) by omega]
    exact make_n r (by omega)
  have hrz := rd_zeros (n := r)
  obtain ⟨q, hq⟩ : ∃ q, q = Crc.check (be 8 s ++ Frm.data a k b) := ⟨_, rfl⟩
  have hq2 : q < 4294967296 := by rw [hq]; exact Crc.check_lt _
  have HT := Lib.hid hT
  have HB := Lib.hid hb
  have HL := Lib.hid hbl
  have HS := Lib.hid hs
  have HR := Lib.hid hr
  have HQ := Lib.hid hq
  have HQ2 := Lib.hid hq2
  have HZ := Lib.hid hrz
  have i1 : ¬ (a : Int) < 0 := by omega
  have i2 : ¬ (4096 : Int) ≤ a := by omega
  have i3 : ¬ (s : Int) = 0 := by omega
  have i4 : ¬ (4011 : Int) < n := by omega
  have hw2 : IntKind.u64.wrap (n : Int) = n := by rw [IntKind.wrap_u64]; omega
  clear hT hb hbl hs hr hq hq2 hrz
  go_enter Tryz.func105, Tryz.ntmps105
  go_wp2_with (first
    | (go_at_call 137; refine (mark_any s w HS.out).mono ?_; rintro e w1 ⟨A1, c1, rfl, hr1, hb1⟩; have X1 := Lib.hid hr1; have Y1 := Lib.hid hb1; clear hr1 hb1)
    | (go_at_call 112; refine (head1_any a w1 ha).mono ?_; rintro e w2 ⟨A2, c2, rfl, hr2, hb2⟩; have X2 := Lib.hid hr2; have Y2 := Lib.hid (Y1.out.trans (hb2.mono Y1.out.size)); have Z2 := Lib.hid ((X1.out.below hb2).more hb2.size); clear hr2 hb2)
    | (go_at_call 138; refine (head2_any a k A2 c2 w2 hk X2.out).mono ?_; rintro e w3 ⟨A3, c3, rfl, hr3, hb3⟩; have X3 := Lib.hid hr3; have Y3 := Lib.hid (Y2.out.trans (hb3.mono Y2.out.size)); have Z3 := Lib.hid ((Z2.out.below hb3).more hb3.size); clear hr3 hb3)
    | (go_at_call 137; refine (head3_any a k n A3 c3 w3 hn X3.out).mono ?_; rintro e w4 ⟨A4, c4, rfl, hr4, hb4⟩; have X4 := Lib.hid hr4; have Y4 := Lib.hid (Y3.out.trans (hb4.mono Y3.out.size)); have Z4 := Lib.hid ((Z3.out.below hb4).more hb4.size); clear hr4 hb4)
    | (go_at_call 141; refine (tail_check w4 A1 A4 A c1 c4 c n r a k s b (HT.out.below Y4.out HT.out.1) Z4.out X4.out ((HB.out.below Y4.out).more Y4.out.size) HL.out hn HR.out).mono ?_; rintro e w5 ⟨rfl, hw5⟩; rw [← HQ.out]; have hst := tail_step hw5 (by have := HR.out; omega); clear hw5; have Y5 := Lib.hid (Y4.out.trans (hst.1.mono Y4.out.size)); have Z5 := Lib.hid ((Z4.out.below hst.1).more hst.1.size); have V5 := Lib.hid ((X4.out.below hst.1).more hst.1.size); have U5 := Lib.hid hst.2; clear hst)
    | (go_at_call 140; refine (lowest_any q w5 HQ2.out).mono ?_; rintro e w6 ⟨rfl, rfl⟩)
    | (go_at_call 139; refine (tail_laid w5 w5 A1 A4 A c1 c4 c n r a k s q w4.heap.size b (Below.refl _ _) Z5.out V5.out ((HB.out.below Y5.out).more Y5.out.size) U5.out HL.out hn HR.out HQ.out).mono ?_; rintro e w7 ⟨v7, rfl, ho7, hb7⟩; have O7 := Lib.hid ho7; have B7 := Lib.hid hb7; clear ho7 hb7)
    | fail)
  go_ret2
  exact ⟨v7, rfl, O7.out.mono Y5.out.size, Y5.out.trans (B7.out.mono Y5.out.size)⟩
theorem put_bad (a : Int) (k s : Nat) (A : Option Addr) (n c : Nat) (w : World) (hn : n ≤ 9223372036854775807) (h0 : may a s n ≠ 0) :
    Calls Tryz.prog 105 #[.int .i64 a, .int .u8 k, .int .u64 s, .slice A n c] w fun e w' => e = .returned (.tuple #[.slice none 0 0, .int .i64 (may a s n)]) ∧ w = w' := by
  by_cases h1 : a < 0 ∨ 4096 ≤ a ∨ s = 0
  · have e1 : may a s n = 1 := by unfold may; rw [if_pos h1]
    rw [e1]
    by_cases i1 : a < 0
    · clear h0 h1 e1
      go_enter Tryz.func105, Tryz.ntmps105
      go_wp2_with fail
      go_ret2
      exact ⟨rfl, rfl⟩
    · by_cases i2 : 4096 ≤ a
      · clear h0 h1 e1
        go_enter Tryz.func105, Tryz.ntmps105
        go_wp2_with fail
        go_ret2
        exact ⟨rfl, rfl⟩
      · obtain rfl : s = 0 := by omega
        clear h0 h1 e1
        go_enter Tryz.func105, Tryz.ntmps105
        go_wp2_with fail
        go_ret2
        exact ⟨rfl, rfl⟩
  · have h2 : 4011 < n := by
      rw [Ne, may_zero] at h0; omega
    have e1 : may a s n = 2 := by unfold may; rw [if_neg h1, if_pos h2]
    rw [e1]
    have i1 : ¬ a < 0 := by omega
    have i2 : ¬ 4096 ≤ a := by omega
    have i3 : ¬ (s : Int) = 0 := by omega
    have i4 : (4011 : Int) < n := by omega
    clear h0 h1 e1
    go_enter Tryz.func105, Tryz.ntmps105
    go_wp2_with fail
    go_ret2
    exact ⟨rfl, rfl⟩
theorem Put_any (a : Int) (k s : Nat) (A : Option Addr) (n c : Nat) (b : List UInt8) (w : World) (hT : Tab w) (hk : k < 256) (hs : s < 18446744073709551616) (hb : Rd w w.heap.size A c b) (hbl : b.length = n) :
    Calls Tryz.prog 105 #[.int .i64 a, .int .u8 k, .int .u64 s, .slice A n c] w fun e w' => ∃ v, e = .returned (.tuple #[v, .int .i64 (may a s n)]) ∧ (may a s n = 0 → Mem.Own 5 w' w.heap.size v (Frm.frame a.toNat k s b)) ∧ (may a s n ≠ 0 → v = .slice none 0 0) ∧ Below w.heap.size w w' := by
  by_cases h0 : may a s n = 0
  · obtain ⟨h1, h2, h3, h4⟩ := (may_zero a s n).1 h0
    obtain ⟨a', rfl⟩ := Int.eq_ofNat_of_zero_le h1
    refine (put_ok a' k s A n c b w hT (by omega) hk h3 hs hb hbl h4).mono ?_
    rintro e w' ⟨v, rfl, ho, hbb⟩
    exact ⟨v, by rw [h0], fun _ => ho, fun h => absurd h0 h, hbb⟩
  · refine (put_bad a k s A n c w (by have := hb.1; have := hb.2.1; unfold maxLen at this; omega) h0).mono ?_
    rintro e w' ⟨rfl, rfl⟩
    exact ⟨_, rfl, fun h => absurd h h0, fun _ => rfl, Below.refl _ _⟩
set_option maxRecDepth 20000 in
theorem Equal_any (A A' : Option Addr) (c c' n n' : Nat) (l l' : List UInt8) (w : World) (h : Rd w w.heap.size A c l) (h' : Rd w w.heap.size A' c' l') (hn : l.length = n) (hn' : l'.length = n') :
    Calls Tryz.prog 34 #[.slice A n c, .slice A' n' c'] w fun e w' => e = .returned (.bool (decide (l = l'))) ∧ w = w' := by
  subst hn; subst hn'
  have h1 := run_str_rd w h
  have h2 := run_str_rd w h'
  have hd : ((str l).toList == (str l').toList) = decide (l = l') := by rw [str_toList, str_toList, Bool.eq_iff_iff, beq_iff_eq, decide_eq_true_eq]
  have HD := Lib.hid hd
  clear h h' hd
  go_enter Tryz.func34, Tryz.ntmps34
  go_wp2
  go_ret
  exact ⟨by rw [← HD.out]; rfl, rfl⟩
set_option maxRecDepth 100000 in
set_option maxHeartbeats 2000000 in
theorem newest_short (A : Option Addr) (n c : Nat) (w : World) (hl : n ≠ 4096) (hl1 : n ≤ 9223372036854775807) :
    Calls Tryz.prog 82 #[.slice A n c] w fun e w' => e = .returned (.int .u64 0) ∧ Below w.heap.size w w' := by
  refine (callsIn_wide (n := 5)).1 ?_
  refine callsIn_of_wp_marks Tryz.func82 rfl trivial ?_ rfl
  simp only [Tryz.ntmps82, List.size_toArray, List.length_cons, List.length_nil, Nat.reduceAdd, Nat.reduceSub, Array.replicate_succ, Array.replicate_zero, List.push_toArray, List.append_toArray, List.nil_append, List.cons_append]
  gi_wp2_with (refine ⟨trivial, ?_⟩; gi_at_call 116; refine (callsIn_wide.2 (sectors_any _ _ _ _)).mono ?_; rintro e w' ⟨rfl, rfl⟩)
  have hs := cell_new w (.int .u64 0) 98
  have hb := cell_new (w.alloc (.cells #[.int .u64 0] 98)) (.slice A n c) 32
  rw [World.size_alloc] at hb
  have hB0 : Below w.heap.size w ((w.alloc (.cells #[.int .u64 0] 98)).alloc (.cells #[.slice A n c] 32)) := ((Below.refl _ w).alloc (Nat.le_refl _) _).alloc (by simp) _
  refine wpIn_rangeFunc_ownF rfl (by omega) (gf := 147) (lb := #[.pointer (some ⟨w.heap.size + 1, 0, none⟩)]) rfl trivial (enters_of Tryz.func147 (by kernel_rfl) rfl)
    (sectors_none (5 - 1) (by omega) (w.heap.size + 1) n c A hl hl1 _ (by simp) hb.1) Box.t (Box.b (by simp)) (Below.refl _ _) (fun _ => rfl)
    (fun pre W => (W.cell? ⟨w.heap.size, 0, none⟩ = some (.int .u64 0) ∧ W.frozen? ⟨w.heap.size, 0, none⟩ = false) ∧ Below w.heap.size w W)
    (fun _ _ _ => False)
    (OwnFrom.and (Own.from (fun s A B row hs hg hr => ⟨cell_kept hs.1 hg hr, (frozen_kept hs.1 hg hr).trans hs.2⟩) _) (ownFrom_below (Nat.le_refl _) (by simp; omega)))
    (fun _ _ _ _ _ hs _ _ => hs)
    ⟨⟨cell_kept_alloc _ hs.1, frozen_kept_alloc _ hs.1 hs.2⟩, hB0⟩
    (fun x => { tmps := #[.slice A n c, undef, .int .u64 0, .pointer (some ⟨w.heap.size, 0, none⟩), .slice (some ⟨0, x.1 * 512, none⟩) 8 0, .slice A n c, .func (.func 147) #[] #[.pointer (some ⟨w.heap.size + 1, 0, none⟩)],
      .slice (some ⟨0, x.1 * 512, none⟩) 8 0, .slice (some ⟨0, x.1 * 512 + 8, none⟩) 504 0, undef, undef, undef, undef, undef, undef], defers := [] }) ?assign ?body ?done ?stop
  case assign =>
    intro l x W K hK
    dsimp only [encs]
    simp only [Nat.zero_add, Nat.zero_sub]
    gi_wp2
    exact hK
  case body =>
    rintro lp pre x W _ hlen
    exact absurd hlen (by omega)
  case done =>
    rintro D ys W hD rfl ⟨⟨hc, _⟩, hB⟩ hK
    gi_wp2
    refine ⟨by simp, .inl ⟨_, _, rfl, run_takeDeferred hK, ?_⟩⟩
    exact ⟨_, results_tmp rfl _ _ _, rfl, hB.trans (belowK_b (w := w) (Nat.le_refl _) W D _ _ (by simp at hD; omega) hK rfl rfl)⟩
  case stop =>
    rintro D c pre W _ _ h _
    exact h.elim
theorem Newest_any (A : Option Addr) (n c : Nat) (l : List UInt8) (w : World) (hr : Rd w w.heap.size A c l) (hn : l.length = n) :
    Calls Tryz.prog 82 #[.slice A n c] w fun e w' => e = .returned (.int .u64 (Frm.newest l : Int)) ∧ Below w.heap.size w w' := by
  by_cases h : n = 4096
  · subst h
    obtain ⟨g, o, rfl, _⟩ := hr.2.2.2 (by omega)
    unfold Frm.newest
    rw [if_pos hn]
    exact newest_any g o c l w hr hn
  · unfold Frm.newest
    rw [if_neg (by omega)]
    exact newest_short A n c w h (by have := hr.1; have := hr.2.1; unfold maxLen at this; omega)
theorem newest_lt (l : List UInt8) : Frm.newest l < 18446744073709551616 := by
  unfold Frm.newest
  split
  · have := mostOf_lt l (upto 8)
    rwa [mostOf_upto l 8 (Nat.le_refl _)] at this
  · omega
def gets (l : List UInt8) (a : Int) (k : Nat) : Prop := 0 ≤ a ∧ Frm.whole l a.toNat k
set_option maxRecDepth 20000 in
theorem get_short (A : Option Addr) (n c : Nat) (a : Int) (k : Nat) (w : World) (hn : n ≤ 9223372036854775807) (h : n ≠ 4096) :
    Calls Tryz.prog 83 #[.slice A n c, .int .i64 a, .int .u8 k] w fun e w' => e = .returned (.tuple #[.slice none 0 0, .int .u64 0, .bool false]) ∧ w = w' := by
  have h' : ¬ (n : Int) = 4096 := by omega
  clear h
  go_enter Tryz.func83, Tryz.ntmps83
  go_wp2_with fail
  go_ret3
  exact ⟨rfl, rfl⟩
set_option maxRecDepth 20000 in
set_option maxHeartbeats 1000000 in
theorem get_page (g o c : Nat) (l : List UInt8) (a : Int) (k : Nat) (w : World) (hT : Tab w) (hr : Rd w w.heap.size (some ⟨g, o, none⟩) c l) (hl : l.length = 4096) (hk : k < 256) :
    Calls Tryz.prog 83 #[.slice (some ⟨g, o, none⟩) 4096 c, .int .i64 a, .int .u8 k] w fun e w' =>
      (gets l a k → ∃ v, e = .returned (.tuple #[v, .int .u64 (Frm.newest l : Int), .bool true]) ∧ Mem.Own 5 w' w.heap.size v (Frm.held l)) ∧ (¬ gets l a k → e = .returned (.tuple #[.slice none 0 0, .int .u64 0, .bool false])) ∧ Below w.heap.size w w' := by
  obtain ⟨q, hq⟩ : ∃ q, q = Frm.newest l := ⟨_, rfl⟩
  have hq2 : q < 18446744073709551616 := by rw [hq]; exact newest_lt l
  have HT := Lib.hid hT
  have HR := Lib.hid hr
  have HL := Lib.hid hl
  have HQ := Lib.hid hq
  have HQ2 := Lib.hid hq2
  have hgm : gets l a k → may a q (Frm.held l).length = 0 ∧ l = Frm.frame a.toNat k q (Frm.held l) := by
    rintro ⟨h1, h2, h3, h4⟩
    rw [← hq] at h3 h4
    exact ⟨(may_zero _ _ _).2 ⟨h1, by omega, by omega, Frm.held_le l⟩, h4⟩
  have hmg : may a q (Frm.held l).length = 0 → l = Frm.frame a.toNat k q (Frm.held l) → gets l a k := by
    intro h1 h2
    obtain ⟨h3, h4, h5, h6⟩ := (may_zero _ _ _).1 h1
    refine ⟨h3, by omega, by omega, ?_⟩
    rw [← hq]; exact h2
  rw [← hq]
  have HA := Lib.hid hgm
  have HB := Lib.hid hmg
  clear hT hr hl hq hq2 hgm hmg
  by_cases hm : may a q (Frm.held l).length = 0
  · by_cases he : l = Frm.frame a.toNat k q (Frm.held l)
    · have hg := HB.out hm he
      have HE := Lib.hid he
      have HM := Lib.hid hm
      have HG := Lib.hid hg
      clear hm he hg
      have hd : decide (l = Frm.frame a.toNat k q (Frm.held l)) = true := by rw [decide_eq_true_eq]; exact HE.out
      have HD := Lib.hid hd
      clear hd
      go_enter Tryz.func83, Tryz.ntmps83
      go_wp2_with (first
        | (go_at_call 119; refine (held_any g o c l w HR.out HL.out).mono ?_; rintro e w1 ⟨v1, rfl, ho1, hb1⟩; obtain ⟨A1, c1, rfl, hr1, _⟩ := ho1.form; have O1 := Lib.hid ho1; have R1 := Lib.hid hr1; have B1 := Lib.hid hb1; have P1 := Lib.hid ((HR.out.below hb1).more hb1.size); clear ho1 hr1 hb1)
        | (go_at_call 82; refine (Newest_any _ 4096 c l w1 P1.out HL.out).mono ?_; rintro e w2 ⟨rfl, hb2⟩; rw [← HQ.out]; have B2 := Lib.hid (B1.out.trans (hb2.mono B1.out.size)); have P2 := Lib.hid ((P1.out.below hb2).more hb2.size); have R2 := Lib.hid ((R1.out.below hb2).more hb2.size); have O2 := Lib.hid (O1.out.below hb2 (Nat.le_refl _)); clear hb2)
        | (go_at_call 105; refine (Put_any a k q A1 _ c1 (Frm.held l) w2 (HT.out.below B2.out HT.out.1) hk HQ2.out R2.out rfl).mono ?_; rintro e w3 ⟨v3, rfl, ho3, _, hb3⟩; rw [HM.out]; obtain ⟨A3, c3, rfl, hr3, _⟩ := (ho3 HM.out).form; have R3 := Lib.hid hr3; have B3 := Lib.hid (B2.out.trans (hb3.mono B2.out.size)); have P3 := Lib.hid ((P2.out.below hb3).more hb3.size); have O3 := Lib.hid (O2.out.below hb3 (Nat.le_refl _)); clear ho3 hr3 hb3)
        | (go_at_call 34; refine (Equal_any _ A3 c c3 4096 _ l _ w3 P3.out R3.out HL.out rfl).mono ?_; rintro e w4 ⟨rfl, rfl⟩; rw [HD.out]; clear HD)
        | fail)
      go_ret3
      exact ⟨fun _ => ⟨_, rfl, O3.out⟩, fun h => absurd HG.out h, B3.out⟩
    · have hg : ¬ gets l a k := fun h => he (HA.out h).2
      have HE := Lib.hid he
      have HM := Lib.hid hm
      have HG := Lib.hid hg
      clear hm he hg
      have hd : decide (l = Frm.frame a.toNat k q (Frm.held l)) = false := by rw [decide_eq_false_iff_not]; exact HE.out
      have HD := Lib.hid hd
      clear hd
      go_enter Tryz.func83, Tryz.ntmps83
      go_wp2_with (first
        | (go_at_call 119; refine (held_any g o c l w HR.out HL.out).mono ?_; rintro e w1 ⟨v1, rfl, ho1, hb1⟩; obtain ⟨A1, c1, rfl, hr1, _⟩ := ho1.form; have O1 := Lib.hid ho1; have R1 := Lib.hid hr1; have B1 := Lib.hid hb1; have P1 := Lib.hid ((HR.out.below hb1).more hb1.size); clear ho1 hr1 hb1)
        | (go_at_call 82; refine (Newest_any _ 4096 c l w1 P1.out HL.out).mono ?_; rintro e w2 ⟨rfl, hb2⟩; rw [← HQ.out]; have B2 := Lib.hid (B1.out.trans (hb2.mono B1.out.size)); have P2 := Lib.hid ((P1.out.below hb2).more hb2.size); have R2 := Lib.hid ((R1.out.below hb2).more hb2.size); have O2 := Lib.hid (O1.out.below hb2 (Nat.le_refl _)); clear hb2)
        | (go_at_call 105; refine (Put_any a k q A1 _ c1 (Frm.held l) w2 (HT.out.below B2.out HT.out.1) hk HQ2.out R2.out rfl).mono ?_; rintro e w3 ⟨v3, rfl, ho3, _, hb3⟩; rw [HM.out]; obtain ⟨A3, c3, rfl, hr3, _⟩ := (ho3 HM.out).form; have R3 := Lib.hid hr3; have B3 := Lib.hid (B2.out.trans (hb3.mono B2.out.size)); have P3 := Lib.hid ((P2.out.below hb3).more hb3.size); have O3 := Lib.hid (O2.out.below hb3 (Nat.le_refl _)); clear ho3 hr3 hb3)
        | (go_at_call 34; refine (Equal_any _ A3 c c3 4096 _ l _ w3 P3.out R3.out HL.out rfl).mono ?_; rintro e w4 ⟨rfl, rfl⟩; rw [HD.out]; clear HD)
        | fail)
      go_ret3
      exact ⟨fun h => absurd h HG.out, fun _ => rfl, B3.out⟩
  · have hg : ¬ gets l a k := fun h => hm (HA.out h).1
    have HG := Lib.hid hg
    have hm2 : ¬ may a q (Frm.held l).length = 0 := hm
    have HM := Lib.hid hm
    clear hg hm
    obtain ⟨mm, hmm⟩ : ∃ mm, may a q (Frm.held l).length = mm := ⟨_, rfl⟩
    rw [hmm] at hm2
    have HMM := Lib.hid hmm
    clear hmm
    go_enter Tryz.func83, Tryz.ntmps83
    go_wp2_with (first
      | (go_at_call 119; refine (held_any g o c l w HR.out HL.out).mono ?_; rintro e w1 ⟨v1, rfl, ho1, hb1⟩; obtain ⟨A1, c1, rfl, hr1, _⟩ := ho1.form; have O1 := Lib.hid ho1; have R1 := Lib.hid hr1; have B1 := Lib.hid hb1; have P1 := Lib.hid ((HR.out.below hb1).more hb1.size); clear ho1 hr1 hb1)
      | (go_at_call 82; refine (Newest_any _ 4096 c l w1 P1.out HL.out).mono ?_; rintro e w2 ⟨rfl, hb2⟩; rw [← HQ.out]; have B2 := Lib.hid (B1.out.trans (hb2.mono B1.out.size)); have P2 := Lib.hid ((P1.out.below hb2).more hb2.size); have R2 := Lib.hid ((R1.out.below hb2).more hb2.size); clear hb2)
      | (go_at_call 105; refine (Put_any a k q A1 _ c1 (Frm.held l) w2 (HT.out.below B2.out HT.out.1) hk HQ2.out R2.out rfl).mono ?_; rintro e w3 ⟨v3, rfl, _, hv3, hb3⟩; rw [HMM.out]; obtain rfl := hv3 HM.out; have B3 := Lib.hid (B2.out.trans (hb3.mono B2.out.size)); clear hb3)
      | fail)
    go_ret3
    exact ⟨fun h => absurd h HG.out, fun _ => rfl, B3.out⟩
theorem Get_any (A : Option Addr) (n c : Nat) (l : List UInt8) (a : Int) (k : Nat) (w : World) (hT : Tab w) (hr : Rd w w.heap.size A c l) (hn : l.length = n) (hk : k < 256) :
    Calls Tryz.prog 83 #[.slice A n c, .int .i64 a, .int .u8 k] w fun e w' =>
      (gets l a k → ∃ v, e = .returned (.tuple #[v, .int .u64 (Frm.newest l : Int), .bool true]) ∧ Mem.Own 5 w' w.heap.size v (Frm.held l)) ∧ (¬ gets l a k → e = .returned (.tuple #[.slice none 0 0, .int .u64 0, .bool false])) ∧ Below w.heap.size w w' := by
  by_cases h : n = 4096
  · subst h
    obtain ⟨g, o, rfl, _⟩ := hr.2.2.2 (by omega)
    exact get_page g o c l a k w hT hr hn hk
  · refine (get_short A n c a k w (by have := hr.1; have := hr.2.1; unfold maxLen at this; omega) h).mono ?_
    rintro e w' ⟨rfl, rfl⟩
    exact ⟨fun hg => absurd (Frm.length_whole _ _ _ hg.2) (by omega), fun _ => rfl, Below.refl _ _⟩
theorem get_yes {A : Option Addr} {n c : Nat} {l : List UInt8} {a : Int} {k : Nat} {w : World} (hT : Tab w) (hr : Rd w w.heap.size A c l) (hn : l.length = n) (hk : k < 256) (hg : gets l a k) (s : Nat) (hs : Frm.newest l = s) (b : List UInt8) (hb : Frm.held l = b) :
    Calls Tryz.prog 83 #[.slice A n c, .int .i64 a, .int .u8 k] w fun e w' => ∃ v, e = .returned (.tuple #[v, .int .u64 (s : Int), .bool true]) ∧ Mem.Own 5 w' w.heap.size v b ∧ Below w.heap.size w w' := by
  subst hs; subst hb
  refine (Get_any A n c l a k w hT hr hn hk).mono ?_
  rintro e w' ⟨h1, _, h3⟩
  obtain ⟨v, he, ho⟩ := h1 hg
  exact ⟨v, he, ho, h3⟩
theorem get_no {A : Option Addr} {n c : Nat} {l : List UInt8} {a : Int} {k : Nat} {w : World} (hT : Tab w) (hr : Rd w w.heap.size A c l) (hn : l.length = n) (hk : k < 256) (hg : ¬ gets l a k) :
    Calls Tryz.prog 83 #[.slice A n c, .int .i64 a, .int .u8 k] w fun e w' => e = .returned (.tuple #[.slice none 0 0, .int .u64 0, .bool false]) ∧ Below w.heap.size w w' := by
  refine (Get_any A n c l a k w hT hr hn hk).mono ?_
  rintro e w' ⟨_, h2, h3⟩
  exact ⟨h2 hg, h3⟩
theorem tab_low {w w' : World} (h : Tab w) (hb : Below w.heap.size w w') : Tab w' := h.below hb h.1
end Go.Proofs.YtcjokkjepgfinaaGreatDoor.Fm
