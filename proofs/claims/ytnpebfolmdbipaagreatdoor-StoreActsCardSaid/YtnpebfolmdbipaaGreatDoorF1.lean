import Derived.RangeFuncNested
import Derived.RangeFuncBound
import Derived.RangeFuncCalls
import Derived.RangeFuncLeaves
import Derived.Shelf.Abstract
import Derived.Shelf.RegionOpen
import Derived.WalkKit
import Derived.OwnWalkIn
import Derived.TacticsInMore
import Derived.LoopNIn
import Derived.LoopIn
import Derived.RegionIn
import Derived.Stop.RegionWithIn
import Derived.Test.YtnpebfolmdbipaaGreatDoorF0
import Derived.Test.YtnpebfolmdbipaaGreatDoorStr
namespace Go.Proofs.YtnpebfolmdbipaaGreatDoor.Fm
set_option linter.unusedVariables false
set_option linter.unusedSimpArgs false
open Go.RowKit Mem
attribute [local go_sem] Oper.semAt_some

theorem sectors_any (A : Option Addr) (n c : Nat) (w : World) :
    Calls Tryz.prog 104 #[.slice A n c] w fun e w' => e = .returned (.func (.func 120) #[] #[.pointer (some ⟨w.heap.size, 0, none⟩)]) ∧ w' = w.alloc (.cells #[.slice A n c] 36) := by
  have hmf : ∀ (fn : Fn) (first cap : Array Value) (w : World), (Instr.makeFunc fn first cap).run Tryz.prog w = .ok (.func fn first cap) w := fun _ _ _ _ => rfl
  go_enter Tryz.func104, Tryz.ntmps104
  go_wp2
  go_ret
  exact ⟨rfl, rfl⟩

/-- What round k is handed. -/
def encs (g o c k : Nat) : Array Value := #[.slice (some ⟨g, o + k * 512, none⟩) 8 (c - k * 512), .slice (some ⟨g, o + k * 512 + 8, none⟩) 504 (c - k * 512 - 8)]

/-- What has come when k rounds are over. -/
def upto (k : Nat) : List (Fin 8) := (List.finRange 8).take k
theorem length_upto (k : Nat) (h : k ≤ 8) : (upto k).length = k := by unfold upto; rw [List.length_take, List.length_finRange]; omega
theorem upto_succ (k : Nat) (h : k < 8) : upto (k + 1) = upto k ++ [⟨k, h⟩] := by
  unfold upto
  rw [List.take_succ_eq_append_getElem (by rw [List.length_finRange]; exact h), List.getElem_finRange]
  rfl
theorem upto_all : upto 8 = List.finRange 8 := rfl

/-- The box keeps what it holds. -/
def Box (Bx : Nat) (W W' : World) : Prop := W'.cell? ⟨Bx, 0, none⟩ = W.cell? ⟨Bx, 0, none⟩
theorem Box.t {Bx : Nat} {A B C : World} (h : Box Bx A B) (k : Box Bx B C) : Box Bx A C := k.trans h
theorem Box.b {Bx : Nat} {w : World} (hB : Bx < w.heap.size) (W : World) (l : Nat) (o o' : Obj) (hl : w.heap.size ≤ l) (_ : W.heap[l]? = some o) (_ : o.isCells = false) (_ : o.isWalk = false) : Box Bx W (W.putObj l o') :=
  World.cell?_of_block (World.putObj_heap_other (by show Bx ≠ l; omega))

set_option maxRecDepth 100000 in
set_option maxHeartbeats 2000000 in
theorem sectors1_in (n : Nat) (hn : 1 ≤ n) (l Bx g o c : Nat) (hc : 4096 ≤ c) (hc1 : c ≤ 9223372036854775807) (J Jx : List (Fin 8) → World → Prop) (hJd : ∀ pre W, J pre W → J pre W.drew)
    (hY : ∀ pre x W, J pre W → pre.length < 8 → YieldAt Fence.wide (n - 1) Tryz.prog l (encs g o c x.1) W fun e W' =>
      (e = .returned (.bool true) ∧ J (pre ++ [x]) W' ∧ Box Bx W W') ∨ (e = .returned (.bool false) ∧ Jx (pre ++ [x]) W'))
    (W : World) (hBx : W.cell? ⟨Bx, 0, none⟩ = some (.slice (some ⟨g, o, none⟩) 4096 c)) (h0 : J [] W) :
    CallsIn Fence.wide n Tryz.prog 120 #[.func (.yield l) #[] #[], .pointer (some ⟨Bx, 0, none⟩)] W fun e W' => (∃ v, e = .returned v) ∧
      ((∃ ys, ys = List.finRange 8 ∧ J ys W') ∨ (∃ pre, True ∧ Jx pre W')) := by
  refine callsIn_of_wp Tryz.func120 rfl trivial ?_ rfl
  simp only [Tryz.ntmps120, List.size_toArray, List.length_cons, List.length_nil, Nat.reduceAdd, Nat.reduceSub, Array.replicate_succ, Array.replicate_zero, List.push_toArray, List.append_toArray, List.nil_append, List.cons_append]
  gi_wp2
  gi_loopw [8] (fun i wr => ∃ k : Nat, k ≤ 8 ∧ i = .int .i64 k ∧ J (upto k) wr ∧ wr.cell? ⟨Bx, 0, none⟩ = some (.slice (some ⟨g, o, none⟩) 4096 c)) (fun i _ => 8 - (intOf i).toNat)
  case atStart => exact ⟨0, Nat.zero_le _, rfl, h0, hBx⟩
  case round =>
    obtain ⟨k, hk, rfl, hJs, hBr⟩ := hrel
    by_cases hlt : k < 8
    · obtain ⟨fn, tmps, assign, body, hy, hR⟩ := hY _ ⟨k, hlt⟩ wr.drew (hJd _ _ hJs) (by rw [length_upto _ hk]; exact hlt)
      dsimp only [encs] at hy
      have hR2 := Lib.hid hR
      clear hR hY
      gi_wp2
      rw [show (k + 1) * 512 - k * 512 = 512 by omega]
      have hmx : Tryz.prog.follows .mixedOrders = true := by kernel_rfl
      have b1 : ((8 : Int) ≤ (512 : Nat)) := by omega
      have b2 : (512 : Nat) ≤ c - k * 512 := by omega
      have b3 : ((512 : Nat) : Int) ≤ ((c - k * 512 : Nat) : Int) := by omega
      have b4 : (8 : Int) ≤ ((c - k * 512 : Nat) : Int) := by omega
      gi_region_with (refine hR2.out.mono ?_; rintro e W3 h3; obtain ⟨b, rfl, h4⟩ : ∃ b : Bool, e = .returned (.bool b) ∧ ((b = true ∧ J (upto k ++ [⟨k, hlt⟩]) W3 ∧ Box Bx wr.drew W3) ∨ (b = false ∧ Jx (upto k ++ [⟨k, hlt⟩]) W3)) := by (rcases h3 with ⟨rfl, h5⟩ | ⟨rfl, h5⟩; exact ⟨_, rfl, .inl ⟨rfl, h5⟩⟩; exact ⟨_, rfl, .inr ⟨rfl, h5⟩⟩))
      simp only [Act.put, List.getElem_toArray, List.getElem_cons_zero, List.getElem_cons_succ]
      rcases h4 with ⟨rfl, hJ3, hB3⟩ | ⟨rfl, hJx3⟩
      · have hb3 : W3.cell? ⟨Bx, 0, none⟩ = some (.slice (some ⟨g, o, none⟩) 4096 c) := hB3.trans hBr
        gi_wp2
        go_roundw
        case rel => exact ⟨k + 1, by omega, by go_num, by rw [upto_succ _ hlt]; exact hJ3, hb3⟩
        case measure => simp [intOf]; omega
      · gi_wp2
        refine bodyPost_ret (results_none rfl _ _ _) rfl ?_
        exact ⟨⟨_, rfl⟩, .inr ⟨_, hJx3⟩⟩
    · obtain rfl : k = 8 := by omega
      gi_wp2
      go_end0
      exact ⟨⟨_, rfl⟩, .inl ⟨_, rfl, hJs⟩⟩

set_option maxRecDepth 100000 in
set_option maxHeartbeats 1000000 in
theorem sectors0_in (n : Nat) (hn : 1 ≤ n) (l Bx len c : Nat) (A : Option Addr) (hl : len ≠ 4096) (hl1 : len ≤ 9223372036854775807) (J : List (Fin 8) → World → Prop)
    (W : World) (hBx : W.cell? ⟨Bx, 0, none⟩ = some (.slice A len c)) (h0 : J [] W) :
    CallsIn Fence.wide n Tryz.prog 120 #[.func (.yield l) #[] #[], .pointer (some ⟨Bx, 0, none⟩)] W fun e W' => (∃ v, e = .returned v) ∧ J [] W' := by
  refine callsIn_of_wp Tryz.func120 rfl trivial ?_ rfl
  simp only [Tryz.ntmps120, List.size_toArray, List.length_cons, List.length_nil, Nat.reduceAdd, Nat.reduceSub, Array.replicate_succ, Array.replicate_zero, List.push_toArray, List.append_toArray, List.nil_append, List.cons_append]
  have hne : (len : Int) ≠ 4096 := by omega
  gi_wp2
  refine bodyPost_ret (results_none rfl _ _ _) rfl ?_
  exact ⟨⟨_, rfl⟩, h0⟩

theorem abides_drew {J : List (Fin 8) → World → Prop} {B : Nat} (h : AbidesFrom B J) (pre : List (Fin 8)) (W : World) (hJ : J pre W) : J pre W.drew :=
  h pre W W.drew none hJ (grownBy_below none ((Below.refl _ W).drew)) (fun _ e => by cases e)

/-- The iterator over the sectors of a page. -/
theorem sectors_stops (n : Nat) (hn : 1 ≤ n) (Bx g o c : Nat) (hc : 4096 ≤ c) (hc1 : c ≤ 9223372036854775807) (w : World) (hB : Bx < w.heap.size) (hBx : w.cell? ⟨Bx, 0, none⟩ = some (.slice (some ⟨g, o, none⟩) 4096 c)) :
    SeqStopsK Fence.wide n Tryz.prog 120 #[.pointer (some ⟨Bx, 0, none⟩)] (fun x : Fin 8 => encs g o c x.1) (Box Bx) (fun ys => ys = List.finRange 8) (fun _ => True) 8 w := fun l J Jx W hW hJ _ hY h0 => by
  refine (sectors1_in n hn l Bx g o c hc hc1 J Jx (abides_drew hJ) hY W ((hW.cell (p := ⟨Bx, 0, none⟩) hB).trans hBx) h0).mono ?_
  rintro e W' ⟨he, h⟩
  exact ⟨he, h⟩
theorem sectors_none (n : Nat) (hn : 1 ≤ n) (Bx len c : Nat) (A : Option Addr) (hl : len ≠ 4096) (hl1 : len ≤ 9223372036854775807) (w : World) (hB : Bx < w.heap.size) (hBx : w.cell? ⟨Bx, 0, none⟩ = some (.slice A len c)) :
    SeqStopsK Fence.wide n Tryz.prog 120 #[.pointer (some ⟨Bx, 0, none⟩)] (fun x : Fin 8 => encs 0 0 0 x.1) (Box Bx) (fun ys => ys = []) (fun _ => True) 0 w := fun l J Jx W hW _ _ _ h0 => by
  refine (sectors0_in n hn l Bx len c A hl hl1 J W ((hW.cell (p := ⟨Bx, 0, none⟩) hB).trans hBx) h0).mono ?_
  rintro e W' ⟨he, h⟩
  exact ⟨he, .inl ⟨_, rfl, h⟩⟩
end Go.Proofs.YtnpebfolmdbipaaGreatDoor.Fm
