import Derived.Test.YtnaoodaadeimbaaPn1
import Derived.Test.YtnaoodaadeimbaaStr
import Derived.RangeFuncNested
import Derived.RangeFuncBound
import Derived.RangeFuncCalls
import Derived.RangeFuncLeaves
import Derived.Shelf.Abstract
import Derived.Shelf.RegionOpen
import Derived.WalkKit
import Derived.OwnWalkIn
import Derived.TacticsInMore
import Derived.LoopNIn
import Derived.LoopIn
import Derived.RegionIn
import Derived.Stop.RegionWithIn
import Derived.Sort.QuietIn
namespace Go.Proofs.Ytnaoodaadeimbaa.Pl
set_option linter.unusedVariables false
set_option linter.unusedSimpArgs false
open Go.RowKit Mem Ti Mo
attribute [local go_sem] Oper.semAt_some

theorem places_any (I P : Option Addr) (w : World) :
    Calls Try.prog 20 #[.pointer I, .pointer P] w fun e w' => e = .returned (.func (.func 33) #[] #[.pointer (some ⟨w.heap.size, 0, none⟩), .pointer (some ⟨w.heap.size + 1, 0, none⟩)]) ∧ w' = (w.alloc (.cells #[.pointer I] 49)).alloc (.cells #[.pointer P] 50) := by
  have hmf : ∀ (fn : Fn) (first cap : Array Value) (w : World), (Instr.makeFunc fn first cap).run Try.prog w = .ok (.func fn first cap) w := fun _ _ _ _ => rfl
  go_enter Try.func20, Try.ntmps20
  go_wp2
  go_ret
  exact ⟨rfl, rfl⟩
theorem tierPlaces_any (A : Option Addr) (m c : Nat) (w : World) :
    Calls Try.prog 22 #[.slice A m c] w fun e w' => e = .returned (.func (.func 36) #[] #[.pointer (some ⟨w.heap.size, 0, none⟩)]) ∧ w' = w.alloc (.cells #[.slice A m c] 23) := by
  have hmf : ∀ (fn : Fn) (first cap : Array Value) (w : World), (Instr.makeFunc fn first cap).run Try.prog w = .ok (.func fn first cap) w := fun _ _ _ _ => rfl
  go_enter Try.func22, Try.ntmps22
  go_wp2
  go_ret
  exact ⟨rfl, rfl⟩

/-- The first k of m. -/
def upto (m k : Nat) : List (Fin m) := (List.finRange m).take k
theorem length_upto {m k : Nat} (h : k ≤ m) : (upto m k).length = k := by unfold upto; rw [List.length_take, List.length_finRange]; omega
theorem upto_succ {m k : Nat} (h : k < m) : upto m (k + 1) = upto m k ++ [⟨k, h⟩] := by
  unfold upto
  rw [List.take_succ_eq_append_getElem (by rw [List.length_finRange]; exact h), List.getElem_finRange]
  rfl
theorem upto_all (m : Nat) : upto m m = List.finRange m := by unfold upto; rw [List.take_of_length_le (by rw [List.length_finRange]; omega)]

/-- Place k of a plan's numbers: the Id's own one, then those of the plan's cells 1 to 5. -/
def plc (gi gp k : Nat) : Value := .pointer (some ⟨if k = 0 then gi else gp, k, none⟩)
def KpP (Bx Bz : Nat) (W W' : World) : Prop := W'.heap[Bx]? = W.heap[Bx]? ∧ W'.heap[Bz]? = W.heap[Bz]?
structure AtP (W : World) (Bx Bz gi gp : Nat) : Prop where
  x : W.cell? ⟨Bx, 0, none⟩ = some (.pointer (some ⟨gi, 0, none⟩))
  z : W.cell? ⟨Bz, 0, none⟩ = some (.pointer (some ⟨gp, 0, none⟩))
theorem lt_cell {w : World} {a : Addr} {v : Value} (h : w.cell? a = some v) : a.block < w.heap.size := by
  obtain ⟨o, ho, _⟩ := cells_of_cell h
  exact (Array.getElem?_eq_some_iff.1 ho).1
theorem AtP.below {W W' : World} {Bx Bz gi gp : Nat} (h : AtP W Bx Bz gi gp) (hb : Below W.heap.size W W') : AtP W' Bx Bz gi gp :=
  ⟨(hb.cell (p := ⟨Bx, 0, none⟩) (lt_cell h.x)).trans h.x, (hb.cell (p := ⟨Bz, 0, none⟩) (lt_cell h.z)).trans h.z⟩

theorem idx6 (gi gp : Nat) : ∀ k, k < 6 → ∀ w : World, (Instr.index 68 (.agg #[.pointer (some ⟨gi, 0, none⟩), .pointer (some ⟨gp, 1, none⟩), .pointer (some ⟨gp, 2, none⟩), .pointer (some ⟨gp, 3, none⟩), .pointer (some ⟨gp, 4, none⟩), .pointer (some ⟨gp, 5, none⟩)]) (.int .i64 (k : Nat))).run Try.prog w = .ok (plc gi gp k) w
  | 0, _ => fun w => by kernel_rfl
  | 1, _ => fun w => by kernel_rfl
  | 2, _ => fun w => by kernel_rfl
  | 3, _ => fun w => by kernel_rfl
  | 4, _ => fun w => by kernel_rfl
  | 5, _ => fun w => by kernel_rfl
  | k + 6, h => by omega
set_option maxRecDepth 100000 in
set_option maxHeartbeats 2000000 in
theorem places1_in (d : Nat) (hd : 1 ≤ d) (l Bx Bz gi gp : Nat) (J Jx : List (Fin 6) → World → Prop)
    (hY : ∀ pre x W, J pre W → pre.length < 6 → YieldAt Fence.wide (d - 1) Try.prog l #[plc gi gp x.1] W fun e W' =>
      (e = .returned (.bool true) ∧ J (pre ++ [x]) W' ∧ KpP Bx Bz W W') ∨ (e = .returned (.bool false) ∧ Jx (pre ++ [x]) W'))
    (hJd : ∀ n pre W, J pre W → J pre (W.drewN n))
    (W : World) (hA : AtP W Bx Bz gi gp) (h0 : J [] W) :
    CallsIn Fence.wide d Try.prog 33 #[.func (.yield l) #[] #[], .pointer (some ⟨Bx, 0, none⟩), .pointer (some ⟨Bz, 0, none⟩)] W fun e W' => (∃ v, e = .returned v) ∧
      ((∃ ys, ys = List.finRange 6 ∧ J ys W') ∨ (∃ pre, (∃ k, k ≤ 6 ∧ pre = upto 6 k) ∧ Jx pre W')) := by
  refine callsIn_of_wp Try.func33 rfl trivial ?_ rfl
  simp only [Try.ntmps33, List.size_toArray, List.length_cons, List.length_nil, Nat.reduceAdd, Nat.reduceSub, Array.replicate_succ, Array.replicate_zero, List.push_toArray, List.append_toArray, List.nil_append, List.cons_append]
  have ax := hA.x
  have az := hA.z
  have HJ0 := Lib.hid h0
  have HY := Lib.hid hY
  clear hA h0 hY
  gi_wp2
  gi_quiet (fail)
  have HJ1 := Lib.hid (hJd nq _ _ HJ0.out)
  have hK : ∀ k, k < 6 → ∀ w : World, (Instr.index 68 (.agg #[.pointer (some ⟨gi, 0, none⟩), .pointer (some ⟨gp, 1, none⟩), .pointer (some ⟨gp, 2, none⟩), .pointer (some ⟨gp, 3, none⟩), .pointer (some ⟨gp, 4, none⟩), .pointer (some ⟨gp, 5, none⟩)]) (.int .i64 (k : Nat))).run Try.prog w = .ok (plc gi gp k) w := by
    exact idx6 gi gp
  have HK := Lib.hid hK
  clear hK HJ0 ax az hJd
  gi_wp2
  gi_loopw [23] (fun i wr => ∃ k : Nat, k ≤ 6 ∧ i = .int .i64 k ∧ J (upto 6 k) wr) (fun i _ => 6 - (intOf i).toNat)
  case atStart => exact ⟨0, Nat.zero_le _, rfl, HJ1.out⟩
  case round =>
    obtain ⟨k, hk, rfl, hJs⟩ := hrel
    by_cases hlt : k < 6
    · obtain ⟨fn, tmps, assign, body, hy, hR⟩ := HY.out _ ⟨k, hlt⟩ wr hJs (by rw [length_upto hk]; exact hlt)
      dsimp only at hy
      have hR2 := Lib.hid hR
      have hx := HK.out k hlt
      obtain ⟨v, hv⟩ := named (plc gi gp k)
      rw [hv] at hy
      simp only [hv] at hx
      clear hR HJ1 hJs
      gi_wp2
      refine hR2.out.mono ?_
      rintro e W3 (⟨rfl, hJ3, hk3⟩ | ⟨rfl, hJx3⟩)
      · gi_wp2
        go_roundw
        case rel => exact ⟨k + 1, by omega, by go_num, by rw [upto_succ hlt]; exact hJ3⟩
        case measure => simp [intOf]; omega
      · gi_wp2
        refine bodyPost_ret (results_none rfl _ _ _) rfl ?_
        exact ⟨⟨_, rfl⟩, .inr ⟨_, ⟨k + 1, by omega, (upto_succ hlt).symm⟩, hJx3⟩⟩
    · obtain rfl : k = 6 := by omega
      gi_wp2
      go_end0
      exact ⟨⟨_, rfl⟩, .inl ⟨_, rfl, by rw [← upto_all]; exact hJs⟩⟩
theorem abides_drewN {m : Nat} {J : List (Fin m) → World → Prop} {B : Nat} (h : AbidesFrom B J) (n : Nat) (pre : List (Fin m)) (W : World) (hJ : J pre W) : J pre (W.drewN n) :=
  h pre W (W.drewN n) none hJ (grownBy_below none (below_drewN (Below.refl _ W) n)) (fun _ e => by cases e)
/-- The iterator over a plan's places. -/
theorem places_stops (d : Nat) (hd : 1 ≤ d) (Bx Bz gi gp : Nat) (w : World) (hA : AtP w Bx Bz gi gp) :
    SeqStopsK Fence.wide d Try.prog 33 #[.pointer (some ⟨Bx, 0, none⟩), .pointer (some ⟨Bz, 0, none⟩)] (fun x : Fin 6 => #[plc gi gp x.1]) (KpP Bx Bz) (fun ys => ys = List.finRange 6) (fun pre => ∃ k, k ≤ 6 ∧ pre = upto 6 k) 6 w := fun l J Jx W hW hJ _ hY h0 => by
  refine (places1_in d hd l Bx Bz gi gp J Jx hY (abides_drewN hJ) W (hA.below hW) h0).mono ?_
  rintro e W' ⟨he, h⟩
  exact ⟨he, h⟩

/-- Place k of tiers' numbers. -/
def tlc (b o k : Nat) : Value := .pointer (some ⟨b, o + k, none⟩)
def KpT (Bx : Nat) (W W' : World) : Prop := W'.heap[Bx]? = W.heap[Bx]?
set_option maxRecDepth 100000 in
set_option maxHeartbeats 2000000 in
theorem tier1_in (d : Nat) (hd : 1 ≤ d) (l Bx b o m c : Nat) (hmc : m ≤ c) (hc1 : c ≤ 9223372036854775807) (J Jx : List (Fin (2 * m)) → World → Prop)
    (hY : ∀ pre x W, J pre W → pre.length < 2 * m → YieldAt Fence.wide (d - 1) Try.prog l #[tlc b o x.1] W fun e W' =>
      (e = .returned (.bool true) ∧ J (pre ++ [x]) W' ∧ KpT Bx W W') ∨ (e = .returned (.bool false) ∧ Jx (pre ++ [x]) W'))
    (W : World) (hA : W.cell? ⟨Bx, 0, none⟩ = some (.slice (some ⟨b, o, none⟩) m c)) (h0 : J [] W) :
    CallsIn Fence.wide d Try.prog 36 #[.func (.yield l) #[] #[], .pointer (some ⟨Bx, 0, none⟩)] W fun e W' => (∃ v, e = .returned v) ∧
      ((∃ ys, ys = List.finRange (2 * m) ∧ J ys W') ∨ (∃ pre, (∃ k, k ≤ 2 * m ∧ pre = upto (2 * m) k) ∧ Jx pre W')) := by
  refine callsIn_of_wp Try.func36 rfl trivial ?_ rfl
  simp only [Try.ntmps36, List.size_toArray, List.length_cons, List.length_nil, Nat.reduceAdd, Nat.reduceSub, Array.replicate_succ, Array.replicate_zero, List.push_toArray, List.append_toArray, List.nil_append, List.cons_append]
  have HA := Lib.hid hA
  have ax := hA
  have HY := Lib.hid hY
  clear hA hY
  gi_wp2
  clear ax
  gi_loopw [6] (fun i wr => ∃ k : Nat, k ≤ m ∧ i = .int .i64 k ∧ J (upto (2 * m) (2 * k)) wr ∧ Hid (wr.cell? ⟨Bx, 0, none⟩ = some (.slice (some ⟨b, o, none⟩) m c))) (fun i _ => m - (intOf i).toNat)
  case atStart => exact ⟨0, Nat.zero_le _, rfl, h0, HA⟩
  case round =>
    obtain ⟨k, hk, rfl, hJs, HX⟩ := hrel
    by_cases hlt : k < m
    · have ax := HX.out
      obtain ⟨fn, tmps, assign, body, hy, hR⟩ := HY.out _ ⟨2 * k, by omega⟩ wr hJs (by rw [length_upto (by omega)]; omega)
      dsimp only [tlc] at hy
      rw [Nat.mul_comm 2 k] at hy
      have hR2 := Lib.hid hR
      have hs1 := upto_succ (m := 2 * m) (k := 2 * k) (by omega)
      have hs2 := upto_succ (m := 2 * m) (k := 2 * k + 1) (by omega)
      have HS1 := Lib.hid hs1
      have HS2 := Lib.hid hs2
      clear hR hJs hs1 hs2 h0
      gi_wp2
      refine hR2.out.mono ?_
      rintro e W3 (⟨rfl, hJ3, hk3⟩ | ⟨rfl, hJx3⟩)
      · have ax3 := (World.cell?_of_block (a := ⟨Bx, 0, none⟩) hk3).trans HX.out
        have HX3 := Lib.hid ax3
        rw [← HS1.out] at hJ3
        obtain ⟨fn, tmps, assign, body, hy2, hR⟩ := HY.out _ ⟨2 * k + 1, by omega⟩ W3 hJ3 (by rw [length_upto (by omega)]; omega)
        dsimp only [tlc] at hy2
        rw [Nat.mul_comm 2 k, ← Nat.add_assoc] at hy2
        have hR3 := Lib.hid hR
        clear hR hJ3 hk3 hy
        gi_wp2
        refine hR3.out.mono ?_
        rintro e W4 (⟨rfl, hJ4, hk4⟩ | ⟨rfl, hJx4⟩)
        · have HX4 := Lib.hid ((World.cell?_of_block (a := ⟨Bx, 0, none⟩) hk4).trans HX3.out)
          clear hk4
          rw [← HS2.out] at hJ4
          gi_wp2
          go_roundw
          case rel => exact ⟨k + 1, by omega, by go_num, by rw [show 2 * (k + 1) = 2 * k + 1 + 1 by omega]; exact hJ4, HX4⟩
          case measure => simp [intOf]; omega
        · gi_wp2
          refine bodyPost_ret (results_none rfl _ _ _) rfl ?_
          exact ⟨⟨_, rfl⟩, .inr ⟨_, ⟨2 * k + 1 + 1, by omega, HS2.out.symm⟩, hJx4⟩⟩
      · gi_wp2
        refine ⟨fun f h => (by cases h), ?_⟩
        gi_wp2
        refine bodyPost_ret (results_none rfl _ _ _) rfl ?_
        exact ⟨⟨_, rfl⟩, .inr ⟨_, ⟨2 * k + 1, by omega, HS1.out.symm⟩, hJx3⟩⟩
    · obtain rfl : k = m := by omega
      gi_wp2
      go_end0
      exact ⟨⟨_, rfl⟩, .inl ⟨_, rfl, by rw [← upto_all]; exact hJs⟩⟩
/-- The iterator over tiers' places. -/
theorem tier_stops (d : Nat) (hd : 1 ≤ d) (Bx b o m c : Nat) (hmc : m ≤ c) (hc1 : c ≤ 9223372036854775807) (w : World) (hA : w.cell? ⟨Bx, 0, none⟩ = some (.slice (some ⟨b, o, none⟩) m c)) :
    SeqStopsK Fence.wide d Try.prog 36 #[.pointer (some ⟨Bx, 0, none⟩)] (fun x : Fin (2 * m) => #[tlc b o x.1]) (KpT Bx) (fun ys => ys = List.finRange (2 * m)) (fun pre => ∃ k, k ≤ 2 * m ∧ pre = upto (2 * m) k) (2 * m) w := fun l J Jx W hW hJ _ hY h0 => by
  refine (tier1_in d hd l Bx b o m c hmc hc1 J Jx hY W ((hW.cell (p := ⟨Bx, 0, none⟩) (lt_cell hA)).trans hA) h0).mono ?_
  rintro e W' ⟨he, h⟩
  exact ⟨he, h⟩
end Go.Proofs.Ytnaoodaadeimbaa.Pl
