import Derived.RangeFuncNested
import Derived.RangeFuncBound
import Derived.RangeFuncCalls
import Derived.RangeFuncLeaves
import Derived.Shelf.Abstract
import Derived.Shelf.RegionOpen
import Derived.WalkKit
import Derived.OwnWalkIn
import Derived.TacticsInMore
import Derived.LoopNIn
import Derived.LoopIn
import Derived.RegionIn
import Derived.Stop.RegionWithIn
import Derived.Test.YthaleikmdoijbaaTi1
namespace Go.Proofs.Ythaleikmdoijbaa.Ti
set_option linter.unusedVariables false
set_option linter.unusedSimpArgs false
open Go.RowKit Mem Mo
attribute [local go_sem] Oper.semAt_some

theorem filled_any (A : Option Addr) (m c : Nat) (n : Int) (w : World) :
    Calls Try.prog 19 #[.slice A m c, .int .i64 n] w fun e w' => e = .returned (.func (.func 29) #[] #[.pointer (some ⟨w.heap.size, 0, none⟩), .pointer (some ⟨w.heap.size + 1, 0, none⟩)]) ∧ w' = (w.alloc (.cells #[.slice A m c] 22)).alloc (.cells #[.int .i64 n] 2) := by
  have hmf : ∀ (fn : Fn) (first cap : Array Value) (w : World), (Instr.makeFunc fn first cap).run Try.prog w = .ok (.func fn first cap) w := fun _ _ _ _ => rfl
  go_enter Try.func19, Try.ntmps19
  go_wp2
  go_ret
  exact ⟨rfl, rfl⟩

/-- What round k is handed. -/
def encT (n : Int) (u p : Nat → Int) (k : Nat) : Array Value := #[.agg #[.int .i64 (u k), .int .i64 (p k)], .int .i64 (spn n u k)]
/-- What has come when k rounds are over. -/
def upto (m k : Nat) : List (Fin m) := (List.finRange m).take k
theorem length_upto {m k : Nat} (h : k ≤ m) : (upto m k).length = k := by unfold upto; rw [List.length_take, List.length_finRange]; omega
theorem upto_succ {m k : Nat} (h : k < m) : upto m (k + 1) = upto m k ++ [⟨k, h⟩] := by
  unfold upto
  rw [List.take_succ_eq_append_getElem (by rw [List.length_finRange]; exact h), List.getElem_finRange]
  rfl
theorem upto_all (m : Nat) : upto m m = List.finRange m := by unfold upto; rw [List.take_of_length_le (by rw [List.length_finRange]; omega)]

/-- The variables and the row are as they were. -/
def Kp (Bx Bz b : Nat) (W W' : World) : Prop := W'.heap[Bx]? = W.heap[Bx]? ∧ W'.heap[Bz]? = W.heap[Bz]? ∧ W'.heap[b]? = W.heap[b]?
theorem Kp.t {Bx Bz b : Nat} {A B C : World} (h : Kp Bx Bz b A B) (k : Kp Bx Bz b B C) : Kp Bx Bz b A C := ⟨k.1.trans h.1, k.2.1.trans h.2.1, k.2.2.trans h.2.2⟩
theorem Kp.b {Bx Bz b : Nat} {w : World} (hx : Bx < w.heap.size) (hz : Bz < w.heap.size) (hb : b < w.heap.size) (W : World) (l : Nat) (o o' : Obj) (hl : w.heap.size ≤ l) (_ : W.heap[l]? = some o) (_ : o.isCells = false) (_ : o.isWalk = false) : Kp Bx Bz b W (W.putObj l o') :=
  ⟨World.putObj_heap_other (by omega), World.putObj_heap_other (by omega), World.putObj_heap_other (by omega)⟩
/-- What the iterator reads. -/
structure At (W : World) (Bx Bz b o c m : Nat) (n : Int) (u p : Nat → Int) : Prop where
  x : W.cell? ⟨Bx, 0, none⟩ = some (.slice (some ⟨b, o, none⟩) m c)
  z : W.cell? ⟨Bz, 0, none⟩ = some (.int .i64 n)
  r : ∀ k, k < m → W.cell? ⟨b, o + k * 2, none⟩ = some (.int .i64 (u k)) ∧ W.cell? ⟨b, o + k * 2 + 1, none⟩ = some (.int .i64 (p k))
theorem At.kp {W W' : World} {Bx Bz b o c m : Nat} {n : Int} {u p : Nat → Int} (h : At W Bx Bz b o c m n u p) (k : Kp Bx Bz b W W') : At W' Bx Bz b o c m n u p :=
  ⟨(World.cell?_of_block k.1).trans h.x, (World.cell?_of_block k.2.1).trans h.z, fun i hi => ⟨(World.cell?_of_block k.2.2).trans (h.r i hi).1, (World.cell?_of_block k.2.2).trans (h.r i hi).2⟩⟩
theorem lt_cell {w : World} {a : Addr} {v : Value} (h : w.cell? a = some v) : a.block < w.heap.size := by
  obtain ⟨o, ho, _⟩ := cells_of_cell h
  exact (Array.getElem?_eq_some_iff.1 ho).1
theorem At.below {W W' : World} {Bx Bz b o c m : Nat} {n : Int} {u p : Nat → Int} (h : At W Bx Bz b o c m n u p) (hb : Below W.heap.size W W') : At W' Bx Bz b o c m n u p :=
  ⟨(hb.cell (p := ⟨Bx, 0, none⟩) (lt_cell h.x)).trans h.x, (hb.cell (p := ⟨Bz, 0, none⟩) (lt_cell h.z)).trans h.z,
   fun k hk => ⟨(hb.cell (p := ⟨b, o + k * 2, none⟩) (lt_cell (h.r k hk).1)).trans (h.r k hk).1, (hb.cell (p := ⟨b, o + k * 2 + 1, none⟩) (lt_cell (h.r k hk).2)).trans (h.r k hk).2⟩⟩
theorem en_case (n x : Int) : (x = 0 ∧ en n x = n) ∨ (¬ x = 0 ∧ n ≤ x ∧ en n x = n) ∨ (¬ x = 0 ∧ x < n ∧ en n x = x) := by
  unfold en; split
  · exact .inl ⟨‹_›, rfl⟩
  · split
    · exact .inr (.inl ⟨‹_›, ‹_›, rfl⟩)
    · exact .inr (.inr ⟨‹_›, by omega, rfl⟩)

set_option maxRecDepth 100000 in
set_option maxHeartbeats 2000000 in
theorem filled1_in (d : Nat) (hd : 1 ≤ d) (l Bx Bz b o c m : Nat) (u p : Nat → Int) (n : Int) (hn : 0 ≤ n) (hn1 : n ≤ 9223372036854775807) (hok : Ok u p m) (hmc : m ≤ c) (hc1 : c ≤ 9223372036854775807) (J Jx : List (Fin m) → World → Prop)
    (hJa : ∀ pre W o, J pre W → J pre (W.alloc o))
    (hY : ∀ pre x W, J pre W → pre.length < m → YieldAt Fence.wide (d - 1) Try.prog l (encT n u p x.1) W fun e W' =>
      (e = .returned (.bool true) ∧ J (pre ++ [x]) W' ∧ Kp Bx Bz b W W') ∨ (e = .returned (.bool false) ∧ Jx (pre ++ [x]) W'))
    (W : World) (hA : At W Bx Bz b o c m n u p) (h0 : J [] W) :
    CallsIn Fence.wide d Try.prog 29 #[.func (.yield l) #[] #[], .pointer (some ⟨Bx, 0, none⟩), .pointer (some ⟨Bz, 0, none⟩)] W fun e W' => (∃ v, e = .returned v) ∧
      ((∃ ys, ys = List.finRange m ∧ J ys W') ∨ (∃ pre, (∃ k, k ≤ m ∧ pre = upto m k) ∧ Jx pre W')) := by
  refine callsIn_of_wp Try.func29 rfl trivial ?_ rfl
  simp only [Try.ntmps29, List.size_toArray, List.length_cons, List.length_nil, Nat.reduceAdd, Nat.reduceSub, Array.replicate_succ, Array.replicate_zero, List.push_toArray, List.append_toArray, List.nil_append, List.cons_append]
  have HOk := Lib.hid hok
  have HA := Lib.hid hA
  have ax := hA.x
  have hmx : Try.prog.follows .mixedOrders = true := by kernel_rfl
  clear hok hA
  gi_wp2
  clear ax
  gi_loopw [4, 10] (fun a i wr => ∃ k : Nat, k ≤ m ∧ i = .int .i64 k ∧ a = .int .i64 (ahd n u k) ∧ J (upto m k) wr ∧ Hid (At wr Bx Bz b o c m n u p)) (fun _ i _ => m - (intOf i).toNat)
  case atStart => exact ⟨0, Nat.zero_le _, rfl, rfl, h0, HA⟩
  case round =>
    obtain ⟨k, hk, rfl, rfl, hJs, HX⟩ := hrel
    by_cases hlt : k < m
    · have az := HX.out.z
      obtain ⟨e1, e2⟩ := HX.out.r k hlt
      obtain ⟨z, hz⟩ := named (u k)
      obtain ⟨q, hq⟩ := named (p k)
      obtain ⟨a, ha⟩ := named (ahd n u k)
      obtain ⟨s, hs⟩ := named (spn n u k)
      have ha2 := HOk.out.ahd_bd hn (k := k) (by omega)
      have hs2 := HOk.out.spn_bd hn hlt
      have hse : s = en n z - a := by rw [← hs, ← hz, ← ha]; rfl
      have hnx : ahd n u (k + 1) = en n z := by rw [ahd_succ, hz]
      rw [ha] at ha2
      rw [hs] at hs2
      rw [hz] at e1
      rw [hq] at e2
      rw [ha]
      obtain ⟨fn, tmps, assign, body, hy, hR⟩ := hY _ ⟨k, hlt⟩ (wr.alloc (.cells #[.int .i64 z, .int .i64 q] 27)) (hJa _ _ _ hJs) (by rw [length_upto hk]; exact hlt)
      dsimp only [encT] at hy
      rw [hz, hq, hs] at hy
      have hR2 := Lib.hid hR
      have az2 : (wr.alloc (.cells #[.int .i64 z, .int .i64 q] 27)).cell? ⟨Bz, 0, none⟩ = some (.int .i64 n) := ((Below.refl wr.heap.size wr).alloc (Nat.le_refl _) _ |>.cell (p := ⟨Bz, 0, none⟩) (lt_cell az)).trans az
      have HS := Lib.hid (And.intro hse hnx)
      have HW : Hid (At (wr.alloc (.cells #[.int .i64 z, .int .i64 q] 27)) Bx Bz b o c m n u p) := Lib.hid (HX.out.below ((Below.refl wr.heap.size wr).alloc (Nat.le_refl _) _))
      have hws : IntKind.i64.wrap s = s := by rw [IntKind.wrap_i64]; omega
      rcases en_case n z with ⟨c1, c2⟩ | ⟨c1, c2, c3⟩ | ⟨c1, c2, c3⟩
      · subst c1
        have hen : IntKind.i64.wrap (n - a) = s := by rw [← hws, hse, c2]
        clear hR hY ha2 hs2 hse hnx hz hq ha hs hws hJa h0 hn hn1
        gi_wp2
        refine hR2.out.mono ?_
        rintro e W3 (⟨rfl, hJ3, hk3⟩ | ⟨rfl, hJx3⟩)
        · have HX3 := Lib.hid (HW.out.kp hk3)
          have HJ3 := Lib.hid hJ3
          clear hJ3 hk3
          gi_wp2
          go_roundw
          case rel => exact ⟨k + 1, by omega, by go_num, by rw [HS.out.2, c2], by rw [upto_succ hlt]; exact HJ3.out, HX3⟩
          case measure => simp [intOf]; omega
        · gi_wp2
          refine bodyPost_ret (results_none rfl _ _ _) rfl ?_
          exact ⟨⟨_, rfl⟩, .inr ⟨_, ⟨k + 1, by omega, (upto_succ hlt).symm⟩, hJx3⟩⟩
      · have hen : IntKind.i64.wrap (n - a) = s := by rw [← hws, hse, c3]
        have z1 : (z == 0) = false := by simp [c1]
        have z2 : min n z = n := by omega
        have z3 : (z = 0) = False := by simp [c1]
        clear hR hY ha2 hs2 hse hnx hz hq ha hs hws hJa h0 hn hn1
        gi_wp2
        refine hR2.out.mono ?_
        rintro e W3 (⟨rfl, hJ3, hk3⟩ | ⟨rfl, hJx3⟩)
        · have HX3 := Lib.hid (HW.out.kp hk3)
          have HJ3 := Lib.hid hJ3
          clear hJ3 hk3
          gi_wp2
          go_roundw
          case rel => exact ⟨k + 1, by omega, by go_num, by rw [HS.out.2, c3], by rw [upto_succ hlt]; exact HJ3.out, HX3⟩
          case measure => simp [intOf]; omega
        · gi_wp2
          refine bodyPost_ret (results_none rfl _ _ _) rfl ?_
          exact ⟨⟨_, rfl⟩, .inr ⟨_, ⟨k + 1, by omega, (upto_succ hlt).symm⟩, hJx3⟩⟩
      · have hen : IntKind.i64.wrap (z - a) = s := by rw [← hws, hse, c3]
        have z1 : (z == 0) = false := by simp [c1]
        have z2 : min n z = z := by omega
        have z3 : (z = 0) = False := by simp [c1]
        clear hR hY ha2 hs2 hse hnx hz hq ha hs hws hJa h0 hn hn1
        gi_wp2
        refine hR2.out.mono ?_
        rintro e W3 (⟨rfl, hJ3, hk3⟩ | ⟨rfl, hJx3⟩)
        · have HX3 := Lib.hid (HW.out.kp hk3)
          have HJ3 := Lib.hid hJ3
          clear hJ3 hk3
          gi_wp2
          go_roundw
          case rel => exact ⟨k + 1, by omega, by go_num, by rw [HS.out.2, c3], by rw [upto_succ hlt]; exact HJ3.out, HX3⟩
          case measure => simp [intOf]; omega
        · gi_wp2
          refine bodyPost_ret (results_none rfl _ _ _) rfl ?_
          exact ⟨⟨_, rfl⟩, .inr ⟨_, ⟨k + 1, by omega, (upto_succ hlt).symm⟩, hJx3⟩⟩
    · obtain rfl : k = m := by omega
      gi_wp2
      go_end0
      exact ⟨⟨_, rfl⟩, .inl ⟨_, rfl, by rw [← upto_all]; exact hJs⟩⟩

/-- The iterator over tiers that may be. -/
theorem filled_stops (d : Nat) (hd : 1 ≤ d) (Bx Bz b o c m : Nat) (u p : Nat → Int) (n : Int) (hn : 0 ≤ n) (hn1 : n ≤ 9223372036854775807) (hok : Ok u p m) (hmc : m ≤ c) (hc1 : c ≤ 9223372036854775807) (w : World) (hA : At w Bx Bz b o c m n u p) :
    SeqStopsK Fence.wide d Try.prog 29 #[.pointer (some ⟨Bx, 0, none⟩), .pointer (some ⟨Bz, 0, none⟩)] (fun x : Fin m => encT n u p x.1) (Kp Bx Bz b) (fun ys => ys = List.finRange m) (fun pre => ∃ k, k ≤ m ∧ pre = upto m k) m w := fun l J Jx W hW hJ _ hY h0 => by
  refine (filled1_in d hd l Bx Bz b o c m u p n hn hn1 hok hmc hc1 J Jx (fun pre W1 o1 hj => hJ pre W1 _ none hj (World.grownBy_alloc _ _ none) (fun _ e => by cases e)) hY W (hA.below hW) h0).mono ?_
  rintro e W' ⟨he, h⟩
  exact ⟨he, h⟩

/-- What some of the tiers' units cost. -/
def smL {m : Nat} (n : Int) (u p : Nat → Int) (pre : List (Fin m)) : Int := (pre.map fun x => p x.1 * spn n u x.1).sum
theorem smL_snoc {m : Nat} (n : Int) (u p : Nat → Int) (pre : List (Fin m)) (x : Fin m) : smL n u p (pre ++ [x]) = smL n u p pre + p x.1 * spn n u x.1 := by simp [smL]
theorem smL_upto {m : Nat} (n : Int) (u p : Nat → Int) {k : Nat} (hk : k ≤ m) : smL n u p (upto m k) = cst n u p k := by
  induction k with
  | zero => rfl
  | succ k ih => rw [upto_succ (by omega), smL_snoc, ih (by omega)]; rfl
theorem smL_all {m : Nat} (n : Int) (u p : Nat → Int) : smL n u p (List.finRange m) = cst n u p m := by rw [← upto_all, smL_upto n u p (Nat.le_refl m)]
theorem smL_nonneg {m : Nat} {n : Int} {u p : Nat → Int} (h : Ok u p m) (hn : 0 ≤ n) (pre : List (Fin m)) : 0 ≤ smL n u p pre := by
  induction pre with
  | nil => simp [smL]
  | cons x l ih => simp only [smL, List.map_cons, List.sum_cons] at ih ⊢; have := h.part hn x.2; omega
/-- How many units each tier prices. -/
def spL {m : Nat} (n : Int) (u : Nat → Int) (pre : List (Fin m)) : List Int := pre.map fun x => spn n u x.1
theorem spL_snoc {m : Nat} (n : Int) (u : Nat → Int) (pre : List (Fin m)) (x : Fin m) : spL n u (pre ++ [x]) = spL n u pre ++ [spn n u x.1] := by simp [spL]
theorem spL_length {m : Nat} (n : Int) (u : Nat → Int) (pre : List (Fin m)) : (spL n u pre).length = pre.length := by simp [spL]
theorem results_price (tmps : Array Value) (w : World) (x y : Nat) (v1 v2 : Value) (e1 : tmps[4]? = some (.pointer (some ⟨x, 0, none⟩))) (e2 : tmps[5]? = some (.pointer (some ⟨y, 0, none⟩)))
    (c1 : w.cell? ⟨x, 0, none⟩ = some v1) (c2 : w.cell? ⟨y, 0, none⟩ = some v2) :
    (results Try.f8 tmps).run Try.prog w = .ok (.tuple #[v1, v2]) w := by
  simp [results, Try.results8, go_sem, e1, e2, c1, c2, Result.andThen]
end Go.Proofs.Ythaleikmdoijbaa.Ti
