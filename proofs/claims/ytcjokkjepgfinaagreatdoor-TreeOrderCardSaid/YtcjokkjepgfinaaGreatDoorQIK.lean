import Derived.RangeFuncNested
import Derived.RangeFuncBound
import Derived.RangeFuncCalls
import Derived.RangeFuncLeaves
import Derived.Shelf.Abstract
import Derived.Shelf.RegionOpen
import Derived.WalkKit
import Derived.OwnWalkIn
import Derived.TacticsInMore
import Derived.LoopNIn
import Derived.LoopIn
import Derived.RegionIn
import Derived.Stop.RegionWithIn
import Derived.Test.YtcjokkjepgfinaaGreatDoorQHG
import Derived.Deep.RegionHeld3
import Derived.Test.YtcjokkjepgfinaaGreatDoorQHS
import Derived.Test.YtcjokkjepgfinaaGreatDoorQHW
import Derived.Test.YtcjokkjepgfinaaGreatDoorQHC
import Derived.Test.YtcjokkjepgfinaaGreatDoorQHE
import Derived.Test.YtcjokkjepgfinaaGreatDoorQHM
import Derived.Test.YtcjokkjepgfinaaGreatDoorQG7
set_option linter.unusedVariables false
set_option linter.unusedSimpArgs false
namespace Go.Proofs.YtcjokkjepgfinaaGreatDoor.Tr
set_option maxRecDepth 8000
open Go.RowKit Mem Sk
open Dk (Fr)
attribute [local go_sem] Oper.semAt_some
def Steps (W : World) (b o len : Nat) (stv : Nat → Value) : Prop :=
  ∀ x, x < len → ∃ (p lev at' : Int) (A2 A3 A4 : Option Addr) (n2 n3 n4 c2 c3 c4 : Nat), stv x = .agg #[.int .i64 p, .int .i64 lev, .slice A2 n2 c2, .slice A3 n3 c3, .slice A4 n4 c4, .int .i64 at'] ∧
    W.cell? ⟨b, o + x * 6, none⟩ = some (.int .i64 p) ∧ W.cell? ⟨b, o + x * 6 + 1, none⟩ = some (.int .i64 lev) ∧ W.cell? ⟨b, o + x * 6 + 2, none⟩ = some (.slice A2 n2 c2) ∧ W.cell? ⟨b, o + x * 6 + 3, none⟩ = some (.slice A3 n3 c3) ∧ W.cell? ⟨b, o + x * 6 + 4, none⟩ = some (.slice A4 n4 c4) ∧ W.cell? ⟨b, o + x * 6 + 5, none⟩ = some (.int .i64 at')
theorem Steps.of_block {W W' : World} {b o len : Nat} {stv : Nat → Value} (h : Steps W b o len stv) (e : W'.heap[b]? = W.heap[b]?) : Steps W' b o len stv := fun x hx => by
  obtain ⟨p, lev, at', A2, A3, A4, n2, n3, n4, c2, c3, c4, h0, h1, h2, h3, h4, h5, h6⟩ := h x hx
  exact ⟨p, lev, at', A2, A3, A4, n2, n3, n4, c2, c3, c4, h0, (World.cell?_of_block e).trans h1, (World.cell?_of_block e).trans h2, (World.cell?_of_block e).trans h3, (World.cell?_of_block e).trans h4, (World.cell?_of_block e).trans h5, (World.cell?_of_block e).trans h6⟩
def encS (stv : Nat → Value) (x : Nat) : Array Value := #[.int .i64 (x : Int), stv x]
def KpS (Bx b : Nat) (W W' : World) : Prop := W'.heap[Bx]? = W.heap[Bx]? ∧ W'.heap[b]? = W.heap[b]?
theorem KpS.t {Bx b : Nat} {A B C : World} (h : KpS Bx b A B) (k : KpS Bx b B C) : KpS Bx b A C := ⟨k.1.trans h.1, k.2.trans h.2⟩
theorem KpS.b {Bx b : Nat} {w : World} (hB : Bx < w.heap.size) (hb : b < w.heap.size) (W : World) (l : Nat) (o o' : Obj) (hl : w.heap.size ≤ l) (_ : W.heap[l]? = some o) (_ : o.isCells = false) (_ : o.isWalk = false) : KpS Bx b W (W.putObj l o') :=
  ⟨World.putObj_heap_other (by omega), World.putObj_heap_other (by omega)⟩
theorem backward_any (A : Option Addr) (n c : Nat) (w : World) :
    Calls Tryz.prog 65 #[.slice A n c] w fun e w' => e = .returned (.func (.func 91) #[] #[.pointer (some ⟨w.heap.size, 0, none⟩)]) ∧ w' = w.alloc (.cells #[.slice A n c] 68) := by
  have hmf : ∀ (fn : Fn) (first cap : Array Value) (w : World), (Instr.makeFunc fn first cap).run Tryz.prog w = .ok (.func fn first cap) w := fun _ _ _ _ => rfl
  go_enter Tryz.func65, Tryz.ntmps65
  go_wp2
  go_ret
  exact ⟨rfl, rfl⟩
set_option maxRecDepth 100000 in
set_option maxHeartbeats 4000000 in
theorem back_seq (n : Nat) (hn : 1 ≤ n) (l Bx b o len c : Nat) (stv : Nat → Value) (hlen : len ≤ 1000) (J : Nat → World → Prop) (hJ : ∀ d W, J d W → W.cell? ⟨Bx, 0, none⟩ = some (.slice (some ⟨b, o, none⟩) len c) ∧ Steps W b o len stv)
    (hY : ∀ d W, d < len → J d W → YieldAt Fence.wide (n - 1) Tryz.prog l (encS stv (len - 1 - d)) W fun e W' => e = .returned (.bool true) ∧ J (d + 1) W')
    (W : World) (h0 : J 0 W) :
    CallsIn Fence.wide n Tryz.prog 91 #[.func (.yield l) #[] #[], .pointer (some ⟨Bx, 0, none⟩)] W fun e W' => (∃ v, e = .returned v) ∧ J len W' := by
  refine callsIn_of_wp Tryz.func91 rfl trivial ?_ rfl
  simp only [Tryz.ntmps91, List.size_toArray, List.length_cons, List.length_nil, Nat.reduceAdd, Nat.reduceSub, Array.replicate_succ, Array.replicate_zero, List.push_toArray, List.append_toArray, List.nil_append, List.cons_append]
  have hBx := (hJ 0 W h0).1
  gi_wp2
  clear hBx
  gi_loopw [3] (fun i wr => ∃ d : Nat, ((∃ x : Nat, x + 1 + d = len ∧ i = .int .i64 (x : Int)) ∨ (d = len ∧ i = .int .i64 (-1))) ∧ Hid (J d wr)) (fun i _ => (intOf i + 1).toNat)
  case atStart =>
    refine ⟨0, ?_, Lib.hid h0⟩
    rcases Nat.eq_zero_or_pos len with rfl | h
    · exact .inr ⟨rfl, rfl⟩
    · exact .inl ⟨len - 1, by omega, by congr 1; omega⟩
  case round =>
    obtain ⟨d, hd, HJ⟩ := hrel
    rcases hd with ⟨x, hx, rfl⟩ | ⟨rfl, rfl⟩
    · have hxl : x < len := by omega
      obtain ⟨hBr, hst⟩ := hJ d wr HJ.out
      obtain ⟨p, lev, at', A2, A3, A4, n2, n3, n4, c2, c3, c4, hsv, g0, g1, g2, g3, g4, g5⟩ := hst x hxl
      obtain ⟨fn, tmps, assign, body, hy, hR⟩ := hY d wr (by omega) HJ.out
      dsimp only [encS] at hy
      rw [show len - 1 - d = x by omega, hsv] at hy
      have hR2 := Lib.hid hR
      have hxi : (x : Int) < (len : Int) := by omega
      have HXL := Lib.hid hx
      clear hR hY hst hsv hx hJ
      gi_wp2_with (refine hR2.out.mono ?_; rintro e W3 ⟨rfl, h4⟩)
      have J3 := Lib.hid h4
      go_roundw
      case rel =>
        refine ⟨d + 1, ?_, J3⟩
        have := HXL.out
        rcases Nat.eq_zero_or_pos x with rfl | h
        · exact .inr ⟨by omega, rfl⟩
        · exact .inl ⟨x - 1, by omega, by congr 1; omega⟩
      case measure => (simp [intOf]; try omega)
    · gi_wp2
      go_end0
      exact ⟨⟨_, rfl⟩, HJ.out⟩
section
variable {P : Program} {gf : Nat} {lb : Array Value} {g : Operand} {ps : Array Tmp} {assign body : Code} {Q : Exit → Act → World → Prop} {a : Act} {w : World} {n : Nat}
theorem range_down (hn : 3 ≤ n) (hg : a.eval g = .func (.func gf) #[] lb) (eg : ∀ args X, (callFunc gf args).run P X = .ok (.enter gf args) X) (K : Nat) (encs : Nat → Array Value) (hps : ∀ d, (encs d).size = ps.size) (I : Nat → World → Prop)
    (hI : ∀ d W W' row, I d W → W.grownBy W' row → (∀ r, row = some r → w.heap.size ≤ r ∧ ∃ o : Obj, W.heap[r]? = some o ∧ o.isCells = false) → I d W')
    (hseq : ∀ (l : Nat) (J : Nat → World → Prop), (∀ d W, J d W → I d W) → (∀ d W, d < K → J d W → YieldAt Fence.wide (n - 1 - 1) P l (encs d) W fun e W' => e = .returned (.bool true) ∧ J (d + 1) W') → ∀ W, J 0 W →
      CallsIn Fence.wide (n - 1) P gf (#[.func (.yield l) #[] #[]] ++ lb) W fun e W' => (∃ v, e = .returned v) ∧ J K W')
    (h0 : I 0 w) (Ia : Act → Nat → Act → World → Prop)
    (hIa : ∀ d a' W W' row, Ia a d a' W → W.grownBy W' row → (∀ r, row = some r → w.heap.size ≤ r ∧ ∃ o : Obj, W.heap[r]? = some o ∧ o.isCells = false) → Ia a d a' W')
    (hassign : ∀ (l d : Nat) (W : World) (K' : Act → World → Prop), d < K → I d W → (∀ a' W', KeepsOthers W W' → Ia a d a' W' → K' a' W') → assign.wpIn (Fence.wide.inRound l) (n - 1 - 1) P (Exit.then K' (fun _ _ _ => False)) { tmps := (ps.zip (encs d)).foldl (fun t (p, v) => t.setIfInBounds p v) a.tmps, defers := [] } W)
    (hbody : ∀ (l d : Nat) (a' : Act) (W : World), d < K → Ia a d a' W → body.wpIn (Fence.wide.inRound l) (n - 1 - 1) P (fun e _ W' => e = .normal ∧ KeepsOthers W W' ∧ I (d + 1) W') a' W)
    (hdone : ∀ (D : Nat) (W : World), w.heap.size ≤ D → I K W → W.heap[D]? = some (.deferred (some [])) → Q .normal { a with defers := { target := .collected D, args := #[] } :: a.defers } W) :
    (Code.rangeFunc g ps assign body).wpIn Fence.wide n P Q a w := by
  refine wpIn_rangeFunc fun fn hfn => ?_
  have hD : w.heap.size < w.heap.size + 1 := Nat.lt_succ_self _
  obtain ⟨rc, hrc⟩ : ∃ rc : LoopState → Loop, rc = fun st => { state := st, pending := none, fn, tmps := a.tmps, params := ps, assign, body, defers := w.heap.size } := ⟨_, rfl⟩
  obtain ⟨X, hX⟩ : ∃ X, X = (w.alloc (.deferred (some []))).alloc (.loop (rc .ready)) := ⟨_, rfl⟩
  have x1 : X.heap[w.heap.size + 1]? = some (.loop (rc .ready)) := by
    have := World.alloc_heap_new (w.alloc (.deferred (some []))) (.loop (rc .ready))
    rw [World.size_alloc] at this
    rw [hX]; exact this
  have x2 : X.heap[w.heap.size]? = some (.deferred (some [])) := by
    rw [hX]; exact (Below.heap_alloc _ _ _ (by simp)).trans (World.alloc_heap_new w _)
  have x3 : I 0 X := by
    rw [hX]
    exact hI 0 _ _ none (hI 0 _ _ none h0 (World.grownBy_alloc _ _ none) (fun r e => by cases e)) (World.grownBy_alloc _ _ none) (fun r e => by cases e)
  have turn : ∀ (d : Nat) (W : World) (o o' : Obj), I d W → W.heap[w.heap.size + 1]? = some o → o.isCells = false → I d (W.putObj (w.heap.size + 1) o') := fun d W o o' h ho hc =>
    hI d W _ (some (w.heap.size + 1)) h (grownBy_putObj' W _ o') fun r e => by cases e; exact ⟨by omega, o, ho, hc⟩
  refine ⟨w.heap.size + 1, [{ target := .collected w.heap.size, args := #[] }], X, { target := .fn (.func gf) lb, args := #[.func (.yield (w.heap.size + 1)) #[] #[]] }, X, gf, #[.func (.yield (w.heap.size + 1)) #[] #[]] ++ lb, X, ?_, ?_, fun _ _ => trivial, ?_, fun e => (by cases e), ?_⟩
  · rw [hX, hrc]; exact run_enterLoop_outer _ _ _ _ _
  · simp only [resolve, hg]
    simp [go_sem]
  · simp [invoke, go_sem, eg]
  · refine (hseq (w.heap.size + 1) (fun d W => I d W ∧ W.heap[w.heap.size + 1]? = some (.loop (rc .ready)) ∧ W.heap[w.heap.size]? = some (.deferred (some []))) (fun d W h => h.1) ?_ X ⟨x3, x1, x2⟩).mono ?_
    · rintro d W hd ⟨h1, h2, h3⟩
      have hlt : w.heap.size + 1 < W.heap.size := (Array.getElem?_eq_some_iff.1 h2).1
      have hy := run_yield (P := P) (args := encs d) h2 (by rw [hrc]; exact hps d)
      rw [hrc] at hy
      refine ⟨fn, _, assign, body, hy, roundIn_of_wpIn trivial (hassign _ d W _ hd h1 fun a' Wa ka hia => ⟨_, run_beginRound (ka.same _ _ h2 rfl) (by rw [hrc]), ?_⟩)⟩
      have h2' := ka.same _ _ h2 rfl
      have h3' := ka.same _ _ h3 rfl
      have b1 : (Wa.putObj (w.heap.size + 1) (.loop { rc .ready with state := .busy })).heap[w.heap.size + 1]? = some (.loop { rc .ready with state := .busy }) := World.putObj_heap_same (Nat.lt_of_lt_of_le hlt ka.size)
      have b2 : (Wa.putObj (w.heap.size + 1) (.loop { rc .ready with state := .busy })).heap[w.heap.size]? = some (.deferred (some [])) := (World.putObj_heap_other (by omega)).trans h3'
      refine wpIn_mono (hbody _ d a' _ hd (hIa d a' Wa _ (some (w.heap.size + 1)) hia (grownBy_putObj' Wa _ _) fun r e => by cases e; exact ⟨by omega, _, h2', rfl⟩)) ?_
      rintro e a3 W3 ⟨rfl, k1, k2⟩
      have r1 := k1.same _ _ b1 rfl
      have r2 := k1.same _ _ b2 rfl
      have hr := run_endRound (P := P) none r1
      refine ⟨_, _, hr, rfl, turn _ _ _ _ k2 r1 rfl, ?_, (World.putObj_heap_other (by omega)).trans r2⟩
      rw [World.putObj_heap_same (Array.getElem?_eq_some_iff.1 r1).1, hrc]; rfl
    · rintro e W2 ⟨⟨v, rfl⟩, h1, h2, h3⟩
      have hr := run_endLoop (P := P) h2 (by rw [hrc]; simp)
      refine ⟨none, _, by rw [hr, hrc], ?_⟩
      exact hdone _ _ (Nat.le_refl _) (turn K W2 _ _ h1 h2 rfl) ((World.putObj_heap_other (by omega)).trans h3)
end
end Go.Proofs.YtcjokkjepgfinaaGreatDoor.Tr
namespace Go.Proofs.YtcjokkjepgfinaaGreatDoor.Tr
set_option maxRecDepth 8000
open Go.RowKit
section
variable {P : Program} {ops : Array Oper} {Q : Exit → Act → World → Prop} {l n : Nat}
def noDefer (ops : Array Oper) : Bool := ops.toList.all fun o => match o.op with
  | .defer _ => false
  | _ => true
theorem noDefer_spec (h : noDefer ops = true) (i : Nat) (o : Oper) (ho : ops[i]? = some o) (c : Call) : o.op ≠ .defer c := by
  intro e
  have := List.all_eq_true.1 h o (Array.mem_toList_iff.2 (Array.mem_of_getElem? ho))
  rw [e] at this
  cases this
theorem upon_in {o : Oper} {a : Act} {w : World} {next next' : Act → World → Prop} (hd : ∀ c, o.op ≠ .defer c) (hn : ∀ a w, next a w → next' a w) (h : o.wp P a w next Q) : o.wpIn (Fence.wide.inRound l) n P a w next' Q := by
  refine ⟨fun _ _ => trivial, ?_⟩
  rw [Oper.semAt_eq _ _ _ hd]
  unfold Oper.wp at h
  generalize (execOp a.eval o).run P w = r at h ⊢
  cases r with
  | ok nx w' =>
    cases nx <;> simp only [Oper.upon, Oper.uponIn] at h ⊢
    case value v => exact hn _ _ h
    case skip => exact hn _ _ h
    case defer d => exact hn _ _ h
    case enter f args => 
      refine ⟨fun e => (by cases e), CallsIn.inRound l (callsIn_wide.2 (Calls.mono h fun e w'' he => ?_))⟩
      cases e with
      | returned u => exact hn _ _ he
      | panicked c => exact he
      | outgrown => exact he
    case row row args => 
      refine ⟨fun e => (by cases e), fun c cs _ => ?_⟩
      obtain ⟨v, w', r, s⟩ := h c cs
      exact ⟨v, w', hn _ _ r, stepsIn_wide.2 s⟩
  | halt x w' => cases x <;> simp only [Oper.upon, Oper.uponIn] at h ⊢ <;> exact h
theorem ops_in (hd : noDefer ops = true) (hq : ¬ LetsOut Q) : ∀ (is : List Nat) (a : Act) (w : World), wpOps P ops Q is a w → wpOpsIn (Fence.wide.inRound l) n P ops Q is a w
  | [], _, _, h => h
  | i :: rest, a, w, h => by
    simp only [wpOps, wpOpsIn] at h ⊢
    cases ho : ops[i]? with
    | none => simp only [ho] at h ⊢; exact ops_in hd hq rest a w h
    | some o =>
      simp only [ho] at h ⊢
      split
      · rename_i hw
        rw [if_pos hw] at h
        rcases h with h | h
        · exact upon_in (noDefer_spec hd i o ho) (fun a w h => ops_in hd hq rest a w h) h
        · exact absurd h.2 hq
      · rename_i hw
        rw [if_neg hw] at h
        exact ⟨fun _ _ => trivial, ops_in hd hq rest _ w h⟩
theorem region_in {S : World → Prop} {id : Nat} {a : Act} {w : World} (hm : P.follows .mixedOrders = true) (hd : noDefer ops = true) (hq : ¬ LetsOut Q) (hS : S w.drew)
    (h : S w.drew → wpAnyH P .any ops Q S ops.size (Array.replicate ops.size false) a w.drew) : (Code.region id ops true).wpIn (Fence.wide.inRound l) n P Q a w :=
  wpIn_region_draw fun t => by
    simp only [Region.schedule, hm, Bool.true_or, if_true]
    exact ops_in hd hq _ _ _ (wpAny_sound ops.size t _ a _ (wpAny_of_held _ _ _ _ (h hS)))
end
end Go.Proofs.YtcjokkjepgfinaaGreatDoor.Tr
namespace Go.Proofs.YtcjokkjepgfinaaGreatDoor.Tr
set_option maxRecDepth 8000
open Go.RowKit Mem Sk
open Dk (Fr)
section
variable {F : Nat → Prop} {N : Nat} {w : World} {va vn : Value}
theorem repl_any {k : Nat} {l m : Its k} {A1 A2 : Option Addr} {n1 c1 n2 c2 i old : Nat} (h : ItsAt true w F N k (.slice A1 n1 c1) l) (h2 : ItsAt true w F N k (.slice A2 n2 c2) m) (hi : i + old ≤ l.length) (hs : l.length + m.length ≤ 100000000) (hF : ∀ b, F b → b < w.heap.size) (hN : N ≤ w.heap.size) :
    Calls Tryz.prog 64 #[.slice A1 n1 c1, .int .i64 (i : Int), .int .i64 (old : Int), .slice A2 n2 c2] w fun e w' => ∃ v, e = .returned v ∧ ItsAt true w' F N k v (repl l i old m) ∧ Below w.heap.size w w' := by
  obtain ⟨A, c, ts, e, hr, ha⟩ := h.vals
  injection e with e1 e2 e3
  obtain ⟨A', c', us, e', hr', ha'⟩ := h2.vals
  injection e' with e1' e2' e3'
  subst e1 e2 e3 e1' e2' e3'
  have l1 := ha.1
  have l2 := ha'.1
  refine (replaced_row hr hr' (by omega) (by omega)).mono ?_
  rintro e w' ⟨v, rfl, ho, hb⟩
  exact ⟨v, rfl, ItsAt.own ho ((ha.repl ha' i old).kf (kfb hb)) hF hN, hb⟩
theorem hang_end {F1 : Nat → Prop} {V w3 : World} {k nv cv : Nat} {l : Its k} {Av : Option Addr} {x0 x1 x2 x3 x4 z0 z1 z2 z3 z4 : Value} (h0 : Below w.heap.size w V) (h3 : Below V.heap.size V w3) (hA : VN w3 w.heap.size [x0, x1, x2, x3, x4]) (hR : VN w3 (w.heap.size + 2) [z0, z1, z2, z3, z4]) (hI : ItsAt true w3 F1 N k (.slice Av nv cv) l) (hin : F1 w.heap.size) :
    Hid (VN (w3.setCell ⟨w.heap.size, 4, none⟩ (.slice Av nv cv)) w.heap.size [x0, x1, x2, x3, .slice Av nv cv]) ∧ Hid (VN (w3.setCell ⟨w.heap.size, 4, none⟩ (.slice Av nv cv)) (w.heap.size + 2) [z0, z1, z2, z3, z4]) ∧ Hid (ItsAt true (w3.setCell ⟨w.heap.size, 4, none⟩ (.slice Av nv cv)) F1 N k (.slice Av nv cv) l) ∧ Hid (Below w.heap.size w (w3.setCell ⟨w.heap.size, 4, none⟩ (.slice Av nv cv))) := by
  have O := (Only.refl w.heap.size w3).set 4 (.slice Av nv cv)
  refine ⟨Lib.hid (hA.set 4 (by simp) _), Lib.hid (hR.other (by show w.heap.size ≠ w.heap.size + 2; omega) _), Lib.hid (hI.kf ⟨⟨O.os, O.tape, O.output, Nat.le_of_eq O.size.symm, fun q _ hq => O.block q (fun e => hq (e ▸ hin))⟩, fun q _ h => h⟩), Lib.hid (O.bel (h0.trans (h3.mono h0.size)) (Nat.le_refl _))⟩
set_option maxHeartbeats 8000000 in
theorem hang_big {k : Nat} {above : Its (k + 1)} {n : Its k} {i : Nat} (ha : ItsAt true w F N (k + 1) va above) (hn : ItsAt true w F N k vn n) (hi : i < above.length) (hbig : ¬ nsz n < 1337) (h1 : nsz n ≤ 100000000) (h2 : nsz above ≤ 50000000) (hk6 : k < 256) (hF : ∀ b, F b → b < w.heap.size) (hN : N ≤ w.heap.size) (q : Option Addr) (p p' k1 : Int) (A1 A2 A3 A4 : Option Addr) (n1 n2 n3 n4 c1 c2 c3 c4 : Nat) :
    Calls Tryz.prog 66 #[.pointer q, .agg #[.int .i64 p, .int .i64 k1, .slice A1 n1 c1, .slice A2 n2 c2, va], .int .i64 (i : Int), .agg #[.int .i64 p', .int .i64 (k : Int), .slice A3 n3 c3, .slice A4 n4 c4, vn]] w fun e w' =>
      ∃ v', e = .returned (.agg #[.int .i64 p, .int .i64 k1, .slice A1 n1 c1, .slice A2 n2 c2, v']) ∧ ItsAt true w' F N (k + 1) v' (repl above i 1 (parts n (keyAt above i))) ∧ Below w.heap.size w w' := by
  obtain ⟨A, c, rfl, ha1, ha2⟩ := ha.form
  obtain ⟨B, d, rfl, hn1, hn2⟩ := hn.form
  have HC := Lib.hid (fun W (hb : Below w.heap.size w W) => nsize_any p' (k : Int) A3 A4 n3 n4 c3 c4 (hn.kr.kf (kfb hb)) (by have : 1 + isum (its n) = nsz n := rfl; omega))
  have HA := Lib.hid ha; have HNn := Lib.hid hn; have HF := Lib.hid hF
  have hsum : 1 + isum (its n) = nsz n := rfl
  have hdl : decide (((1 + isum (its n) : Nat) : Int) < 1337) = false := decide_eq_false (by omega)
  clear ha hn hF
  obtain ⟨V, hV⟩ : ∃ X, X = ((w.alloc (.cells #[.int .i64 p, .int .i64 k1, .slice A1 n1 c1, .slice A2 n2 c2, .slice A above.length c] 75)).alloc (.cells #[.int .i64 p', .int .i64 (k : Int), .slice A3 n3 c3, .slice A4 n4 c4, .slice B n.length d] 75)).alloc (.cells #[.int .i64 0, .int .i64 0, .slice none 0 0, .slice none 0 0, .slice none 0 0] 75) := ⟨_, rfl⟩
  have B0 := Lib.hid (show Below w.heap.size w V from hV ▸ (((box1 w _).alloc (by simp) _).alloc (by simp; omega) _))
  have RA := Lib.hid (show VN V w.heap.size [.int .i64 p, .int .i64 k1, .slice A1 n1 c1, .slice A2 n2 c2, .slice A above.length c] from hV ▸ ((VN.new w _ _).alloc _).alloc _)
  have RN := Lib.hid (show VN V (w.heap.size + 1) [.int .i64 p', .int .i64 (k : Int), .slice A3 n3 c3, .slice A4 n4 c4, .slice B n.length d] from by
    have := (VN.new (w.alloc (.cells #[.int .i64 p, .int .i64 k1, .slice A1 n1 c1, .slice A2 n2 c2, .slice A above.length c] 75)) #[.int .i64 p', .int .i64 (k : Int), .slice A3 n3 c3, .slice A4 n4 c4, .slice B n.length d] 75).alloc (.cells #[.int .i64 0, .int .i64 0, .slice none 0 0, .slice none 0 0, .slice none 0 0] 75)
    rw [hV]; simpa using this)
  have RR := Lib.hid (show VN V (w.heap.size + 2) [.int .i64 0, .int .i64 0, .slice none 0 0, .slice none 0 0, .slice none 0 0] from by
    have := VN.new ((w.alloc (.cells #[.int .i64 p, .int .i64 k1, .slice A1 n1 c1, .slice A2 n2 c2, .slice A above.length c] 75)).alloc (.cells #[.int .i64 p', .int .i64 (k : Int), .slice A3 n3 c3, .slice A4 n4 c4, .slice B n.length d] 75)) #[.int .i64 0, .int .i64 0, .slice none 0 0, .slice none 0 0, .slice none 0 0] 75
    rw [hV]; simpa using this)
  have HV := Lib.hid hV
  clear hV
  obtain ⟨F1, hF1d⟩ : ∃ G : Nat → Prop, G = fun b => F b ∨ (w.heap.size ≤ b ∧ b < w.heap.size + 3) := ⟨_, rfl⟩
  have hsV : V.heap.size = w.heap.size + 3 := by rw [HV.out]; simp
  have K0 : Kf F w V F1 := ⟨(kfb (F := F) B0.out).fr, fun b hb h => by rw [hF1d] at h; exact h.elim id fun h => by omega⟩
  have HF1 := Lib.hid (show ∀ b, F1 b → b < V.heap.size from fun b h => by
    rw [hF1d] at h
    rcases h with h | h
    · have := HF.out b h; omega
    · omega)
  have HBK := Lib.hid (show ∀ b, F b → F1 b from fun b h => by rw [hF1d]; exact .inl h)
  have HIN := Lib.hid (show F1 w.heap.size by rw [hF1d]; exact .inr (by omega))
  have HIN2 := Lib.hid (show F1 (w.heap.size + 2) by rw [hF1d]; exact .inr (by omega))
  have HAV := Lib.hid (HA.out.kf K0)
  have HNV := Lib.hid (HNn.out.kf K0)
  have hNV : N ≤ V.heap.size := by omega
  obtain ⟨b, o, Ak, ck, At, ct, qq, rfl, q1, _, _, r1, _, r2, _⟩ := HAV.out.kr.at (show i < (its above).length by simpa [its] using hi)
  have hk1' : ((its above)[i]'(by simpa [its] using hi)).1 = above[i].1 := by simp [its, it]
  rw [hk1'] at q1 r2
  have hka : keyAt above i = above[i].1 := keyAt_of (List.getElem?_eq_getElem hi)
  have hbw : b < V.heap.size := World.block_lt_of_cell? _ _ q1
  have HP := Lib.hid (fun W (hb : Below V.heap.size V W) => places_any (key := above[i].1) (HNV.out.kf (kfb hb)) (r2.bel hb) h1 hk6 (fun b hb' => Nat.lt_of_lt_of_le (HF1.out b hb') hb.size) (Nat.le_trans hNV hb.size) p' A3 A4 n3 n4 c3 c4)
  have hii : (i : Int) < (above.length : Int) := by omega
  have HKA := Lib.hid hka
  have HLEN := Lib.hid (show above.length + (parts n above[i].1).length ≤ 100000000 by
    have e1 := len_le_isum (its above)
    have e2 : (its above).length = above.length := by simp [its]
    have e3 : 1 + isum (its above) = nsz above := rfl
    have e4 : (parts n above[i].1).length ≤ 2 := by unfold parts; split <;> simp
    omega)
  generalize above[i].1 = kk at *
  clear r1 r2 hk1' hka hF1d K0 hsV
  go_enter Tryz.func66, Tryz.ntmps66
  go_wp2_with fail
  rw [← HV.out]
  refine (HC.out _ B0.out).mono ?_
  rintro e w1 ⟨rfl, hb1⟩
  have B1 := Lib.hid hb1
  have QA := Lib.hid (RA.out.bel hb1)
  have QN := Lib.hid (RN.out.bel hb1)
  have QR := Lib.hid (RR.out.bel hb1)
  have q1' := (bcellT B1.out b (o + i * 3) hbw).trans q1
  clear hb1 RA RN RR HV q1 HNn HNV HC
  have a4 := QA.out.c 4 _ rfl
  have m0 := QN.out.c 0 _ rfl
  have m1 := QN.out.c 1 _ rfl
  have m2 := QN.out.c 2 _ rfl
  have m3 := QN.out.c 3 _ rfl
  have m4 := QN.out.c 4 _ rfl
  go_wp2_with fail
  have BD := Lib.hid B1.out.drew
  go_cut [] from 9 (fun wz => ∃ Av nv cv, Hid (VN wz w.heap.size [.int .i64 p, .int .i64 k1, .slice A1 n1 c1, .slice A2 n2 c2, .slice Av nv cv]) ∧ Hid (VN wz (w.heap.size + 2) [.int .i64 0, .int .i64 0, .slice none 0 0, .slice none 0 0, .slice none 0 0]) ∧ Hid (ItsAt true wz F1 N (k + 1) (.slice Av nv cv) (repl above i 1 (parts n kk))) ∧ Hid (Below w.heap.size w wz))
  case first =>
    go_region_with (first
      | (go_at_call 93
         refine (HP.out _ BD.out).mono ?_
         rintro e w2 ⟨vp, ts, rfl, hO, hAl, hb2⟩
         have P2 := ItsAt.own hO hAl (fun b hb => Nat.lt_of_lt_of_le (HF1.out b hb) BD.out.size) (Nat.le_trans hNV BD.out.size)
         obtain ⟨Ap, cp, rfl⟩ := own_len' hO
         have P2H := Lib.hid P2
         have B2 := Lib.hid (BD.out.trans (hb2.mono BD.out.size))
         have QA2 := Lib.hid (QA.out.drew.bel hb2)
         have QR2 := Lib.hid (QR.out.drew.bel hb2)
         have a42 := QA2.out.c 4 _ rfl
         clear hO hAl hb2 P2)
      | (go_at_call 64
         refine (repl_any (i := i) (old := 1) (HAV.out.kf (kfb B2.out)) P2H.out (by omega) HLEN.out (fun b hb => Nat.lt_of_lt_of_le (HF1.out b hb) B2.out.size) (Nat.le_trans hNV B2.out.size)).mono ?_
         rintro e w3 ⟨v3, rfl, hI3, hb3⟩
         obtain ⟨Av, cv, rfl, _, _⟩ := hI3.form
         have I3 := Lib.hid hI3
         generalize (repl above i 1 (parts n kk)).length = nv at *
         have B3 := Lib.hid (B2.out.trans (hb3.mono B2.out.size))
         have QA3 := Lib.hid (QA2.out.bel hb3)
         have QR3 := Lib.hid (QR2.out.bel hb3)
         have a43 := QA3.out.c 4 _ rfl
         have z43 := QA3.out.z 4
         clear hI3 hb3))
    all_goals
      go_wp2_with fail
      go_meet
      case rel => exact ⟨Av, nv, cv, hang_end B0.out B3.out QA3.out QR3.out I3.out HIN.out⟩
  case rest =>
    obtain ⟨Av, nv, cv, QA, QR, QI, QB⟩ := hcut
    have b0 := QA.out.c 0 _ rfl
    have b1 := QA.out.c 1 _ rfl
    have b2 := QA.out.c 2 _ rfl
    have b3 := QA.out.c 3 _ rfl
    have b4 := QA.out.c 4 _ rfl
    have r0 := QR.out.c 0 _ rfl
    have r1 := QR.out.c 1 _ rfl
    have r2 := QR.out.c 2 _ rfl
    have r3 := QR.out.c 3 _ rfl
    have r4 := QR.out.c 4 _ rfl
    have z0 := QR.out.z 0
    have z1 := QR.out.z 1
    have z2 := QR.out.z 2
    have z3 := QR.out.z 3
    have z4 := QR.out.z 4
    go_wp2_with fail
    have Z := QR.out.set5 (.int .i64 p) (.int .i64 k1) (.slice A1 n1 c1) (.slice A2 n2 c2) (.slice Av nv cv)
    have O := Only.set5 (w.heap.size + 2) wc (.int .i64 p) (.int .i64 k1) (.slice A1 n1 c1) (.slice A2 n2 c2) (.slice Av nv cv)
    refine bodyPost_ret (results_c rfl (w.heap.size + 2) [.int .i64 p, .int .i64 k1, .slice A1 n1 c1, .slice A2 n2 c2, .slice Av nv cv] _ rfl Z.range Tryz.underlying75 rfl info_node) rfl ?_
    rw [HKA.out]
    exact ⟨_, rfl, QI.out.kf ⟨⟨O.os, O.tape, O.output, Nat.le_of_eq O.size.symm, fun q _ hq => O.block q (fun e => hq (e ▸ HIN2.out))⟩, fun q _ h => HBK.out q h⟩, O.bel QB.out (by omega)⟩
end
section
variable {B : Nat} {W w w' : World} {sb db : Nat} {y : SLay} {s : Sto} {yd : Dk.Lay} {d : Dk.Dsk} {m : Nat} {N base cb : Nat} {va vn gv gv' : Value} {g : List Nat}
theorem Ed.turn (E : Ed w base cb sb gv g) (hs : w.heap.size ≤ w'.heap.size) (h : ∀ b, EdB cb gv b → w'.heap[b]? = w.heap[b]?) : Ed w' base cb sb gv g := by
  have hc := h cb (.inl rfl)
  refine ⟨Nat.lt_of_lt_of_le E.lt hs, (World.cell?_of_block (a := ⟨cb, 0, none⟩) hc).trans E.c0, (World.cell?_of_block (a := ⟨cb, 1, none⟩) hc).trans E.c1, fun i => (frozen_of_block hc i).trans (E.z i), ?_, E.ne⟩
  exact Dk.owns_of_block E.own fun b hb => h b (.inr hb)
theorem Kf.after {G G' : Nat → Prop} {wz : World} (h : Kf G w wz G') (ho : w'.os = wz.os) (ht : w'.tape = wz.tape) (hu : w'.output = wz.output) (hs : wz.heap.size ≤ w'.heap.size) (hb : ∀ b, b < w.heap.size → w'.heap[b]? = wz.heap[b]?) : Kf G w w' G' :=
  ⟨⟨ho.trans h.fr.os, ht.trans h.fr.tape, hu.trans h.fr.output, Nat.le_trans h.fr.size hs, fun b hlt hf => (hb b hlt).trans (h.fr.block b hlt hf)⟩, h.foot⟩
theorem run_items (q k : Int) (A2 A3 A4 : Option Addr) (n2 n3 n4 c2 c3 c4 : Nat) (w : World) : (Instr.field 75 (.agg #[.int .i64 q, .int .i64 k, .slice A2 n2 c2, .slice A3 n3 c3, .slice A4 n4 c4]) 3).run Tryz.prog w = .ok (.slice A4 n4 c4) w := by kernel_rfl
theorem KR0.items {w : World} {F : Nat → Prop} {N k : Nat} {v : Value} {l : Its k} (h : KR0 w F N v (its l)) (ho : Old k l) : ItsAt true w F N k v l :=
  ItsAt.ofOld (by
    unfold KR0 at h
    rw [its_length] at h
    exact h) ho
theorem are2 {V : World} {t : TypeId} {A1 A2 : Option Addr} {c1 c2 : Nat} {l1 l2 : List V3} (h1 : RowI V V.heap.size A1 c1 l1) (h2 : RowI V V.heap.size A2 c2 l2) :
    ArePartsI (V.alloc (.cells #[.slice A1 l1.length c1, .slice A2 l2.length c2] t)) (V.alloc (.cells #[.slice A1 l1.length c1, .slice A2 l2.length c2] t)).heap.size V.heap.size 0 [⟨A1, c1, l1⟩, ⟨A2, c2, l2⟩] := by
  have hb := (Below.refl V.heap.size V).alloc (Nat.le_refl _) (.cells #[.slice A1 l1.length c1, .slice A2 l2.length c2] t)
  intro i hi
  have hi2 : i = 0 ∨ i = 1 := by simp at hi; omega
  rcases hi2 with rfl | rfl
  · exact ⟨by simp, (h1.below hb).more hb.size⟩
  · exact ⟨by simp, (h2.below hb).more hb.size⟩
theorem flat2 (A1 A2 : Option Addr) (c1 c2 : Nat) (a b : List V3) : flatI [⟨A1, c1, a⟩, ⟨A2, c2, b⟩] = a ++ b := by simp [flatI]
theorem concat2 {V : World} {t : TypeId} {F : Nat → Prop} {k : Nat} {l1 l2 : Its k} {A1 A2 : Option Addr} {n1 n2 c1 c2 : Nat} (h1 : ItsAt true V F N k (.slice A1 n1 c1) l1) (h2 : ItsAt true V F N k (.slice A2 n2 c2) l2) (hs : l1.length + l2.length ≤ 1000000) (hF : ∀ b, F b → b < V.heap.size) (hN : N ≤ V.heap.size) :
    Calls Tryz.prog 90 #[.slice (some ⟨V.heap.size, 0, none⟩) 2 2] (V.alloc (.cells #[.slice A1 n1 c1, .slice A2 n2 c2] t)) fun e w' => ∃ v, e = .returned v ∧ ItsAt true w' F N k v (l1 ++ l2) ∧ Below V.heap.size V w' := by
  obtain ⟨A, c, ts, e, hr, ha⟩ := h1.vals
  injection e with e1 e2 e3
  obtain ⟨A', c', us, e', hr', ha'⟩ := h2.vals
  injection e' with e1' e2' e3'
  subst e1 e2 e3 e1' e2' e3'
  have l1 := ha.1
  have l2 := ha'.1
  have hb := (Below.refl V.heap.size V).alloc (Nat.le_refl _) (.cells #[.slice A1 ts.length c1, .slice A2 us.length c2] t)
  refine (concatI_any V.heap.size 0 2 [⟨A1, c1, ts⟩, ⟨A2, c2, us⟩] _ (by simp) (are2 hr hr') (by simp) (by rw [flat2, List.length_append]; omega)).mono ?_
  rintro e w' ⟨v, rfl, ho, hb'⟩
  rw [flat2] at ho
  have hb2 := hb.trans (hb'.mono hb.size)
  exact ⟨v, rfl, ItsAt.own (ownsRow_low ho hb.size) ((ha.app ha').kf (kfb hb2)) hF hN, hb2⟩
abbrev Fx (bt : Nat → Prop) (z : Nat) (cb : Nat) (gv : Value) : Nat → Prop := fun b => (bt b ∨ (z ≤ b ∧ b < z + 3)) ∨ EdB cb gv b
abbrev Fo (bt : Nat → Prop) (cb : Nat) (gv : Value) : Nat → Prop := fun b => bt b ∨ EdB cb gv b
end
def nodeAt (key : By) : (k : Nat) → Its k → Nat → Nd
  | k, l, 0 => ⟨k, l⟩
  | 0, l, _ + 1 => ⟨0, l⟩
  | k + 1, l, j + 1 => nodeAt key k (sub (kidAt l (toward l key))) j
theorem nodeAt_zero (key : By) {k : Nat} (l : Its k) : nodeAt key k l 0 = ⟨k, l⟩ := by cases k <;> rfl
structure StepAt (w : World) (F : Nat → Prop) (N : Nat) (key : By) (s : Sto) (d : Dk.Dsk) (kc : Nat) (lc : Its kc) (c : List Value) (pj : Nat) : Prop where
  cells : ∃ (A2 A3 A4 : Option Addr) (n2 n4 c2 c3 c4 : Nat) (lo hi : By) (m at' : Nat), c = [.int .i64 (pj : Int), .int .i64 (kc : Int), .slice A2 n2 c2, .slice A3 hi.length c3, .slice A4 n4 c4, .int .i64 (at' : Int)] ∧ (kc ≠ 0 → at' = toward lc key) ∧
    RdF w F (.slice A3 hi.length c3) hi ∧ KR0 w F N (.slice A4 n4 c4) (its lc) ∧ Ok kc m lo hi lc ∧ inS lo hi key = true
  pgs : Pgs s d kc lc
  old : Old kc lc
theorem pgs_old {s : Sto} {d : Dk.Dsk} {k : Nat} {l : Its k} (h : Pgs s d k l) : Old k l := by
  induction k with
  | zero => trivial
  | succ k ih =>
    intro x hx
    obtain ⟨⟨p, h1, h2, h3, _⟩, h4⟩ := h x hx
    exact ⟨⟨p, h1, h2, h3⟩, ih h4⟩
theorem StepAt.kf {w w' : World} {F G : Nat → Prop} {N : Nat} {key : By} {s : Sto} {d : Dk.Dsk} {kc : Nat} {lc : Its kc} {c : List Value} {pj : Nat} (h : StepAt w F N key s d kc lc c pj) (q : Kf F w w' G) : StepAt w' G N key s d kc lc c pj := by
  obtain ⟨A2, A3, A4, n2, n4, c2, c3, c4, lo, hi, m, at', e, h1, h2, h3, h4, h5⟩ := h.cells
  exact ⟨⟨A2, A3, A4, n2, n4, c2, c3, c4, lo, hi, m, at', e, h1, h2.kf q, h3.kf q, h4, h5⟩, h.pgs, h.old⟩
section
variable {w : World} {F : Nat → Prop} {N : Nat} {key : By} {s : Sto} {d : Dk.Dsk}
theorem way_at {k p m : Nat} {lo hi : By} {l : Its k} {cs : List (List Value)} (hw : Wy w F N key k p lo hi l cs) (ho : Ok k m lo hi l) (hk : inS lo hi key = true) (hp : Pgs s d k l) :
    ∀ j, j ≤ k → ∃ (kc : Nat) (lc : Its kc) (c : List Value) (pj : Nat), kc + j = k ∧ nodeAt key k l j = ⟨kc, lc⟩ ∧ cs[j]? = some c ∧ StepAt w F N key s d kc lc c pj ∧ (j = 0 → pj = p) := by
  induction k generalizing p m lo hi cs with
  | zero =>
    intro j hj
    obtain rfl : j = 0 := by omega
    obtain ⟨fv, tv, iv, rfl, h1, h2, h3⟩ := hw
    obtain ⟨A2, c2, rfl⟩ := h1.form
    obtain ⟨A3, c3, rfl⟩ := h2.form
    obtain ⟨A4, c4, rfl, _, _⟩ := h3.kr.form
    exact ⟨0, l, _, p, rfl, rfl, rfl, ⟨⟨A2, A3, A4, _, _, c2, c3, c4, lo, hi, m, 0, rfl, fun h => absurd rfl h, h2, h3, ho, hk⟩, hp, pgs_old hp⟩, fun _ => rfl⟩
  | succ k ih =>
    intro j hj
    obtain ⟨fv, tv, iv, x, q, rest, rfl, h1, h2, h3, h4, h5, h6⟩ := hw
    cases j with
    | zero =>
      obtain ⟨A2, c2, rfl⟩ := h1.form
      obtain ⟨A3, c3, rfl⟩ := h2.form
      obtain ⟨A4, c4, rfl, _, _⟩ := h3.kr.form
      exact ⟨k + 1, l, _, p, rfl, rfl, rfl, ⟨⟨A2, A3, A4, _, _, c2, c3, c4, lo, hi, m, toward (its l) key, rfl, fun _ => toward_its l key, h2, h3, ho, hk⟩, hp, pgs_old hp⟩, fun _ => rfl⟩
    | succ j =>
      obtain ⟨y, hy, hky, hoy⟩ := ok_step ho hk
      rw [toward_its] at h4 h6
      rw [h4] at hy
      injection hy with hy
      subst hy
      obtain ⟨kc, lc, c, pj, e1, e2, e3, e4, _⟩ := ih h6 hoy hky (hp x (List.mem_of_getElem? h4)).2 j (by omega)
      refine ⟨kc, lc, c, pj, by omega, ?_, by simpa using e3, e4, fun h => by omega⟩
      show nodeAt key k (sub (kidAt l (toward l key))) j = _
      rw [kidAt_of h4]; exact e2
theorem nodeAt_next {k : Nat} {l : Its k} {j kc : Nat} {lc : Its (kc + 1)} (h : nodeAt key k l j = ⟨kc + 1, lc⟩) : nodeAt key k l (j + 1) = ⟨kc, sub (kidAt lc (toward lc key))⟩ := by
  induction k generalizing j with
  | zero => cases j <;> (simp only [nodeAt] at h; injection h with h _; omega)
  | succ k ih =>
    cases j with
    | zero =>
      rw [nodeAt_zero] at h
      injection h with h1 h2
      have h1 : k = kc := by omega
      subst h1
      have h2 := eq_of_heq h2
      subst h2
      show nodeAt key k (sub (kidAt l (toward l key))) 0 = _
      rw [nodeAt_zero]
    | succ j => exact ih h
theorem way_page {k p m : Nat} {lo hi : By} {l : Its k} {cs : List (List Value)} (hw : Wy w F N key k p lo hi l cs) (ho : Ok k m lo hi l) (hk : inS lo hi key = true) {j kc pj q : Nat} {lc : Its (kc + 1)} (hn : nodeAt key k l j = ⟨kc + 1, lc⟩) {v2 : List Value} (hc : cs[j + 1]? = some (.int .i64 (q : Int) :: v2)) :
    ∃ x, lc[toward lc key]? = some x ∧ pg x.2 = some q := by
  induction k generalizing p m lo hi cs j with
  | zero => cases j <;> (simp only [nodeAt] at hn; injection hn with h _; omega)
  | succ k ih =>
    obtain ⟨fv, tv, iv, x, q', rest, rfl, h1, h2, h3, h4, h5, h6⟩ := hw
    rw [toward_its] at h4 h6
    obtain ⟨y, hy, hky, hoy⟩ := ok_step ho hk
    rw [h4] at hy
    injection hy with hy
    subst hy
    cases j with
    | zero =>
      rw [nodeAt_zero] at hn
      injection hn with e1 e2
      have e1 : k = kc := by omega
      subst e1
      have e2 := eq_of_heq e2
      subst e2
      refine ⟨x, h4, ?_⟩
      have hc : rest[0]? = some (.int .i64 (q : Int) :: v2) := by simpa using hc
      have : ∃ t, rest[0]? = some (.int .i64 (q' : Int) :: t) := by
        cases k with
        | zero => obtain ⟨a, b, c, rfl, _⟩ := h6; exact ⟨_, rfl⟩
        | succ k => obtain ⟨a, b, c, _, _, _, rfl, _⟩ := h6; exact ⟨_, rfl⟩
      obtain ⟨t, ht⟩ := this
      rw [hc] at ht
      injection ht with ht
      injection ht with ht _
      injection ht with _ ht
      rw [h5]; congr 1; omega
    | succ j =>
      refine ih h6 hoy hky (j := j) ?_ (by simpa using hc)
      have hn : nodeAt key k (sub (kidAt l (toward l key))) j = _ := hn
      rwa [kidAt_of h4] at hn
end
section
variable {w w' : World} {F G : Nat → Prop} {N : Nat} {v : Value}
theorem Wy.outer {key : By} {k p : Nat} {lo hi : By} {l : Its k} {cs : List (List Value)} (h : Wy w F N key k p lo hi l cs) : Wy w (fun q => F q ∨ w.heap.size ≤ q) N key k p lo hi l cs := by
  induction k generalizing p lo hi cs with
  | zero => obtain ⟨fv, tv, iv, e, h1, h2, h3⟩ := h; exact ⟨fv, tv, iv, e, rdf_out h1, rdf_out h2, h3.outer⟩
  | succ k ih => obtain ⟨fv, tv, iv, x, r, rest, e, h1, h2, h3, h4, h5, h6⟩ := h; exact ⟨fv, tv, iv, x, r, rest, e, rdf_out h1, rdf_out h2, h3.outer, h4, h5, ih h6⟩
theorem RdF.avoid {l : By} {r : Nat} (h : RdF w F v l) (hr : ∀ i, w.cell? ⟨r, i, none⟩ = none) : RdF w (fun b => F b ∨ b = r) v l := by
  obtain ⟨A, c, e, h1, h2, h3, h4⟩ := h
  exact ⟨A, c, e, h1, h2, h3, fun hn => by
    obtain ⟨b, o, e2, hb, hf, hc⟩ := h4 hn
    refine ⟨b, o, e2, hb, fun h => h.elim hf fun e => ?_, hc⟩
    have := hc 0 hn
    subst e
    rw [hr] at this; cases this⟩
theorem Slots.avoid {n r : Nat} {P Q : Nat → Value → Value → Value → Prop} (h : Slots w F N v n P) (hr : ∀ i, w.cell? ⟨r, i, none⟩ = none) (hPQ : ∀ i kv rv mv, i < n → P i kv rv mv → Q i kv rv mv) : Slots w (fun b => F b ∨ b = r) N v n Q := by
  obtain ⟨A, c, e, h1, h2, h3, h4⟩ := h
  refine ⟨A, c, e, h1, h2, h3, fun hn => ?_⟩
  obtain ⟨b, o, e2, hb, hf, hN, hz, hc⟩ := h4 hn
  refine ⟨b, o, e2, hb, fun h => h.elim hf fun e => ?_, hN, hz, fun i hi => ?_⟩
  · obtain ⟨kv, rv, mv, c1, _⟩ := hc 0 hn
    subst e
    rw [hr] at c1; cases c1
  · obtain ⟨kv, rv, mv, c1, c2, c3, p⟩ := hc i hi
    exact ⟨kv, rv, mv, c1, c2, c3, hPQ _ _ _ _ hi p⟩
theorem Ent.avoid {s : Bool} {k r : Nat} {x : Kid k} {rv mv : Value} (h : Ent s w F N k x rv mv) (hr : ∀ i, w.cell? ⟨r, i, none⟩ = none) : Ent s w (fun b => F b ∨ b = r) N k x rv mv := by
  induction k generalizing rv mv with
  | zero => exact ⟨h.1.avoid hr, h.2⟩
  | succ k ih =>
    rcases h with ⟨h1, h2, h3⟩ | ⟨h1, h2, h3, b, iv, h4, h5, h6⟩
    · exact .inl ⟨h1, h2.avoid hr, h3⟩
    · refine .inr ⟨h1, h2, fun e => (h3 e).avoid hr, b, iv, h4, ⟨h5.lt, fun e => e.elim h5.out fun e => ?_, h5.low, h5.c0, h5.c1, h5.c2, h5.c3, h5.c4, h5.c5⟩, h6.avoid hr ?_⟩
      · have := h5.c0
        rw [e, hr] at this; cases this
      · rintro i kv rv mv _ ⟨y, h7, h8, h9⟩
        exact ⟨y, h7, h8.avoid hr, ih h9⟩
theorem ItsAt.avoid {s : Bool} {k r : Nat} {l : Its k} (h : ItsAt s w F N k v l) (hr : ∀ i, w.cell? ⟨r, i, none⟩ = none) : ItsAt s w (fun b => F b ∨ b = r) N k v l :=
  Slots.avoid h hr fun i kv rv mv _ ⟨y, h7, h8, h9⟩ => ⟨y, h7, h8.avoid hr, h9.avoid hr⟩
theorem ItsAt.other {s : Bool} {k r : Nat} {l : Its k} (h : ItsAt s w F N k v l) (hr : ∀ i, w.cell? ⟨r, i, none⟩ = none) (hg : w.grownBy w' (some r)) : ItsAt s w' F N k v l :=
  (h.avoid hr).kf ⟨⟨hg.os, hg.tape, hg.output, hg.size, fun b hb hf => hg.block b hb (fun e => hf (.inr (by injection e)))⟩, fun b _ e => .inl e⟩
theorem no_cells {r : Nat} {o : Obj} (h : w.heap[r]? = some o) (ho : o.isCells = false) (i : Nat) : w.cell? ⟨r, i, none⟩ = none := by
  cases o <;> simp_all [World.cell?, Obj.isCells]
end
section
variable {B : Nat} {W w w' : World} {sb db : Nat} {y : SLay} {s : Sto} {yd : Dk.Lay} {d : Dk.Dsk} {m : Nat} {N base cb : Nat} {va vn gv gv' : Value} {g : List Nat}
set_option maxHeartbeats 16000000 in
theorem hang_right {k : Nat} {above : Its (k + 1)} {n : Its k} {i : Nat} {hi : By} {q : Nat} {x : By × T k} (bo : Bo B W w sb db y yd s d m) (E : Ed w base cb sb gv g) (hbase : base ≤ w.heap.size) {bt : Nat → Prop} (hbt : ∀ b, bt b → b < w.heap.size) (hglen : g.length ≤ 1000)
    (ha : ItsAt true w (Fo bt cb gv) N (k + 1) va above) (hn : ItsAt true w (Fo bt cb gv) N k vn n) (hi1 : i + 1 < above.length) (hx : above[(i + 1)]? = some x) (hsmall : nsz n < 1337) (h2 : nsz above ≤ 50000000) (hk6 : k + 1 < 256) (hN : N ≤ w.heap.size)
    (hq : pg x.2 = some q) (hq0 : q ≠ 0) (hq9 : q < 65536) (hpo : PageOk s d q (told k (sub x.2))) (hold : Old k (sub x.2)) (hr : Right k x.1 (nxt hi (above.drop ((i + 1) + 1))) (sub x.2)) (hs : nsz (sub x.2) ≤ 4011)
    (p p' k1 : Int) (hk1 : k1 = (k : Int) + 1) {F2 : Nat → Prop} (A1 A2 A3 A4 : Option Addr) (n1 n3 n4 c1 c2 c3 c4 : Nat) (hto : RdF w F2 (.slice A2 hi.length c2) hi) :
    Calls Tryz.prog 66 #[.pointer (some ⟨cb, 0, none⟩), .agg #[.int .i64 p, .int .i64 k1, .slice A1 n1 c1, .slice A2 hi.length c2, va], .int .i64 ((i : Nat) : Int), .agg #[.int .i64 p', .int .i64 (k : Int), .slice A3 n3 c3, .slice A4 n4 c4, vn]] w fun e w' =>
      ∃ v' gv', e = .returned (.agg #[.int .i64 p, .int .i64 k1, .slice A1 n1 c1, .slice A2 hi.length c2, v']) ∧ ItsAt true w' (Fo bt cb gv') N (k + 1) v' (repl above i 2 (parts (n ++ sub x.2) (keyAt above i))) ∧ Ed w' base cb sb gv' (g ++ [q]) ∧ Kf (EdB cb gv) w w' (EdB cb gv') := by
  obtain ⟨A, c, rfl, ha1, ha2⟩ := ha.form
  obtain ⟨Bv, dv, rfl, hn1, hn2⟩ := hn.form
  have hsum : 1 + isum (its n) = nsz n := rfl
  have hsum2 : 1 + isum (its above) = nsz above := rfl
  have hsum3 : 1 + isum (its (sub x.2)) = nsz (sub x.2) := rfl
  have HC := Lib.hid (fun W1 (hb : Below w.heap.size w W1) => nsize_any p' (k : Int) A3 A4 n3 n4 c3 c4 (hn.kr.kf (kfb hb)) (by omega))
  have HA := Lib.hid ha; have HNn := Lib.hid hn
  have hdl : decide (((1 + isum (its n) : Nat) : Int) < 1337) = true := decide_eq_true (by omega)
  have hdl2 : (1 : Int) + ((isum (its n) : Nat) : Int) < 1337 := by omega
  have hlab := len_le_isum (its above)
  have hlab2 : (its above).length = above.length := by simp [its]
  have hln := len_le_isum (its n)
  have hln2 : (its n).length = n.length := by simp [its]
  have hls := len_le_isum (its (sub x.2))
  have hls2 : (its (sub x.2)).length = (sub x.2).length := by simp [its]
  have hjlt := (List.getElem?_eq_some_iff.1 hx).1
  have hlj : (its above)[(i + 1)]'(by omega) = it x := by
    have : (its above)[(i + 1)]? = some (it x) := by unfold its; rw [List.getElem?_map, hx]; rfl
    exact (List.getElem?_eq_some_iff.1 this).2
  have BEL := Lib.hid (fun W1 (hb : Below w.heap.size w W1) => (show Calls Tryz.prog 59 #[pt sb, .agg #[.int .i64 p, .int .i64 k1, .slice A1 n1 c1, .slice A2 hi.length c2, .slice A above.length c], .int .i64 ((i : Int) + 1)] W1 (fun e w' =>
      ∃ Ak ck At ct nt nk v', e = .returned (.agg #[.int .i64 (q : Int), .int .i64 (k : Int), .slice Ak nk ck, .slice At nt ct, v']) ∧ KR0 w' (fun b => b < W1.heap.size) W1.heap.size v' (its (sub x.2)) ∧ Below W1.heap.size W1 w') from by
    try rw [show ((i : Int) + 1) = (((i + 1) : Nat) : Int) by omega]
    refine (below_any (l' := sub x.2) (p := q) (bo.keep hb) (li := its above) (i := (i + 1)) p hk1 ((ha.kr.kf (kfb hb)).mono (G := fun _ => False) (fun _ h => h.elim)) ((hto.bel hb).mono (fun _ h => h.elim)) (by omega) (by omega) (by rw [hlj]; show dig (pg x.2) = _; rw [hq]; rfl) hq9 hpo hk6 (by
      rw [hlj]
      have e : nxt hi ((its above).drop ((i + 1) + 1)) = nxt hi (above.drop ((i + 1) + 1)) := by rw [← its_drop]; exact nxt_its hi _
      rw [e]; exact hr) hs).mono ?_
    rintro e w' ⟨Ak, ck, At, ct, nt, v', rfl, _, _, b3, b4⟩
    exact ⟨Ak, ck, At, ct, nt, _, v', rfl, b3, b4⟩))
  have OLD := Lib.hid hold
  have QQ := Lib.hid (show 0 < q ∧ q ≤ 1000000 by omega)
  have GL := Lib.hid hglen
  have SZ := Lib.hid (show above.length ≤ 20000000 ∧ n.length ≤ 20000 ∧ (sub x.2).length ≤ 20000 ∧ nsz (n ++ sub x.2) ≤ 100000000 ∧ above.length + (parts (n ++ sub x.2) (keyAt above i)).length ≤ 100000000 by
    have e4 : ∀ key, (parts (n ++ sub x.2) key).length ≤ 2 := fun key => by unfold parts; split <;> simp
    have e5 : nsz (n ++ sub x.2) = 1 + (isum (its n) + isum (its (sub x.2))) := by unfold nsz; rw [its_app, isum_app]; try omega
    have := e4 (keyAt above i)
    omega)
  have hai : ((above.length : Nat) : Int) ≤ 20000000 := by omega
  have t1 : ((i : Int) + 1) < ((above.length : Nat) : Int) := by omega
  have t3 : IntKind.i64.wrap ((i : Int) + 1) = (i : Int) + 1 := IntWalk.i64_in _ (by omega)
  have ED := Lib.hid E; have BO := Lib.hid bo
  have FL := Lib.hid (show ∀ b, Fo bt cb gv b → b < w.heap.size from fun b h => h.elim (fun h => hbt b h) (fun h => E.foot b h))
  have HBASE := Lib.hid hbase
  have c0 := E.c0
  have hatl : i < above.length := by omega
  have HX := Lib.hid hx
  clear ha hn bo E hsmall h2 hq hold hpo hr hs hto hbt hglen hlab hlab2 hln hln2 hls hls2 hjlt hlj hsum hsum2 hsum3 hbase hq0 hq9 hx hk1
  obtain ⟨V, hV⟩ : ∃ X, X = ((w.alloc (.cells #[.int .i64 p, .int .i64 k1, .slice A1 n1 c1, .slice A2 hi.length c2, .slice A above.length c] 75)).alloc (.cells #[.int .i64 p', .int .i64 (k : Int), .slice A3 n3 c3, .slice A4 n4 c4, .slice Bv n.length dv] 75)).alloc (.cells #[.int .i64 0, .int .i64 0, .slice none 0 0, .slice none 0 0, .slice none 0 0] 75) := ⟨_, rfl⟩
  have B0 := Lib.hid (show Below w.heap.size w V from hV ▸ (((box1 w _).alloc (by simp) _).alloc (by simp; omega) _))
  have RA := Lib.hid (show VN V w.heap.size [.int .i64 p, .int .i64 k1, .slice A1 n1 c1, .slice A2 hi.length c2, .slice A above.length c] from hV ▸ ((VN.new w _ _).alloc _).alloc _)
  have RN := Lib.hid (show VN V (w.heap.size + 1) [.int .i64 p', .int .i64 (k : Int), .slice A3 n3 c3, .slice A4 n4 c4, .slice Bv n.length dv] from by
    have := (VN.new (w.alloc (.cells #[.int .i64 p, .int .i64 k1, .slice A1 n1 c1, .slice A2 hi.length c2, .slice A above.length c] 75)) #[.int .i64 p', .int .i64 (k : Int), .slice A3 n3 c3, .slice A4 n4 c4, .slice Bv n.length dv] 75).alloc (.cells #[.int .i64 0, .int .i64 0, .slice none 0 0, .slice none 0 0, .slice none 0 0] 75)
    rw [hV]; simpa using this)
  have RR := Lib.hid (show VN V (w.heap.size + 2) [.int .i64 0, .int .i64 0, .slice none 0 0, .slice none 0 0, .slice none 0 0] from by
    have := VN.new ((w.alloc (.cells #[.int .i64 p, .int .i64 k1, .slice A1 n1 c1, .slice A2 hi.length c2, .slice A above.length c] 75)).alloc (.cells #[.int .i64 p', .int .i64 (k : Int), .slice A3 n3 c3, .slice A4 n4 c4, .slice Bv n.length dv] 75)) #[.int .i64 0, .int .i64 0, .slice none 0 0, .slice none 0 0, .slice none 0 0] 75
    rw [hV]; simpa using this)
  have HV := Lib.hid hV
  have hsV : V.heap.size = w.heap.size + 3 := by rw [hV]; simp
  have HSV := Lib.hid hsV
  clear hV hsV
  have HAV := Lib.hid (show ItsAt true V (Fx bt w.heap.size cb gv) N (k + 1) (.slice A above.length c) above from HA.out.kf ⟨(kfb (F := Fo bt cb gv) B0.out).fr, fun b hb h => by
    rcases h with (h | h) | h
    · exact .inl h
    · omega
    · exact .inr h⟩)
  have HNV := Lib.hid (show ItsAt true V (Fx bt w.heap.size cb gv) N k (.slice Bv n.length dv) n from HNn.out.kf ⟨(kfb (F := Fo bt cb gv) B0.out).fr, fun b hb h => by
    rcases h with (h | h) | h
    · exact .inl h
    · omega
    · exact .inr h⟩)
  have FLV := Lib.hid (show ∀ b, Fx bt w.heap.size cb gv b → b < V.heap.size from fun b h => by
    have := HSV.out
    rcases h with (h | h) | h
    · have := FL.out b (.inl h); omega
    · omega
    · have := FL.out b (.inr h); omega)
  have hc0 : cb < w.heap.size := ED.out.lt
  generalize hnn : n.length = nn at *
  generalize han : above.length = an at *
  have HNN := Lib.hid hnn; have HAN := Lib.hid han
  clear hnn han
  go_enter Tryz.func66, Tryz.ntmps66
  go_wp2_with fail
  rw [← HV.out]
  refine (HC.out _ B0.out).mono ?_
  rintro e w1 ⟨rfl, hb1⟩
  have B01 := Lib.hid (B0.out.trans (hb1.mono B0.out.size))
  have B1 := Lib.hid hb1
  have QA := Lib.hid (RA.out.bel hb1)
  have QN := Lib.hid (RN.out.bel hb1)
  have QR := Lib.hid (RR.out.bel hb1)
  have E1 := Lib.hid (ED.out.bel B01.out)
  have c01 := E1.out.c0
  clear hb1 RA RN RR HV c0 HC
  have a0 := QA.out.c 0 _ rfl
  have a1 := QA.out.c 1 _ rfl
  have a2 := QA.out.c 2 _ rfl
  have a3 := QA.out.c 3 _ rfl
  have a4 := QA.out.c 4 _ rfl
  have m4 := QN.out.c 4 _ rfl
  go_wp2_with fail
  have BD := Lib.hid B1.out.drew
  go_cut [] from 10 (fun wz => ∃ (gv' : Value) (Aj : Option Addr) (nj cj : Nat), Hid (VN wz w.heap.size [.int .i64 p, .int .i64 k1, .slice A1 n1 c1, .slice A2 hi.length c2, .slice A an c]) ∧ Hid (VN wz (w.heap.size + 1) [.int .i64 p', .int .i64 (k : Int), .slice A3 n3 c3, .slice A4 n4 c4, .slice Aj nj cj]) ∧ Hid (VN wz (w.heap.size + 2) [.int .i64 0, .int .i64 0, .slice none 0 0, .slice none 0 0, .slice none 0 0]) ∧
      Hid (ItsAt true wz (Fx bt w.heap.size cb gv') N (k + 1) (.slice A an c) above) ∧ Hid (ItsAt true wz (Fx bt w.heap.size cb gv') N k (.slice Aj nj cj) (n ++ sub x.2)) ∧ Hid (Ed wz base cb sb gv' (g ++ [q])) ∧ Hid (Kf (EdB cb gv) w wz (EdB cb gv')) ∧ Hid (∀ b, w.heap.size ≤ b → b < w.heap.size + 3 → ¬ EdB cb gv' b) ∧ Hid (w.heap.size + 3 ≤ wz.heap.size ∧ ∀ b, Fx bt w.heap.size cb gv' b → b < wz.heap.size))
  case first =>
    go_region_with (first
      | (go_at_call 59
         refine (BEL.out _ B01.out.drew).mono ?_
         rintro e w2 ⟨Ak, ck, At, ct, nt, nk, vk, rfl, b3, b4⟩
         have BW := Lib.hid b4
         have KR2 := Lib.hid ((b3.low (N' := N) (Nat.le_trans hN B01.out.drew.size)).mono (G := Fx bt w.heap.size cb gv) (fun b h => Nat.lt_of_lt_of_le (FLV.out b h) B1.out.drew.size))
         obtain ⟨Av, cv, rfl, _, _⟩ := b3.kr.form
         generalize hkl : (its (sub x.2)).length = kl at *
         have B2 := Lib.hid (BD.out.trans (b4.mono BD.out.size))
         have B02 := Lib.hid (B0.out.trans (B2.out.mono B0.out.size))
         have E2 := Lib.hid (E1.out.bel ((Below.refl _ _).drew.trans b4 : Below w1.heap.size w1 w2))
         have QA2 := Lib.hid (QA.out.drew.bel b4)
         have QN2 := Lib.hid (QN.out.drew.bel b4)
         have QR2 := Lib.hid (QR.out.drew.bel b4)
         have m42 := QN2.out.c 4 _ rfl
         have hfi := fun (X : World) => run_items (q : Int) (k : Int) Ak At Av nk nt kl ck ct cv X
         clear b3 b4 hkl)
      | (go_at_call 63
         refine (drop_any E2.out (Nat.le_trans HBASE.out B02.out.size) QQ.out.1 QQ.out.2 GL.out (k : Int) _ _ _ _ _ _ _ _ _).mono ?_
         rintro e w3 ⟨rfl, gv', e3, k3⟩
         have NB := Lib.hid (show ∀ b, w.heap.size ≤ b → b < w.heap.size + 3 → ¬ EdB cb gv' b from fun b h1 h2 h3 => by
           have := HSV.out
           have h4 := ED.out.foot b (k3.foot b (by have := B2.out.size; omega) h3)
           omega)
         have nb0 : ∀ b, w.heap.size ≤ b → ¬ EdB cb gv b := fun b h1 h3 => by have := ED.out.foot b h3; omega
         have QA3 := Lib.hid (QA2.out.kf (nb0 _ (Nat.le_refl _)) k3)
         have QN3 := Lib.hid (QN2.out.kf (nb0 _ (by omega)) k3)
         have QR3 := Lib.hid (QR2.out.kf (nb0 _ (by omega)) k3)
         have m43 := QN3.out.c 4 _ rfl
         have E3 := Lib.hid e3
         have KX : Kf (Fx bt w.heap.size cb gv) w2 w3 (Fx bt w.heap.size cb gv') := Kf.side k3
         have IA3 := Lib.hid ((HAV.out.kf (kfb B2.out)).kf KX)
         have IN3 := Lib.hid ((HNV.out.kf (kfb B2.out)).kf KX)
         have IK3 := Lib.hid (show ItsAt true w3 (Fx bt w.heap.size cb gv') N k (.slice Av kl cv) (sub x.2) from KR0.items (KR2.out.kf KX) OLD.out)
         have FL3 := Lib.hid (show ∀ b, Fx bt w.heap.size cb gv' b → b < w3.heap.size from fun b h => by
           rcases Nat.lt_or_ge b w2.heap.size with h1 | h1
           · exact Nat.lt_of_lt_of_le h1 k3.fr.size
           · rcases h with h | h
             · have := FLV.out b (.inl h); have := B2.out.size; omega
             · exact e3.foot b h)
         have K03 := Lib.hid ((kfb (F := EdB cb gv) B02.out).trans k3)
         have S3 := Lib.hid (show w.heap.size + 3 ≤ w3.heap.size by have := HSV.out; have := B2.out.size; have := k3.fr.size; omega)
         have CON := Lib.hid (concat2 (t := 73) IN3.out IK3.out (by have := SZ.out; have := HNN.out; omega) FL3.out (by have := B02.out.size; have := k3.fr.size; omega))
         clear e3 k3 nb0 KX)
      | (go_at_call 90
         refine CON.out.mono ?_
         rintro e w4 ⟨v4, rfl, i4, b4⟩
         obtain ⟨Aj, cj, rfl, _, _⟩ := i4.form
         generalize hnj : (n ++ sub x.2).length = nj at *
         have I4 := Lib.hid i4
         have B34 := Lib.hid b4
         have QA4 := Lib.hid (QA3.out.bel b4)
         have QN4 := Lib.hid (QN3.out.bel b4)
         have QR4 := Lib.hid (QR3.out.bel b4)
         have m44 := QN4.out.c 4 _ rfl
         have z44 := QN4.out.z 4
         clear i4 b4 hnj))
    all_goals
      go_wp2_with fail
      go_meet
      case rel =>
        have O := (Only.refl (w.heap.size + 1) w4).set 4 (.slice Aj nj cj)
        have S4 := B34.out.size
        have hx : Fx bt w.heap.size cb gv' (w.heap.size + 1) := .inl (.inr (by omega))
        have KO : Kf (Fx bt w.heap.size cb gv') w4 (w4.setCell ⟨w.heap.size + 1, 4, none⟩ (.slice Aj nj cj)) (Fx bt w.heap.size cb gv') := ⟨⟨O.os, O.tape, O.output, Nat.le_of_eq O.size.symm, fun b _ hb => O.block b (fun e => hb (e ▸ hx))⟩, fun b _ h => h⟩
        refine ⟨gv', Aj, nj, cj, Lib.hid (QA4.out.other (by show w.heap.size + 1 ≠ w.heap.size; omega) _), Lib.hid (QN4.out.set 4 (by simp) _), Lib.hid (QR4.out.other (by show w.heap.size + 1 ≠ w.heap.size + 2; omega) _), Lib.hid ((IA3.out.kf (kfb B34.out)).kf KO), Lib.hid (I4.out.kf KO), Lib.hid (((E3.out.bel B34.out)).turn (Nat.le_of_eq O.size.symm) (fun b hb => O.block b (fun e => NB.out b (by omega) (by omega) hb))), Lib.hid ?_, NB, Lib.hid ⟨by have := S3.out; rw [O.size]; omega, fun b h => by rw [O.size]; exact Nat.lt_of_lt_of_le (FL3.out b h) S4⟩⟩
        exact Kf.after (Kf.after K03.out B34.out.os B34.out.tape B34.out.output S4 (fun b hb => B34.out.block b (by have := S3.out; omega))) O.os O.tape O.output (Nat.le_of_eq O.size.symm) (fun b hb => O.block b (by omega))
  case rest =>
    obtain ⟨gv', Aj, nj, cj, QA, QN, QR, IA, IJ, E9, K9, NB, S9⟩ := hcut
    clear BEL OLD QQ GL HAV HNV FLV E1 B0 B01 B1 BD
    obtain ⟨b, o, Ak, ck, At, ct, qq, hA, q1, _, _, r1, _, r2, _⟩ := IA.out.kr.at (show i < (its above).length by have := HAN.out; rw [its_length]; omega)
    subst hA
    have hk1' : ((its above)[i]'(by have := HAN.out; rw [its_length]; omega)).1 = (above[i]'(by have := HAN.out; omega)).1 := by simp [its, it]
    rw [hk1'] at q1 r2
    have hka : keyAt above i = (above[i]'(by have := HAN.out; omega)).1 := keyAt_of (List.getElem?_eq_getElem _)
    rw [← hka] at q1 r2
    have BD := Lib.hid ((Below.refl wc.heap.size wc).drew)
    have HSZ := Lib.hid SZ.out.2.2.2.1
    have HNW := Lib.hid (show N ≤ wc.heap.size by have := S9.out.1; omega)
    have HP := Lib.hid (fun W1 (hb : Below wc.heap.size wc W1) => places_any (key := keyAt above i) (IJ.out.kf (kfb hb)) (r2.bel hb) HSZ.out (by omega) (fun b hb' => Nat.lt_of_lt_of_le (S9.out.2 b hb') hb.size) (Nat.le_trans HNW.out hb.size) p' A3 A4 n3 n4 c3 c4)
    have HLEN := Lib.hid SZ.out.2.2.2.2
    generalize hkk : keyAt above i = kk at *
    have HKA := Lib.hid hkk
    clear hkk
    have a4 := QA.out.c 4 _ rfl
    have m0 := QN.out.c 0 _ rfl
    have m1 := QN.out.c 1 _ rfl
    have m2 := QN.out.c 2 _ rfl
    have m3 := QN.out.c 3 _ rfl
    have m4 := QN.out.c 4 _ rfl
    clear r1 hk1' hka
    go_wp2_with fail
    go_cut [] from 9 (fun wz => ∃ Av nv cv, Hid (VN wz w.heap.size [.int .i64 p, .int .i64 k1, .slice A1 n1 c1, .slice A2 hi.length c2, .slice Av nv cv]) ∧ Hid (VN wz (w.heap.size + 2) [.int .i64 0, .int .i64 0, .slice none 0 0, .slice none 0 0, .slice none 0 0]) ∧ Hid (ItsAt true wz (Fx bt w.heap.size cb gv') N (k + 1) (.slice Av nv cv) (repl above i 2 (parts (n ++ sub x.2) kk))) ∧ Hid (Ed wz base cb sb gv' (g ++ [q])) ∧ Hid (Kf (EdB cb gv) w wz (EdB cb gv')))
    case first =>
      go_region_with (first
        | (go_at_call 93
           refine (HP.out _ BD.out).mono ?_
           rintro e w2 ⟨vp, ts, rfl, hO, hAl, hb2⟩
           have P2 := ItsAt.own hO hAl (fun b hb => Nat.lt_of_lt_of_le (S9.out.2 b hb) BD.out.size) (Nat.le_trans HNW.out BD.out.size)
           obtain ⟨Ap, cp, rfl⟩ := own_len' hO
           have P2H := Lib.hid P2
           have B2 := Lib.hid (BD.out.trans (hb2.mono BD.out.size))
           have QA2 := Lib.hid (QA.out.drew.bel hb2)
           have QR2 := Lib.hid (QR.out.drew.bel hb2)
           have a42 := QA2.out.c 4 _ rfl
           clear hO hAl hb2 P2)
        | (go_at_call 64
           refine (repl_any (i := i) (old := 2) (IA.out.kf (kfb B2.out)) P2H.out (by have := HAN.out; omega) (by have := HLEN.out; have := HAN.out; omega) (fun b hb => Nat.lt_of_lt_of_le (S9.out.2 b hb) B2.out.size) (Nat.le_trans HNW.out B2.out.size)).mono ?_
           rintro e w3 ⟨v3, rfl, hI3, hb3⟩
           obtain ⟨Av, cv, rfl, _, _⟩ := hI3.form
           have I3 := Lib.hid hI3
           generalize (repl above i 2 (parts (n ++ sub x.2) kk)).length = nv at *
           have B3 := Lib.hid (B2.out.trans (hb3.mono B2.out.size))
           have QA3 := Lib.hid (QA2.out.bel hb3)
           have QR3 := Lib.hid (QR2.out.bel hb3)
           have a43 := QA3.out.c 4 _ rfl
           have z43 := QA3.out.z 4
           clear hI3 hb3))
      all_goals
        go_wp2_with fail
        go_meet
        case rel =>
          have O := (Only.refl w.heap.size w3).set 4 (.slice Av nv cv)
          have S3 := B3.out.size
          have hx : Fx bt w.heap.size cb gv' w.heap.size := .inl (.inr (by omega))
          refine ⟨Av, nv, cv, Lib.hid (QA3.out.set 4 (by simp) _), Lib.hid (QR3.out.other (by show w.heap.size ≠ w.heap.size + 2; omega) _), Lib.hid (I3.out.kf ⟨⟨O.os, O.tape, O.output, Nat.le_of_eq O.size.symm, fun b _ hb => O.block b (fun e => hb (e ▸ hx))⟩, fun b _ h => h⟩), Lib.hid ((E9.out.bel B3.out).turn (Nat.le_of_eq O.size.symm) (fun b hb => O.block b (fun e => NB.out b (by omega) (by omega) hb))), Lib.hid ?_⟩
          exact Kf.after (Kf.after K9.out B3.out.os B3.out.tape B3.out.output S3 (fun b hb => B3.out.block b (by have := S9.out.1; omega))) O.os O.tape O.output (Nat.le_of_eq O.size.symm) (fun b hb => O.block b (by omega))
    case rest =>
      obtain ⟨Av, nv, cv, QA, QR, QI, QE, QK⟩ := hcut
      have b0 := QA.out.c 0 _ rfl
      have b1 := QA.out.c 1 _ rfl
      have b2 := QA.out.c 2 _ rfl
      have b3 := QA.out.c 3 _ rfl
      have b4 := QA.out.c 4 _ rfl
      have r0 := QR.out.c 0 _ rfl
      have r1 := QR.out.c 1 _ rfl
      have r2 := QR.out.c 2 _ rfl
      have r3 := QR.out.c 3 _ rfl
      have r4 := QR.out.c 4 _ rfl
      have z0 := QR.out.z 0
      have z1 := QR.out.z 1
      have z2 := QR.out.z 2
      have z3 := QR.out.z 3
      have z4 := QR.out.z 4
      go_wp2_with fail
      have Z := QR.out.set5 (.int .i64 p) (.int .i64 k1) (.slice A1 n1 c1) (.slice A2 hi.length c2) (.slice Av nv cv)
      have O := Only.set5 (w.heap.size + 2) wc (.int .i64 p) (.int .i64 k1) (.slice A1 n1 c1) (.slice A2 hi.length c2) (.slice Av nv cv)
      have hx : Fx bt w.heap.size cb gv' (w.heap.size + 2) := .inl (.inr (by omega))
      refine bodyPost_ret (results_c rfl (w.heap.size + 2) [.int .i64 p, .int .i64 k1, .slice A1 n1 c1, .slice A2 hi.length c2, .slice Av nv cv] _ rfl Z.range Tryz.underlying75 rfl info_node) rfl ?_
      rw [HKA.out]
      exact ⟨_, gv', rfl, QI.out.kf ⟨⟨O.os, O.tape, O.output, Nat.le_of_eq O.size.symm, fun b _ hb => O.block b (fun e => hb (e ▸ hx))⟩, fun b _ (h : Fo bt cb gv' b) => h.elim (fun h => .inl (.inl h)) .inr⟩, QE.out.turn (Nat.le_of_eq O.size.symm) (fun b hb => O.block b (fun e => NB.out b (by omega) (by omega) hb)), Kf.after QK.out O.os O.tape O.output (Nat.le_of_eq O.size.symm) (fun b hb => O.block b (by omega))⟩
end
section
variable {B : Nat} {W w w' : World} {sb db : Nat} {y : SLay} {s : Sto} {yd : Dk.Lay} {d : Dk.Dsk} {m : Nat} {N base cb : Nat} {va vn gv gv' : Value} {g : List Nat}
set_option maxHeartbeats 16000000 in
theorem hang_left {k : Nat} {above : Its (k + 1)} {n : Its k} {i : Nat} {hi : By} {q : Nat} {x : By × T k} (bo : Bo B W w sb db y yd s d m) (E : Ed w base cb sb gv g) (hbase : base ≤ w.heap.size) {bt : Nat → Prop} (hbt : ∀ b, bt b → b < w.heap.size) (hglen : g.length ≤ 1000)
    (ha : ItsAt true w (Fo bt cb gv) N (k + 1) va above) (hn : ItsAt true w (Fo bt cb gv) N k vn n) (hi1 : i + 1 + 1 = above.length) (hx : above[i]? = some x) (hsmall : nsz n < 1337) (h2 : nsz above ≤ 50000000) (hk6 : k + 1 < 256) (hN : N ≤ w.heap.size)
    (hq : pg x.2 = some q) (hq0 : q ≠ 0) (hq9 : q < 65536) (hpo : PageOk s d q (told k (sub x.2))) (hold : Old k (sub x.2)) (hr : Right k x.1 (nxt hi (above.drop (i + 1))) (sub x.2)) (hs : nsz (sub x.2) ≤ 4011)
    (p p' k1 : Int) (hk1 : k1 = (k : Int) + 1) {F2 : Nat → Prop} (A1 A2 A3 A4 : Option Addr) (n1 n3 n4 c1 c2 c3 c4 : Nat) (hto : RdF w F2 (.slice A2 hi.length c2) hi) :
    Calls Tryz.prog 66 #[.pointer (some ⟨cb, 0, none⟩), .agg #[.int .i64 p, .int .i64 k1, .slice A1 n1 c1, .slice A2 hi.length c2, va], .int .i64 ((i + 1 : Nat) : Int), .agg #[.int .i64 p', .int .i64 (k : Int), .slice A3 n3 c3, .slice A4 n4 c4, vn]] w fun e w' =>
      ∃ v' gv', e = .returned (.agg #[.int .i64 p, .int .i64 k1, .slice A1 n1 c1, .slice A2 hi.length c2, v']) ∧ ItsAt true w' (Fo bt cb gv') N (k + 1) v' (repl above i 2 (parts (sub x.2 ++ n) (keyAt above i))) ∧ Ed w' base cb sb gv' (g ++ [q]) ∧ Kf (EdB cb gv) w w' (EdB cb gv') := by
  obtain ⟨A, c, rfl, ha1, ha2⟩ := ha.form
  obtain ⟨Bv, dv, rfl, hn1, hn2⟩ := hn.form
  have hsum : 1 + isum (its n) = nsz n := rfl
  have hsum2 : 1 + isum (its above) = nsz above := rfl
  have hsum3 : 1 + isum (its (sub x.2)) = nsz (sub x.2) := rfl
  have HC := Lib.hid (fun W1 (hb : Below w.heap.size w W1) => nsize_any p' (k : Int) A3 A4 n3 n4 c3 c4 (hn.kr.kf (kfb hb)) (by omega))
  have HA := Lib.hid ha; have HNn := Lib.hid hn
  have hdl : decide (((1 + isum (its n) : Nat) : Int) < 1337) = true := decide_eq_true (by omega)
  have hdl2 : (1 : Int) + ((isum (its n) : Nat) : Int) < 1337 := by omega
  have hlab := len_le_isum (its above)
  have hlab2 : (its above).length = above.length := by simp [its]
  have hln := len_le_isum (its n)
  have hln2 : (its n).length = n.length := by simp [its]
  have hls := len_le_isum (its (sub x.2))
  have hls2 : (its (sub x.2)).length = (sub x.2).length := by simp [its]
  have hjlt := (List.getElem?_eq_some_iff.1 hx).1
  have hlj : (its above)[i]'(by omega) = it x := by
    have : (its above)[i]? = some (it x) := by unfold its; rw [List.getElem?_map, hx]; rfl
    exact (List.getElem?_eq_some_iff.1 this).2
  have BEL := Lib.hid (fun W1 (hb : Below w.heap.size w W1) => (show Calls Tryz.prog 59 #[pt sb, .agg #[.int .i64 p, .int .i64 k1, .slice A1 n1 c1, .slice A2 hi.length c2, .slice A above.length c], .int .i64 ((i : Int))] W1 (fun e w' =>
      ∃ Ak ck At ct nt nk v', e = .returned (.agg #[.int .i64 (q : Int), .int .i64 (k : Int), .slice Ak nk ck, .slice At nt ct, v']) ∧ KR0 w' (fun b => b < W1.heap.size) W1.heap.size v' (its (sub x.2)) ∧ Below W1.heap.size W1 w') from by
    try rw [show ((i : Int)) = ((i : Nat) : Int) by omega]
    refine (below_any (l' := sub x.2) (p := q) (bo.keep hb) (li := its above) (i := i) p hk1 ((ha.kr.kf (kfb hb)).mono (G := fun _ => False) (fun _ h => h.elim)) ((hto.bel hb).mono (fun _ h => h.elim)) (by omega) (by omega) (by rw [hlj]; show dig (pg x.2) = _; rw [hq]; rfl) hq9 hpo hk6 (by
      rw [hlj]
      have e : nxt hi ((its above).drop (i + 1)) = nxt hi (above.drop (i + 1)) := by rw [← its_drop]; exact nxt_its hi _
      rw [e]; exact hr) hs).mono ?_
    rintro e w' ⟨Ak, ck, At, ct, nt, v', rfl, _, _, b3, b4⟩
    exact ⟨Ak, ck, At, ct, nt, _, v', rfl, b3, b4⟩))
  have OLD := Lib.hid hold
  have QQ := Lib.hid (show 0 < q ∧ q ≤ 1000000 by omega)
  have GL := Lib.hid hglen
  have SZ := Lib.hid (show above.length ≤ 20000000 ∧ n.length ≤ 20000 ∧ (sub x.2).length ≤ 20000 ∧ nsz (sub x.2 ++ n) ≤ 100000000 ∧ above.length + (parts (sub x.2 ++ n) (keyAt above i)).length ≤ 100000000 by
    have e4 : ∀ key, (parts (sub x.2 ++ n) key).length ≤ 2 := fun key => by unfold parts; split <;> simp
    have e5 : nsz (sub x.2 ++ n) = 1 + (isum (its n) + isum (its (sub x.2))) := by unfold nsz; rw [its_app, isum_app]; try omega
    have := e4 (keyAt above i)
    omega)
  have hai : ((above.length : Nat) : Int) ≤ 20000000 := by omega
  have t1 : ¬ ((i : Int) + 1 + 1) < ((above.length : Nat) : Int) := by omega
  have ED := Lib.hid E; have BO := Lib.hid bo
  have FL := Lib.hid (show ∀ b, Fo bt cb gv b → b < w.heap.size from fun b h => h.elim (fun h => hbt b h) (fun h => E.foot b h))
  have HBASE := Lib.hid hbase
  have c0 := E.c0
  have hatl : i < above.length := by omega
  have HX := Lib.hid hx
  clear ha hn bo E hsmall h2 hq hold hpo hr hs hto hbt hglen hlab hlab2 hln hln2 hls hls2 hjlt hlj hsum hsum2 hsum3 hbase hq0 hq9 hx hk1
  obtain ⟨V, hV⟩ : ∃ X, X = ((w.alloc (.cells #[.int .i64 p, .int .i64 k1, .slice A1 n1 c1, .slice A2 hi.length c2, .slice A above.length c] 75)).alloc (.cells #[.int .i64 p', .int .i64 (k : Int), .slice A3 n3 c3, .slice A4 n4 c4, .slice Bv n.length dv] 75)).alloc (.cells #[.int .i64 0, .int .i64 0, .slice none 0 0, .slice none 0 0, .slice none 0 0] 75) := ⟨_, rfl⟩
  have B0 := Lib.hid (show Below w.heap.size w V from hV ▸ (((box1 w _).alloc (by simp) _).alloc (by simp; omega) _))
  have RA := Lib.hid (show VN V w.heap.size [.int .i64 p, .int .i64 k1, .slice A1 n1 c1, .slice A2 hi.length c2, .slice A above.length c] from hV ▸ ((VN.new w _ _).alloc _).alloc _)
  have RN := Lib.hid (show VN V (w.heap.size + 1) [.int .i64 p', .int .i64 (k : Int), .slice A3 n3 c3, .slice A4 n4 c4, .slice Bv n.length dv] from by
    have := (VN.new (w.alloc (.cells #[.int .i64 p, .int .i64 k1, .slice A1 n1 c1, .slice A2 hi.length c2, .slice A above.length c] 75)) #[.int .i64 p', .int .i64 (k : Int), .slice A3 n3 c3, .slice A4 n4 c4, .slice Bv n.length dv] 75).alloc (.cells #[.int .i64 0, .int .i64 0, .slice none 0 0, .slice none 0 0, .slice none 0 0] 75)
    rw [hV]; simpa using this)
  have RR := Lib.hid (show VN V (w.heap.size + 2) [.int .i64 0, .int .i64 0, .slice none 0 0, .slice none 0 0, .slice none 0 0] from by
    have := VN.new ((w.alloc (.cells #[.int .i64 p, .int .i64 k1, .slice A1 n1 c1, .slice A2 hi.length c2, .slice A above.length c] 75)).alloc (.cells #[.int .i64 p', .int .i64 (k : Int), .slice A3 n3 c3, .slice A4 n4 c4, .slice Bv n.length dv] 75)) #[.int .i64 0, .int .i64 0, .slice none 0 0, .slice none 0 0, .slice none 0 0] 75
    rw [hV]; simpa using this)
  have HV := Lib.hid hV
  have hsV : V.heap.size = w.heap.size + 3 := by rw [hV]; simp
  have HSV := Lib.hid hsV
  clear hV hsV
  have HAV := Lib.hid (show ItsAt true V (Fx bt w.heap.size cb gv) N (k + 1) (.slice A above.length c) above from HA.out.kf ⟨(kfb (F := Fo bt cb gv) B0.out).fr, fun b hb h => by
    rcases h with (h | h) | h
    · exact .inl h
    · omega
    · exact .inr h⟩)
  have HNV := Lib.hid (show ItsAt true V (Fx bt w.heap.size cb gv) N k (.slice Bv n.length dv) n from HNn.out.kf ⟨(kfb (F := Fo bt cb gv) B0.out).fr, fun b hb h => by
    rcases h with (h | h) | h
    · exact .inl h
    · omega
    · exact .inr h⟩)
  have FLV := Lib.hid (show ∀ b, Fx bt w.heap.size cb gv b → b < V.heap.size from fun b h => by
    have := HSV.out
    rcases h with (h | h) | h
    · have := FL.out b (.inl h); omega
    · omega
    · have := FL.out b (.inr h); omega)
  have hc0 : cb < w.heap.size := ED.out.lt
  generalize hnn : n.length = nn at *
  generalize han : above.length = an at *
  have HNN := Lib.hid hnn; have HAN := Lib.hid han
  clear hnn han
  go_enter Tryz.func66, Tryz.ntmps66
  go_wp2_with fail
  rw [← HV.out]
  refine (HC.out _ B0.out).mono ?_
  rintro e w1 ⟨rfl, hb1⟩
  have B01 := Lib.hid (B0.out.trans (hb1.mono B0.out.size))
  have B1 := Lib.hid hb1
  have QA := Lib.hid (RA.out.bel hb1)
  have QN := Lib.hid (RN.out.bel hb1)
  have QR := Lib.hid (RR.out.bel hb1)
  have E1 := Lib.hid (ED.out.bel B01.out)
  have c01 := E1.out.c0
  clear hb1 RA RN RR HV c0 HC
  have a0 := QA.out.c 0 _ rfl
  have a1 := QA.out.c 1 _ rfl
  have a2 := QA.out.c 2 _ rfl
  have a3 := QA.out.c 3 _ rfl
  have a4 := QA.out.c 4 _ rfl
  have m4 := QN.out.c 4 _ rfl
  go_wp2_with fail
  have BD := Lib.hid B1.out.drew
  go_cut [] from 10 (fun wz => ∃ (gv' : Value) (Aj : Option Addr) (nj cj : Nat), Hid (VN wz w.heap.size [.int .i64 p, .int .i64 k1, .slice A1 n1 c1, .slice A2 hi.length c2, .slice A an c]) ∧ Hid (VN wz (w.heap.size + 1) [.int .i64 p', .int .i64 (k : Int), .slice A3 n3 c3, .slice A4 n4 c4, .slice Aj nj cj]) ∧ Hid (VN wz (w.heap.size + 2) [.int .i64 0, .int .i64 0, .slice none 0 0, .slice none 0 0, .slice none 0 0]) ∧
      Hid (ItsAt true wz (Fx bt w.heap.size cb gv') N (k + 1) (.slice A an c) above) ∧ Hid (ItsAt true wz (Fx bt w.heap.size cb gv') N k (.slice Aj nj cj) (sub x.2 ++ n)) ∧ Hid (Ed wz base cb sb gv' (g ++ [q])) ∧ Hid (Kf (EdB cb gv) w wz (EdB cb gv')) ∧ Hid (∀ b, w.heap.size ≤ b → b < w.heap.size + 3 → ¬ EdB cb gv' b) ∧ Hid (w.heap.size + 3 ≤ wz.heap.size ∧ ∀ b, Fx bt w.heap.size cb gv' b → b < wz.heap.size))
  case first =>
    go_region_with (first
      | (go_at_call 59
         refine (BEL.out _ B01.out.drew).mono ?_
         rintro e w2 ⟨Ak, ck, At, ct, nt, nk, vk, rfl, b3, b4⟩
         have BW := Lib.hid b4
         have KR2 := Lib.hid ((b3.low (N' := N) (Nat.le_trans hN B01.out.drew.size)).mono (G := Fx bt w.heap.size cb gv) (fun b h => Nat.lt_of_lt_of_le (FLV.out b h) B1.out.drew.size))
         obtain ⟨Av, cv, rfl, _, _⟩ := b3.kr.form
         generalize hkl : (its (sub x.2)).length = kl at *
         have B2 := Lib.hid (BD.out.trans (b4.mono BD.out.size))
         have B02 := Lib.hid (B0.out.trans (B2.out.mono B0.out.size))
         have E2 := Lib.hid (E1.out.bel ((Below.refl _ _).drew.trans b4 : Below w1.heap.size w1 w2))
         have QA2 := Lib.hid (QA.out.drew.bel b4)
         have QN2 := Lib.hid (QN.out.drew.bel b4)
         have QR2 := Lib.hid (QR.out.drew.bel b4)
         have m42 := QN2.out.c 4 _ rfl
         have hfi := fun (X : World) => run_items (q : Int) (k : Int) Ak At Av nk nt kl ck ct cv X
         clear b3 b4 hkl)
      | (go_at_call 63
         refine (drop_any E2.out (Nat.le_trans HBASE.out B02.out.size) QQ.out.1 QQ.out.2 GL.out (k : Int) _ _ _ _ _ _ _ _ _).mono ?_
         rintro e w3 ⟨rfl, gv', e3, k3⟩
         have NB := Lib.hid (show ∀ b, w.heap.size ≤ b → b < w.heap.size + 3 → ¬ EdB cb gv' b from fun b h1 h2 h3 => by
           have := HSV.out
           have h4 := ED.out.foot b (k3.foot b (by have := B2.out.size; omega) h3)
           omega)
         have nb0 : ∀ b, w.heap.size ≤ b → ¬ EdB cb gv b := fun b h1 h3 => by have := ED.out.foot b h3; omega
         have QA3 := Lib.hid (QA2.out.kf (nb0 _ (Nat.le_refl _)) k3)
         have QN3 := Lib.hid (QN2.out.kf (nb0 _ (by omega)) k3)
         have QR3 := Lib.hid (QR2.out.kf (nb0 _ (by omega)) k3)
         have m43 := QN3.out.c 4 _ rfl
         have E3 := Lib.hid e3
         have KX : Kf (Fx bt w.heap.size cb gv) w2 w3 (Fx bt w.heap.size cb gv') := Kf.side k3
         have IA3 := Lib.hid ((HAV.out.kf (kfb B2.out)).kf KX)
         have IN3 := Lib.hid ((HNV.out.kf (kfb B2.out)).kf KX)
         have IK3 := Lib.hid (show ItsAt true w3 (Fx bt w.heap.size cb gv') N k (.slice Av kl cv) (sub x.2) from KR0.items (KR2.out.kf KX) OLD.out)
         have FL3 := Lib.hid (show ∀ b, Fx bt w.heap.size cb gv' b → b < w3.heap.size from fun b h => by
           rcases Nat.lt_or_ge b w2.heap.size with h1 | h1
           · exact Nat.lt_of_lt_of_le h1 k3.fr.size
           · rcases h with h | h
             · have := FLV.out b (.inl h); have := B2.out.size; omega
             · exact e3.foot b h)
         have K03 := Lib.hid ((kfb (F := EdB cb gv) B02.out).trans k3)
         have S3 := Lib.hid (show w.heap.size + 3 ≤ w3.heap.size by have := HSV.out; have := B2.out.size; have := k3.fr.size; omega)
         have CON := Lib.hid (concat2 (t := 73) IK3.out IN3.out (by have := SZ.out; have := HNN.out; omega) FL3.out (by have := B02.out.size; have := k3.fr.size; omega))
         clear e3 k3 nb0 KX)
      | (go_at_call 90
         refine CON.out.mono ?_
         rintro e w4 ⟨v4, rfl, i4, b4⟩
         obtain ⟨Aj, cj, rfl, _, _⟩ := i4.form
         generalize hnj : (sub x.2 ++ n).length = nj at *
         have I4 := Lib.hid i4
         have B34 := Lib.hid b4
         have QA4 := Lib.hid (QA3.out.bel b4)
         have QN4 := Lib.hid (QN3.out.bel b4)
         have QR4 := Lib.hid (QR3.out.bel b4)
         have m44 := QN4.out.c 4 _ rfl
         have z44 := QN4.out.z 4
         clear i4 b4 hnj))
    all_goals
      go_wp2_with fail
      go_meet
      case rel =>
        have O := (Only.refl (w.heap.size + 1) w4).set 4 (.slice Aj nj cj)
        have S4 := B34.out.size
        have hx : Fx bt w.heap.size cb gv' (w.heap.size + 1) := .inl (.inr (by omega))
        have KO : Kf (Fx bt w.heap.size cb gv') w4 (w4.setCell ⟨w.heap.size + 1, 4, none⟩ (.slice Aj nj cj)) (Fx bt w.heap.size cb gv') := ⟨⟨O.os, O.tape, O.output, Nat.le_of_eq O.size.symm, fun b _ hb => O.block b (fun e => hb (e ▸ hx))⟩, fun b _ h => h⟩
        refine ⟨gv', Aj, nj, cj, Lib.hid (QA4.out.other (by show w.heap.size + 1 ≠ w.heap.size; omega) _), Lib.hid (QN4.out.set 4 (by simp) _), Lib.hid (QR4.out.other (by show w.heap.size + 1 ≠ w.heap.size + 2; omega) _), Lib.hid ((IA3.out.kf (kfb B34.out)).kf KO), Lib.hid (I4.out.kf KO), Lib.hid (((E3.out.bel B34.out)).turn (Nat.le_of_eq O.size.symm) (fun b hb => O.block b (fun e => NB.out b (by omega) (by omega) hb))), Lib.hid ?_, NB, Lib.hid ⟨by have := S3.out; rw [O.size]; omega, fun b h => by rw [O.size]; exact Nat.lt_of_lt_of_le (FL3.out b h) S4⟩⟩
        exact Kf.after (Kf.after K03.out B34.out.os B34.out.tape B34.out.output S4 (fun b hb => B34.out.block b (by have := S3.out; omega))) O.os O.tape O.output (Nat.le_of_eq O.size.symm) (fun b hb => O.block b (by omega))
  case rest =>
    obtain ⟨gv', Aj, nj, cj, QA, QN, QR, IA, IJ, E9, K9, NB, S9⟩ := hcut
    clear BEL OLD QQ GL HAV HNV FLV E1 B0 B01 B1 BD
    obtain ⟨b, o, Ak, ck, At, ct, qq, hA, q1, _, _, r1, _, r2, _⟩ := IA.out.kr.at (show i < (its above).length by have := HAN.out; rw [its_length]; omega)
    subst hA
    have hk1' : ((its above)[i]'(by have := HAN.out; rw [its_length]; omega)).1 = (above[i]'(by have := HAN.out; omega)).1 := by simp [its, it]
    rw [hk1'] at q1 r2
    have hka : keyAt above i = (above[i]'(by have := HAN.out; omega)).1 := keyAt_of (List.getElem?_eq_getElem _)
    rw [← hka] at q1 r2
    have BD := Lib.hid ((Below.refl wc.heap.size wc).drew)
    have HSZ := Lib.hid SZ.out.2.2.2.1
    have HNW := Lib.hid (show N ≤ wc.heap.size by have := S9.out.1; omega)
    have HP := Lib.hid (fun W1 (hb : Below wc.heap.size wc W1) => places_any (key := keyAt above i) (IJ.out.kf (kfb hb)) (r2.bel hb) HSZ.out (by omega) (fun b hb' => Nat.lt_of_lt_of_le (S9.out.2 b hb') hb.size) (Nat.le_trans HNW.out hb.size) p' A3 A4 n3 n4 c3 c4)
    have HLEN := Lib.hid SZ.out.2.2.2.2
    generalize hkk : keyAt above i = kk at *
    have HKA := Lib.hid hkk
    clear hkk
    have a4 := QA.out.c 4 _ rfl
    have m0 := QN.out.c 0 _ rfl
    have m1 := QN.out.c 1 _ rfl
    have m2 := QN.out.c 2 _ rfl
    have m3 := QN.out.c 3 _ rfl
    have m4 := QN.out.c 4 _ rfl
    clear r1 hk1' hka
    go_wp2_with fail
    go_cut [] from 9 (fun wz => ∃ Av nv cv, Hid (VN wz w.heap.size [.int .i64 p, .int .i64 k1, .slice A1 n1 c1, .slice A2 hi.length c2, .slice Av nv cv]) ∧ Hid (VN wz (w.heap.size + 2) [.int .i64 0, .int .i64 0, .slice none 0 0, .slice none 0 0, .slice none 0 0]) ∧ Hid (ItsAt true wz (Fx bt w.heap.size cb gv') N (k + 1) (.slice Av nv cv) (repl above i 2 (parts (sub x.2 ++ n) kk))) ∧ Hid (Ed wz base cb sb gv' (g ++ [q])) ∧ Hid (Kf (EdB cb gv) w wz (EdB cb gv')))
    case first =>
      go_region_with (first
        | (go_at_call 93
           refine (HP.out _ BD.out).mono ?_
           rintro e w2 ⟨vp, ts, rfl, hO, hAl, hb2⟩
           have P2 := ItsAt.own hO hAl (fun b hb => Nat.lt_of_lt_of_le (S9.out.2 b hb) BD.out.size) (Nat.le_trans HNW.out BD.out.size)
           obtain ⟨Ap, cp, rfl⟩ := own_len' hO
           have P2H := Lib.hid P2
           have B2 := Lib.hid (BD.out.trans (hb2.mono BD.out.size))
           have QA2 := Lib.hid (QA.out.drew.bel hb2)
           have QR2 := Lib.hid (QR.out.drew.bel hb2)
           have a42 := QA2.out.c 4 _ rfl
           clear hO hAl hb2 P2)
        | (go_at_call 64
           refine (repl_any (i := i) (old := 2) (IA.out.kf (kfb B2.out)) P2H.out (by have := HAN.out; omega) (by have := HLEN.out; have := HAN.out; omega) (fun b hb => Nat.lt_of_lt_of_le (S9.out.2 b hb) B2.out.size) (Nat.le_trans HNW.out B2.out.size)).mono ?_
           rintro e w3 ⟨v3, rfl, hI3, hb3⟩
           obtain ⟨Av, cv, rfl, _, _⟩ := hI3.form
           have I3 := Lib.hid hI3
           generalize (repl above i 2 (parts (sub x.2 ++ n) kk)).length = nv at *
           have B3 := Lib.hid (B2.out.trans (hb3.mono B2.out.size))
           have QA3 := Lib.hid (QA2.out.bel hb3)
           have QR3 := Lib.hid (QR2.out.bel hb3)
           have a43 := QA3.out.c 4 _ rfl
           have z43 := QA3.out.z 4
           clear hI3 hb3))
      all_goals
        go_wp2_with fail
        go_meet
        case rel =>
          have O := (Only.refl w.heap.size w3).set 4 (.slice Av nv cv)
          have S3 := B3.out.size
          have hx : Fx bt w.heap.size cb gv' w.heap.size := .inl (.inr (by omega))
          refine ⟨Av, nv, cv, Lib.hid (QA3.out.set 4 (by simp) _), Lib.hid (QR3.out.other (by show w.heap.size ≠ w.heap.size + 2; omega) _), Lib.hid (I3.out.kf ⟨⟨O.os, O.tape, O.output, Nat.le_of_eq O.size.symm, fun b _ hb => O.block b (fun e => hb (e ▸ hx))⟩, fun b _ h => h⟩), Lib.hid ((E9.out.bel B3.out).turn (Nat.le_of_eq O.size.symm) (fun b hb => O.block b (fun e => NB.out b (by omega) (by omega) hb))), Lib.hid ?_⟩
          exact Kf.after (Kf.after K9.out B3.out.os B3.out.tape B3.out.output S3 (fun b hb => B3.out.block b (by have := S9.out.1; omega))) O.os O.tape O.output (Nat.le_of_eq O.size.symm) (fun b hb => O.block b (by omega))
    case rest =>
      obtain ⟨Av, nv, cv, QA, QR, QI, QE, QK⟩ := hcut
      have b0 := QA.out.c 0 _ rfl
      have b1 := QA.out.c 1 _ rfl
      have b2 := QA.out.c 2 _ rfl
      have b3 := QA.out.c 3 _ rfl
      have b4 := QA.out.c 4 _ rfl
      have r0 := QR.out.c 0 _ rfl
      have r1 := QR.out.c 1 _ rfl
      have r2 := QR.out.c 2 _ rfl
      have r3 := QR.out.c 3 _ rfl
      have r4 := QR.out.c 4 _ rfl
      have z0 := QR.out.z 0
      have z1 := QR.out.z 1
      have z2 := QR.out.z 2
      have z3 := QR.out.z 3
      have z4 := QR.out.z 4
      go_wp2_with fail
      have Z := QR.out.set5 (.int .i64 p) (.int .i64 k1) (.slice A1 n1 c1) (.slice A2 hi.length c2) (.slice Av nv cv)
      have O := Only.set5 (w.heap.size + 2) wc (.int .i64 p) (.int .i64 k1) (.slice A1 n1 c1) (.slice A2 hi.length c2) (.slice Av nv cv)
      have hx : Fx bt w.heap.size cb gv' (w.heap.size + 2) := .inl (.inr (by omega))
      refine bodyPost_ret (results_c rfl (w.heap.size + 2) [.int .i64 p, .int .i64 k1, .slice A1 n1 c1, .slice A2 hi.length c2, .slice Av nv cv] _ rfl Z.range Tryz.underlying75 rfl info_node) rfl ?_
      rw [HKA.out]
      exact ⟨_, gv', rfl, QI.out.kf ⟨⟨O.os, O.tape, O.output, Nat.le_of_eq O.size.symm, fun b _ hb => O.block b (fun e => hb (e ▸ hx))⟩, fun b _ (h : Fo bt cb gv' b) => h.elim (fun h => .inl (.inl h)) .inr⟩, QE.out.turn (Nat.le_of_eq O.size.symm) (fun b hb => O.block b (fun e => NB.out b (by omega) (by omega) hb)), Kf.after QK.out O.os O.tape O.output (Nat.le_of_eq O.size.symm) (fun b hb => O.block b (by omega))⟩
end
def pgo (q : Nat) : Option Nat := if q = 0 then none else some q
theorem gone_len (key : By) (Fk : List It → List It) : ∀ {k : Nat} (t : T k), (gone key Fk k t).length ≤ 2 * k + 1
  | 0, t => by
    show ((pg t).toList).length ≤ _
    cases pg t <;> simp
  | k + 1, t => by
    rw [gone_succ]
    have h1 := gone_len key Fk (kidAt (sub t) (toward (sub t) key))
    have h2 : ((pg t).toList).length ≤ 1 := by cases pg t <;> simp
    have h3 : (if nsz (chg key Fk k (sub (kidAt (sub t) (toward (sub t) key)))) < 1337 then (pg (kidAt (sub t) (sibl (sub t) (toward (sub t) key)))).toList else []).length ≤ 1 := by
      split
      · cases pg (kidAt (sub t) (sibl (sub t) (toward (sub t) key))) <;> simp
      · simp
    simp only [List.length_append]
    omega
section
variable {B : Nat} {W w w' : World} {sb db : Nat} {y : SLay} {s : Sto} {yd : Dk.Lay} {d : Dk.Dsk} {m : Nat} {N base cb : Nat} {va vn gv : Value} {g : List Nat}
theorem Ed.cells (E : Ed w base cb sb gv g) {b : Nat} (h : EdB cb gv b) : ∃ o : Obj, w.heap[b]? = some o ∧ o.isCells = true := by
  rcases h with rfl | h
  · have hc := E.c0
    cases e : w.heap[b]? with
    | none => rw [World.cell?, e] at hc; cases hc
    | some o => cases o <;> first | exact ⟨_, rfl, rfl⟩ | (simp [World.cell?, e] at hc)
  · rcases E.own.2 with ⟨e, _⟩ | ⟨r, cap, cur, e, _, hh, _⟩
    · rw [e] at h; cases h
    · have : r = b := by rw [e] at h; injection h
      subst this
      exact ⟨_, hh, rfl⟩
theorem VN.cells {b : Nat} {x : Value} {xs : List Value} (h : VN w b (x :: xs)) : ∃ o : Obj, w.heap[b]? = some o ∧ o.isCells = true := by
  have hc := h.c 0 x rfl
  cases e : w.heap[b]? with
  | none => rw [World.cell?, e] at hc; cases hc
  | some o => cases o <;> first | exact ⟨_, rfl, rfl⟩ | (simp [World.cell?, e] at hc)
theorem dropq_any (E : Ed w base cb sb gv g) (hbase : base ≤ w.heap.size) {q : Nat} (hq : q < 65536) (hg : g.length ≤ 1000) (k : Int) (A2 A3 A4 : Option Addr) (n2 n3 n4 c2 c3 c4 : Nat) :
    Calls Tryz.prog 63 #[.pointer (some ⟨cb, 0, none⟩), .agg #[.int .i64 (q : Int), .int .i64 k, .slice A2 n2 c2, .slice A3 n3 c3, .slice A4 n4 c4]] w fun e w' =>
      e = .returned (.agg #[.int .i64 (q : Int), .int .i64 k, .slice A2 n2 c2, .slice A3 n3 c3, .slice A4 n4 c4]) ∧ ∃ gv', Ed w' base cb sb gv' (g ++ (pgo q).toList) ∧ Kf (EdB cb gv) w w' (EdB cb gv') := by
  rcases Nat.eq_zero_or_pos q with rfl | h
  · refine (drop0_any w _ k A2 A3 A4 n2 n3 n4 c2 c3 c4).mono ?_
    rintro e w' ⟨rfl, hb⟩
    exact ⟨rfl, gv, by simpa [pgo] using E.bel hb, kfb hb⟩
  · refine (drop_any E hbase h (by omega) hg k A2 A3 A4 n2 n3 n4 c2 c3 c4).mono ?_
    rintro e w' ⟨rfl, gv', E', kf⟩
    exact ⟨rfl, gv', by rw [show pgo q = some q from if_neg (by omega)]; exact E', kf⟩
theorem both_lt (bo : Bo B W w sb db y yd s d m) {b : Nat} (h : both y yd b) : b < w.heap.size := h.elim (fun e => bo.is.foot _ e) (fun e => bo.st.is.foot _ e)
theorem hang_step {k i mm : Nat} {above : Its (k + 1)} {n : Its k} {lo hi : By} (bo : Bo B W w sb db y yd s d m) (E : Ed w base cb sb gv g) (hbase : base ≤ w.heap.size) {bt : Nat → Prop} (hbt : ∀ b, bt b → b < w.heap.size) (hglen : g.length ≤ 1000)
    (ha : ItsAt true w (Fo bt cb gv) N (k + 1) va above) (hn : ItsAt true w (Fo bt cb gv) N k vn n) (hok : Ok (k + 1) mm lo hi above) (hi1 : i < above.length) (hpg : Pgs s d (k + 1) above) (hold : Old (k + 1) above) (hns : nsz n ≤ 100000000) (hk6 : k + 1 < 256) (hN : N ≤ w.heap.size)
    (p p' k1 : Int) (hk1 : k1 = (k : Int) + 1) {F2 : Nat → Prop} (A1 A2 A3 A4 : Option Addr) (n1 n3 n4 c1 c2 c3 c4 : Nat) (hto : RdF w F2 (.slice A2 hi.length c2) hi) :
    Calls Tryz.prog 66 #[.pointer (some ⟨cb, 0, none⟩), .agg #[.int .i64 p, .int .i64 k1, .slice A1 n1 c1, .slice A2 hi.length c2, va], .int .i64 (i : Int), .agg #[.int .i64 p', .int .i64 (k : Int), .slice A3 n3 c3, .slice A4 n4 c4, vn]] w fun e w' =>
      ∃ v' gv', e = .returned (.agg #[.int .i64 p, .int .i64 k1, .slice A1 n1 c1, .slice A2 hi.length c2, v']) ∧ ItsAt true w' (Fo bt cb gv') N (k + 1) v' (hang above i n) ∧ Ed w' base cb sb gv' (g ++ if nsz n < 1337 then (pg (kidAt above (sibl above i))).toList else []) ∧ Kf (EdB cb gv) w w' (EdB cb gv') := by
  have hnear := hok.near
  have hrt := (ok_iff.1 hok).1
  have h2l := (hrt.1.two (by omega)).1
  unfold hang sibl
  by_cases hsm : nsz n < 1337
  · rw [if_pos hsm, if_pos hsm]
    by_cases hr : i + 1 < above.length
    · rw [if_pos hr, if_pos hr]
      obtain ⟨x, hx⟩ : ∃ x, above[i + 1]? = some x := ⟨_, List.getElem?_eq_getElem hr⟩
      rw [kidAt_of hx]
      obtain ⟨⟨q, hq, hq9, hq0, hpo⟩, _⟩ := hpg x (List.mem_of_getElem? hx)
      have hkx := near_kid (cut_at hx ▸ hnear)
      rw [hq]
      exact hang_right bo E hbase hbt hglen ha hn hr hx hsm (by omega) hk6 hN hq hq0 hq9 hpo (hold x (List.mem_of_getElem? hx)).2 (ok_iff.1 hkx).1.1 (ok_iff.1 hkx).1.2.2 p p' k1 hk1 A1 A2 A3 A4 n1 n3 n4 c1 c2 c3 c4 hto
    · rw [if_neg hr, if_neg hr]
      obtain ⟨i, rfl⟩ : ∃ j, i = j + 1 := ⟨i - 1, by omega⟩
      rw [Nat.add_sub_cancel]
      obtain ⟨x, hx⟩ : ∃ x, above[i]? = some x := ⟨_, List.getElem?_eq_getElem (by omega)⟩
      rw [kidAt_of hx]
      obtain ⟨⟨q, hq, hq9, hq0, hpo⟩, _⟩ := hpg x (List.mem_of_getElem? hx)
      have hkx := near_kid (cut_at hx ▸ hnear)
      rw [hq]
      exact hang_left bo E hbase hbt hglen ha hn (by omega) hx hsm (by omega) hk6 hN hq hq0 hq9 hpo (hold x (List.mem_of_getElem? hx)).2 (ok_iff.1 hkx).1.1 (ok_iff.1 hkx).1.2.2 p p' k1 hk1 A1 A2 A3 A4 n1 n3 n4 c1 c2 c3 c4 hto
  · rw [if_neg hsm, if_neg hsm, List.append_nil]
    refine (hang_big ha hn hi1 hsm hns (by omega) (by omega) (fun b hb => hb.elim (hbt b) (E.foot b)) hN _ p p' k1 A1 A2 A3 A4 n1 hi.length n3 n4 c1 c2 c3 c4).mono ?_
    rintro e w' ⟨v', rfl, h1, h2⟩
    exact ⟨v', gv, rfl, h1, E.bel h2, kfb h2⟩
end
structure Rnd (w0 : World) (bt : Nat → Prop) (N cb nb tb xb base sb : Nat) (xv : Value) (key : By) (Fk : List It → List It) (k : Nat) (l : Its k) (cs : List (List Value)) (j : Nat) (W : World) : Prop where
  bel : Below w0.heap.size w0 W
  st : ∃ (lc : Its j) (q : Nat) (pn : Int) (tl : List Value) (vn gv : Value) (A2 A3 : Option Addr) (n2 n3 c2 c3 : Nat), nodeAt key k l (k - j) = ⟨j, lc⟩ ∧ cs[k - j]? = some (.int .i64 (q : Int) :: tl) ∧
    VN W nb [.int .i64 pn, .int .i64 (j : Int), .slice A2 n2 c2, .slice A3 n3 c3, vn] ∧ ItsAt true W (fun b => bt b ∨ EdB cb gv b) N j vn (chg key Fk j lc) ∧ Ed W base cb sb gv (gone key Fk j (mkT (pgo q) lc)) ∧ ¬ EdB cb gv tb ∧ ¬ EdB cb gv nb ∧ ¬ EdB cb gv xb
  tv : VN W tb [.pointer (some ⟨cb, 0, none⟩)]
  xv : VN W xb [xv]
section
variable {w0 W W' : World} {bt : Nat → Prop} {N cb nb tb xb base sb : Nat} {xv : Value} {key : By} {Fk : List It → List It} {k : Nat} {l : Its k} {cs : List (List Value)} {j : Nat}
theorem Rnd.other (h : Rnd w0 bt N cb nb tb xb base sb xv key Fk k l cs j W) {row : Option Nat} (hg : W.grownBy W' row) (hr : ∀ r, row = some r → w0.heap.size ≤ r ∧ ∃ o : Obj, W.heap[r]? = some o ∧ o.isCells = false) : Rnd w0 bt N cb nb tb xb base sb xv key Fk k l cs j W' := by
  obtain ⟨lc, q, pn, tl, vn, gv, A2, A3, n2, n3, c2, c3, h1, h2, h3, h4, h5, h6, h7⟩ := h.st
  have hne : ∀ b, (∃ o : Obj, W.heap[b]? = some o ∧ o.isCells = true) → row ≠ some b := fun b ⟨o, e1, e2⟩ e => by
    obtain ⟨_, o', e3, e4⟩ := hr b e
    rw [e1] at e3
    injection e3 with e3
    rw [e3, e4] at e2; cases e2
  refine ⟨h.bel.grown hg h.bel.size (fun r e => (hr r e).1), ⟨lc, q, pn, tl, vn, gv, A2, A3, n2, n3, c2, c3, h1, h2, h3.grown hg (hne _ h3.cells), ?_, h5.turn hg.size (fun b hb => hg.block b (by obtain ⟨o, e, _⟩ := h5.cells hb; exact (Array.getElem?_eq_some_iff.1 e).1) (fun e => hne b (h5.cells hb) e.symm)), h6, h7⟩, h.tv.grown hg (hne _ h.tv.cells), h.xv.grown hg (hne _ h.xv.cells)⟩
  cases row with
  | none => exact h4.kf ⟨⟨hg.os, hg.tape, hg.output, hg.size, fun b hb _ => hg.block b hb (fun e => by cases e)⟩, fun _ _ e => e⟩
  | some r =>
    obtain ⟨_, o, e3, e4⟩ := hr r rfl
    exact h4.other (fun i => no_cells e3 e4 i) hg
end
structure RndA (w0 : World) (bt : Nat → Prop) (N cb nb tb xb base sb : Nat) (xv : Value) (key : By) (Fk : List It → List It) (k : Nat) (l : Its k) (cs : List (List Value)) (ab : Nat) (av : List Value) (ex : List Nat) (j : Nat) (lc : Its j) (q : Nat) (pn : Int) (vn gv : Value) (A2 A3 : Option Addr) (n2 n3 c2 c3 : Nat) (W : World) : Prop where
  bel : Below w0.heap.size w0 W
  nd : nodeAt key k l (k - j) = ⟨j, lc⟩
  hc : ∃ tl, cs[k - j]? = some (.int .i64 (q : Int) :: tl)
  pvn : VN W nb [.int .i64 pn, .int .i64 (j : Int), .slice A2 n2 c2, .slice A3 n3 c3, vn]
  it : ItsAt true W (Fo bt cb gv) N j vn (chg key Fk j lc)
  ed : Ed W base cb sb gv (gone key Fk j (mkT (pgo q) lc) ++ ex)
  e1 : ¬ EdB cb gv tb
  e2 : ¬ EdB cb gv nb
  e3 : ¬ EdB cb gv xb
  e4 : ¬ EdB cb gv ab
  tv : VN W tb [.pointer (some ⟨cb, 0, none⟩)]
  pxv : VN W xb [xv]
  pav : VN W ab av
  nab : ab ≠ nb ∧ ab ≠ tb ∧ ab ≠ xb
section
variable {w0 W W' : World} {bt : Nat → Prop} {N cb nb tb xb base sb : Nat} {xv : Value} {key : By} {Fk : List It → List It} {k : Nat} {l : Its k} {cs : List (List Value)} {ab : Nat} {a : Value} {av : List Value} {ex : List Nat} {j : Nat} {lc : Its j} {q : Nat} {pn : Int} {vn gv : Value} {A2 A3 : Option Addr} {n2 n3 c2 c3 : Nat}
theorem RndA.bel' (h : RndA w0 bt N cb nb tb xb base sb xv key Fk k l cs ab av ex j lc q pn vn gv A2 A3 n2 n3 c2 c3 W) (hb : Below W.heap.size W W') : RndA w0 bt N cb nb tb xb base sb xv key Fk k l cs ab av ex j lc q pn vn gv A2 A3 n2 n3 c2 c3 W' :=
  ⟨h.bel.trans (hb.mono h.bel.size), h.nd, h.hc, h.pvn.bel hb, h.it.kf (kfb hb), h.ed.bel hb, h.e1, h.e2, h.e3, h.e4, h.tv.bel hb, h.pxv.bel hb, h.pav.bel hb, h.nab⟩
theorem RndA.other (h : RndA w0 bt N cb nb tb xb base sb xv key Fk k l cs ab (a :: av) ex j lc q pn vn gv A2 A3 n2 n3 c2 c3 W) {row : Option Nat} (hg : W.grownBy W' row) (hr : ∀ r, row = some r → w0.heap.size ≤ r ∧ ∃ o : Obj, W.heap[r]? = some o ∧ o.isCells = false) : RndA w0 bt N cb nb tb xb base sb xv key Fk k l cs ab (a :: av) ex j lc q pn vn gv A2 A3 n2 n3 c2 c3 W' := by
  have hne : ∀ b, (∃ o : Obj, W.heap[b]? = some o ∧ o.isCells = true) → row ≠ some b := fun b ⟨o, e1, e2⟩ e => by
    obtain ⟨_, o', e3, e4⟩ := hr b e
    rw [e1] at e3
    injection e3 with e3
    rw [e3, e4] at e2; cases e2
  refine ⟨h.bel.grown hg h.bel.size (fun r e => (hr r e).1), h.nd, h.hc, h.pvn.grown hg (hne _ h.pvn.cells), ?_, h.ed.turn hg.size (fun b hb => hg.block b (by obtain ⟨o, e, _⟩ := h.ed.cells hb; exact (Array.getElem?_eq_some_iff.1 e).1) (fun e => hne b (h.ed.cells hb) e.symm)), h.e1, h.e2, h.e3, h.e4, h.tv.grown hg (hne _ h.tv.cells), h.pxv.grown hg (hne _ h.pxv.cells), h.pav.grown hg (hne _ h.pav.cells), h.nab⟩
  cases row with
  | none => exact h.it.kf ⟨⟨hg.os, hg.tape, hg.output, hg.size, fun b hb _ => hg.block b hb (fun e => by cases e)⟩, fun _ _ e => e⟩
  | some r =>
    obtain ⟨_, o, e3, e4⟩ := hr r rfl
    exact h.it.other (fun i => no_cells e3 e4 i) hg
theorem set_same (X : World) (a : Addr) (v : Value) : (X.setCell a v).os = X.os ∧ (X.setCell a v).tape = X.tape ∧ (X.setCell a v).output = X.output := ⟨rfl, rfl, rfl⟩
theorem same_trans {X Y Z : World} (h : Y.os = X.os ∧ Y.tape = X.tape ∧ Y.output = X.output) (k : Z.os = Y.os ∧ Z.tape = Y.tape ∧ Z.output = Y.output) : Z.os = X.os ∧ Z.tape = X.tape ∧ Z.output = X.output := ⟨k.1.trans h.1, k.2.1.trans h.2.1, k.2.2.trans h.2.2⟩
theorem ed_low {w : World} {g : List Nat} (E : Ed w base cb sb gv g) (h : base ≤ cb) {b : Nat} (hb : EdB cb gv b) : base ≤ b := by
  rcases hb with rfl | hb
  · exact h
  · exact (E.own.form).elim fun A h => h.elim fun c h => (h.2.2.1 b hb).1
theorem kf_bel {n cb : Nat} {gv gv' : Value} {w X w3 : World} (hb : Below n w X) (hn : w.heap.size ≤ X.heap.size) (kf : Kf (EdB cb gv) X w3 (EdB cb gv')) (hlow : ∀ b, EdB cb gv b → n ≤ b) (hw : n ≤ w.heap.size) : Below n w w3 :=
  ⟨kf.fr.os.trans hb.os, kf.fr.tape.trans hb.tape, kf.fr.output.trans hb.output, Nat.le_trans hb.size kf.fr.size, fun b hlt => (kf.fr.block b (by omega) (fun h => by have := hlow b h; omega)).trans (hb.block b hlt)⟩
theorem Ed.keeps {g : List Nat} {G : Nat → Prop} (E : Ed W base cb sb gv g) (kf : Kf (EdB cb gv) W W' G) : KeepsOthers W W' :=
  ⟨kf.fr.size, fun r o hr ho => (kf.fr.block r (Array.getElem?_eq_some_iff.1 hr).1 fun h => by
    obtain ⟨o', e, f⟩ := E.cells h
    rw [hr] at e
    injection e with e
    rw [e, f] at ho; cases ho).trans hr⟩
theorem RndA.drop (h : RndA w0 bt N cb nb tb xb base sb xv key Fk k l cs ab av [] j lc q pn vn gv A2 A3 n2 n3 c2 c3 W) (hbase : w0.heap.size = base) (hcb : base = cb) {p : Nat} (hp : p < 65536) (hj : j < 256) (kk : Int) (B2 B3 B4 : Option Addr) (m2 m3 m4 d2 d3 d4 : Nat) :
    Calls Tryz.prog 63 #[.pointer (some ⟨cb, 0, none⟩), .agg #[.int .i64 (p : Int), .int .i64 kk, .slice B2 m2 d2, .slice B3 m3 d3, .slice B4 m4 d4]] W fun e w' =>
      e = .returned (.agg #[.int .i64 (p : Int), .int .i64 kk, .slice B2 m2 d2, .slice B3 m3 d3, .slice B4 m4 d4]) ∧ ∃ gv', RndA w0 bt N cb nb tb xb base sb xv key Fk k l cs ab av (pgo p).toList j lc q pn vn gv' A2 A3 n2 n3 c2 c3 w' ∧ KeepsOthers W w' := by
  have hl := gone_len key Fk (mkT (pgo q) lc)
  refine (dropq_any h.ed (by rw [← hbase]; exact h.bel.size) hp (by rw [List.append_nil]; omega) kk B2 B3 B4 m2 m3 m4 d2 d3 d4).mono ?_
  rintro e w' ⟨rfl, gv', E, kf⟩
  rw [List.append_nil] at E
  exact ⟨rfl, gv', ⟨kf_bel h.bel h.bel.size kf (fun b hb => by rw [hbase]; exact ed_low h.ed (Nat.le_of_eq hcb) hb) (Nat.le_refl _), h.nd, h.hc, h.pvn.kf h.e2 kf, h.it.kf (Kf.side kf), E, (kf.free h.tv.lt h.e1).1, (kf.free h.pvn.lt h.e2).1, (kf.free h.pxv.lt h.e3).1, (kf.free h.pav.lt h.e4).1, h.tv.kf h.e1 kf, h.pxv.kf h.e3 kf, h.pav.kf h.e4 kf, h.nab⟩, h.ed.keeps kf⟩
structure RndH (w0 : World) (bt : Nat → Prop) (N cb nb tb xb base sb : Nat) (xv : Value) (key : By) (Fk : List It → List It) (x0 x1 x2 x3 x4 : Value) (ab : Nat) (av : List Value) (j : Nat) (lc : Its j) (q : Nat) (vn gv : Value) (W : World) : Prop where
  bel : Below w0.heap.size w0 W
  pvn : VN W nb [x0, x1, x2, x3, x4]
  it : ItsAt true W (Fo bt cb gv) N j vn (chg key Fk j lc)
  ed : Ed W base cb sb gv (gone key Fk j (mkT (pgo q) lc))
  e1 : ¬ EdB cb gv tb
  e2 : ¬ EdB cb gv nb
  e3 : ¬ EdB cb gv xb
  tv : VN W tb [.pointer (some ⟨cb, 0, none⟩)]
  pxv : VN W xb [xv]
  pav : VN W ab av
set_option maxHeartbeats 1000000 in
theorem RndA.hang {B : Nat} {Wb : World} {db : Nat} {y : SLay} {s : Sto} {yd : Dk.Lay} {d : Dk.Dsk} {m mm p : Nat} {lo hi : By} {F : Nat → Prop} {la : Its (j + 1)} {B2 B3 B4 : Option Addr} {m2 m4 d2 d3 d4 : Nat} (bo : Bo B Wb w0 sb db y yd s d m)
    (h : RndA w0 bt N cb nb tb xb base sb xv key Fk k l cs ab av (pgo p).toList j lc q pn vn gv A2 A3 n2 n3 c2 c3 W) (hbase : w0.heap.size = base) (hcb : base = cb) (hbt : ∀ b, bt b → b < w0.heap.size ∨ b = nb ∨ b = tb) (hFs : ∀ b, bt b → F b ∨ w0.heap.size ≤ b)
    (hks : lc = sub (kidAt la (toward la key))) (hkq : kidAt la (toward la key) = mkT (pgo q) lc) (hok : Ok (j + 1) mm lo hi la) (hin : inS lo hi key = true) (hpg : Pgs s d (j + 1) la) (hold : Old (j + 1) la) (hF : Edit key Fk) (hj : j + 1 < 256) (hN : N ≤ w0.heap.size)
    (kr : KR0 w0 F N (.slice B4 m4 d4) (its la)) (hto : RdF w0 F (.slice B3 hi.length d3) hi) (pp k1 : Int) (hk1 : k1 = (j : Int) + 1) :
    Calls Tryz.prog 66 #[.pointer (some ⟨cb, 0, none⟩), .agg #[.int .i64 pp, .int .i64 k1, .slice B2 m2 d2, .slice B3 hi.length d3, .slice B4 m4 d4], .int .i64 ((toward la key : Nat) : Int), .agg #[.int .i64 pn, .int .i64 (j : Int), .slice A2 n2 c2, .slice A3 n3 c3, vn]] W fun e w' =>
      ∃ v' gv', e = .returned (.agg #[.int .i64 pp, .int .i64 k1, .slice B2 m2 d2, .slice B3 hi.length d3, v']) ∧ RndH w0 bt N cb nb tb xb base sb xv key Fk (.int .i64 pn) (.int .i64 (j : Int)) (.slice A2 n2 c2) (.slice A3 n3 c3) vn ab av (j + 1) la p v' gv' w' ∧ KeepsOthers W w' := by
  have hl := gone_len key Fk (mkT (pgo q) lc)
  have hpl : (pgo p).toList.length ≤ 1 := by unfold pgo; split <;> simp
  obtain ⟨x, hx, hkx, hox⟩ := ok_step hok hin
  rw [kidAt_of hx] at hks
  subst hks
  have hsz := (chg_near hF hox hkx).2.1
  have hsz2 := (ok_iff.1 hox).1.2.2
  have hbl : ∀ b, bt b → b < W.heap.size := fun b hb => by
    have := h.bel.size
    rcases hbt b hb with h1 | h1 | h1
    · omega
    · rw [h1]; exact h.pvn.lt
    · rw [h1]; exact h.tv.lt
  have hia : ItsAt true W (Fo bt cb gv) N (j + 1) (.slice B4 m4 d4) la := KR0.items (((KR0.outer kr).kf (kfb h.bel)).mono fun b hb => by
    rcases hb with hb | hb
    · exact hFs b hb
    · exact .inr (by rw [hbase]; exact ed_low h.ed (Nat.le_of_eq hcb) hb)) hold
  refine (hang_step (bo.keep h.bel) h.ed (by rw [← hbase]; exact h.bel.size) hbl (by rw [List.length_append]; omega) hia h.it hok (List.getElem?_eq_some_iff.1 hx).1 hpg hold (by omega) hj (Nat.le_trans hN h.bel.size) pp pn k1 hk1 B2 B3 A2 A3 m2 n2 n3 d2 d3 c2 c3 (hto.kf (kfb h.bel))).mono ?_
  rintro e w' ⟨v', gv', rfl, h1, h2, kf⟩
  refine ⟨v', gv', rfl, ⟨kf_bel h.bel h.bel.size kf (fun b hb => by rw [hbase]; exact ed_low h.ed (Nat.le_of_eq hcb) hb) (Nat.le_refl _), h.pvn.kf h.e2 kf, ?_, ?_, (kf.free h.tv.lt h.e1).1, (kf.free h.pvn.lt h.e2).1, (kf.free h.pxv.lt h.e3).1, h.tv.kf h.e1 kf, h.pxv.kf h.e3 kf, h.pav.kf h.e4 kf⟩, h.ed.keeps kf⟩
  · rw [chg_succ, kidAt_of hx]; exact h1
  · rw [gone_succ, pg_mk, sub_mk, hkq, sub_mk, ← List.append_assoc]; exact h2
theorem RndH.put {x0 x1 x2 x3 x4 : Value} (h : RndH w0 bt N cb nb tb xb base sb xv key Fk x0 x1 x2 x3 x4 ab av j lc q vn gv W) (hnt : nb ≠ tb) (hnx : nb ≠ xb) (hbn : bt nb) (hw : w0.heap.size ≤ nb) (nd : nodeAt key k l (k - j) = ⟨j, lc⟩) {tl : List Value} (hc : cs[k - j]? = some (.int .i64 (q : Int) :: tl)) :
    Rnd w0 bt N cb nb tb xb base sb xv key Fk k l cs j (((((W.setCell ⟨nb, 0, none⟩ (.int .i64 pn)).setCell ⟨nb, 1, none⟩ (.int .i64 (j : Int))).setCell ⟨nb, 2, none⟩ (.slice A2 n2 c2)).setCell ⟨nb, 3, none⟩ (.slice A3 n3 c3)).setCell ⟨nb, 4, none⟩ vn) ∧
    KeepsOthers W (((((W.setCell ⟨nb, 0, none⟩ (.int .i64 pn)).setCell ⟨nb, 1, none⟩ (.int .i64 (j : Int))).setCell ⟨nb, 2, none⟩ (.slice A2 n2 c2)).setCell ⟨nb, 3, none⟩ (.slice A3 n3 c3)).setCell ⟨nb, 4, none⟩ vn) := by
  have hv := h.pvn.set5 (.int .i64 pn) (.int .i64 (j : Int)) (.slice A2 n2 c2) (.slice A3 n3 c3) vn
  have hbl := fun b (hb : b ≠ nb) => set5_block W nb b hb (.int .i64 pn) (.int .i64 (j : Int)) (.slice A2 n2 c2) (.slice A3 n3 c3) vn
  have hko := ((((KeepsOthers.setCell W ⟨nb, 0, none⟩ (.int .i64 pn)).trans (KeepsOthers.setCell _ ⟨nb, 1, none⟩ (.int .i64 (j : Int)))).trans (KeepsOthers.setCell _ ⟨nb, 2, none⟩ (.slice A2 n2 c2))).trans (KeepsOthers.setCell _ ⟨nb, 3, none⟩ (.slice A3 n3 c3))).trans (KeepsOthers.setCell _ ⟨nb, 4, none⟩ vn)
  have ho := same_trans (same_trans (same_trans (same_trans (set_same W ⟨nb, 0, none⟩ (.int .i64 pn)) (set_same _ ⟨nb, 1, none⟩ (.int .i64 (j : Int)))) (set_same _ ⟨nb, 2, none⟩ (.slice A2 n2 c2))) (set_same _ ⟨nb, 3, none⟩ (.slice A3 n3 c3))) (set_same _ ⟨nb, 4, none⟩ vn)
  have hs := hko.size
  generalize (((((W.setCell ⟨nb, 0, none⟩ (.int .i64 pn)).setCell ⟨nb, 1, none⟩ (.int .i64 (j : Int))).setCell ⟨nb, 2, none⟩ (.slice A2 n2 c2)).setCell ⟨nb, 3, none⟩ (.slice A3 n3 c3)).setCell ⟨nb, 4, none⟩ vn) = Y at *
  have fr : Kf (Fo bt cb gv) W Y (Fo bt cb gv) := ⟨⟨ho.1, ho.2.1, ho.2.2, hs, fun b _ hf => hbl b (fun e => hf (.inl (e ▸ hbn)))⟩, fun _ _ h => h⟩
  exact ⟨⟨⟨ho.1.trans h.bel.os, ho.2.1.trans h.bel.tape, ho.2.2.trans h.bel.output, Nat.le_trans h.bel.size hs, fun b hb => (hbl b (by omega)).trans (h.bel.block b hb)⟩,
    ⟨lc, q, pn, tl, vn, gv, A2, A3, n2, n3, c2, c3, nd, hc, hv, h.it.kf fr, h.ed.turn hs (fun b hb => hbl b (fun e => h.e2 (e ▸ hb))), h.e1, h.e2, h.e3⟩, h.tv.of_block (hbl _ (Ne.symm hnt)) hs, h.pxv.of_block (hbl _ (Ne.symm hnx)) hs⟩, hko⟩
end
end Go.Proofs.YtcjokkjepgfinaaGreatDoor.Tr
