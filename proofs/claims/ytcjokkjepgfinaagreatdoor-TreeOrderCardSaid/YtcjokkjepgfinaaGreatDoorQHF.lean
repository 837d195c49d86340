import Derived.Test.YtcjokkjepgfinaaGreatDoorQHE
import Derived.Defers
import Derived.Recover
set_option linter.unusedVariables false
set_option linter.unusedSimpArgs false
namespace Go.Proofs.YtcjokkjepgfinaaGreatDoor.Tr
set_option maxRecDepth 8000
open Go.RowKit Mem Sk
open Dk (Fr)
section
variable {B : Nat} {W w w' : World} {sb db : Nat} {y y' : SLay} {s s' : Sto} {yd yd' : Dk.Lay} {d d' : Dk.Dsk} {m m' : Nat} {F G : Nat → Prop} {N : Nat} {v : Value} {key : By}
theorem throw_any (n : Int) (w : World) : Calls Tryz.prog 30 #[.int .i64 n] w fun e w' => e = .panicked [{ v := .iface 107 (.int .i64 n), recovered := false }] ∧ w' = w := by
  go_enter Tryz.func30, Tryz.ntmps30
  go_wp2
  exact ⟨rfl, rfl, rfl⟩
theorem run_assert_fault (n : Int) (xT : TypeId) (w : World) : (Instr.typeAssert (.iface 107 (.int .i64 n)) xT 107 true).run Tryz.prog w = .ok (.tuple #[.int .i64 n, .bool true]) w := by
  simp [Instr.typeAssert, run_underlying Tryz.underlying107, go_sem, Result.andThen]
theorem catch_idle (p : Addr) (w : World) :
    CallsD Tryz.prog 56 #[.pointer (some p)] .returning w fun e u' w' => e = .returned (.tuple #[]) ∧ u' = .returning ∧ w' = w := by
  refine callsD_of_wpS Tryz.func56 rfl fun c₀ cs hu => ?_
  apply wpS_seq
  apply wpS_region
  simp [wpOpsS, go_sem, recoverD, hu, Tryz.ntmps56, Exit.thenS]
  refine wpS_of_wp ?_
  go_wp2
  cases c₀
  simp_all [bodyPostS, results, Tryz.results56]
set_option maxHeartbeats 2000000 in
theorem catch_panicking (b : Nat) (x n : Int) (older : List PanicEntry) (w : World) (hc : w.cell? ⟨b, 0, none⟩ = some (.int .i64 x)) (hz : w.frozen? ⟨b, 0, none⟩ = false) :
    CallsD Tryz.prog 56 #[.pointer (some ⟨b, 0, none⟩)] (.panicking ({ v := .iface 107 (.int .i64 n), recovered := false } :: older)) w fun e u' w' =>
      e = .returned (.tuple #[]) ∧ u' = .panicking ({ v := .iface 107 (.int .i64 n), recovered := true } :: older) ∧ w' = w.setCell ⟨b, 0, none⟩ (.int .i64 n) := by
  refine callsD_of_wpS Tryz.func56 rfl fun c₀ cs hu => ?_
  apply wpS_seq
  apply wpS_region
  simp [wpOpsS, go_sem, recoverD, hu, Tryz.ntmps56, Exit.thenS]
  have hta := run_assert_fault n
  refine wpS_of_wp ?_
  change Code.wp _ _ _ { tmps := #[.pointer (some ⟨b, 0, none⟩), undef, undef, undef, .iface 107 (.int .i64 n), undef, undef, undef, undef, undef, undef], defers := [] } _
  go_wp2
  simp [bodyPostS, results, Tryz.results56]
theorem ans0 (s : Sto) (d : Dk.Dsk) (hg : Sk.gone s d = false) (h : SGood s) : ansRd s d 0 = 1 := by
  have hv := h.view s.us.length
  rw [view_len] at hv
  have h0 : s.cur.now.has 0 = false := by
    cases e : s.cur.now.has 0 with
    | false => rfl
    | true => have := (hv.has 0 e).1; omega
  simp [ansRd, hg, Sta.hasI, h0]
set_option maxHeartbeats 4000000 in
theorem caught_ok (bo : Bo B W w sb db y yd s d m) (hg : Sk.gone s d = false) {f : Nat} {caps : Array Value} {Q : World → Prop}
    (hcf : ∀ X, (callFunc f caps).run Tryz.prog X = .ok (.enter f caps) X) (hdo : ∀ w1, Below w.heap.size w w1 → w.heap.size < w1.heap.size → Calls Tryz.prog f caps w1 fun e w' => e = .returned (.tuple #[]) ∧ Q w' ∧ w1.heap.size ≤ w'.heap.size ∧ w'.heap[w.heap.size]? = w1.heap[w.heap.size]?) :
    Calls Tryz.prog 28 #[pt sb, .func (.func f) #[] caps] w fun e w' => e = .returned (.int .i64 0) ∧ ∃ w2, Q w2 ∧ Only w.heap.size w2 w' := by
  have hmf : ∀ (fn : Fn) (first cap : Array Value) (w : World), (Instr.makeFunc fn first cap).run Tryz.prog w = .ok (.func fn first cap) w := fun _ _ _ _ => rfl
  have B0 := Lib.hid (box1 w (.cells #[.int .i64 0] 30))
  have V0 := Lib.hid (VN.new w #[.int .i64 0] 30)
  have HR := Lib.hid (fun X (hb : Below w.heap.size w X) => (bo.keep hb).Read 0)
  have ha := ans0 s d hg bo.good
  have HD := Lib.hid hdo
  clear bo hdo hg
  go_enter_defers Tryz.func28, Tryz.ntmps28
  go_wp2_with (first
    | (go_at_call 57; refine (HR.out _ B0.out).mono ?_; rintro e w1 ⟨v1, rfl, -, hv, hb⟩; rw [ha] at hv ⊢; obtain rfl := hv (by decide); have B1 := Lib.hid (B0.out.trans (hb.mono B0.out.size)); have V1 := Lib.hid (V0.out.bel hb); clear hb hv; have t1 := trivial)
    | (clear t1; refine (HD.out _ B1.out V1.out.lt).mono ?_; rintro e w2 ⟨rfl, hq, hs, hb⟩; have V2 := Lib.hid (V1.out.of_block hb hs); have Q2 := Lib.hid hq; have v0 := V2.out.c 0 _ rfl; have z0 := V2.out.z 0; clear hq hs hb))
  refine leaves_cons (f := 56) (args := #[.pointer (some ⟨w.heap.size, 0, none⟩)]) (by simp) (by simp [go_sem]) ?_
  refine (catch_idle ⟨w.heap.size, 0, none⟩ _).mono ?_
  rintro e u' w'' ⟨rfl, rfl, rfl⟩
  have hc : (w2.setCell ⟨w.heap.size, 0, none⟩ (.int .i64 0)).cell? ⟨w.heap.size, 0, none⟩ = some (.int .i64 0) := (V2.out.set 0 (by simp) (.int .i64 0)).c 0 _ rfl
  simp [Leaves, settle, results, Tryz.results28, go_sem, hc]
  exact ⟨w2, Q2.out, (Only.refl _ _).set 0 _⟩
set_option maxHeartbeats 4000000 in
theorem caught_thrown (bo : Bo B W w sb db y yd s d m) (hg : Sk.gone s d = false) {f : Nat} {caps : Array Value} {n : Int} {Q : World → Prop}
    (hcf : ∀ X, (callFunc f caps).run Tryz.prog X = .ok (.enter f caps) X) (hdo : ∀ w1, Below w.heap.size w w1 → w.heap.size < w1.heap.size → Calls Tryz.prog f caps w1 fun e w' => e = .panicked [{ v := .iface 107 (.int .i64 n), recovered := false }] ∧ Q w' ∧ w1.heap.size ≤ w'.heap.size ∧ w'.heap[w.heap.size]? = w1.heap[w.heap.size]?) :
    Calls Tryz.prog 28 #[pt sb, .func (.func f) #[] caps] w fun e w' => e = .returned (.int .i64 n) ∧ ∃ w2, Q w2 ∧ Only w.heap.size w2 w' := by
  have hmf : ∀ (fn : Fn) (first cap : Array Value) (w : World), (Instr.makeFunc fn first cap).run Tryz.prog w = .ok (.func fn first cap) w := fun _ _ _ _ => rfl
  have B0 := Lib.hid (box1 w (.cells #[.int .i64 0] 30))
  have V0 := Lib.hid (VN.new w #[.int .i64 0] 30)
  have HR := Lib.hid (fun X (hb : Below w.heap.size w X) => (bo.keep hb).Read 0)
  have ha := ans0 s d hg bo.good
  have HD := Lib.hid hdo
  clear bo hdo hg
  go_enter_defers Tryz.func28, Tryz.ntmps28
  go_wp2_with (first
    | (go_at_call 57; refine (HR.out _ B0.out).mono ?_; rintro e w1 ⟨v1, rfl, -, hv, hb⟩; rw [ha] at hv ⊢; obtain rfl := hv (by decide); have B1 := Lib.hid (B0.out.trans (hb.mono B0.out.size)); have V1 := Lib.hid (V0.out.bel hb); clear hb hv; have t1 := trivial)
    | (clear t1; refine (HD.out _ B1.out V1.out.lt).mono ?_; rintro e w2 ⟨rfl, hq, hs, hb⟩; have V2 := Lib.hid (V1.out.of_block hb hs); have Q2 := Lib.hid hq; have v0 := V2.out.c 0 _ rfl; have z0 := V2.out.z 0; clear hq hs hb))
  refine leaves_cons (f := 56) (args := #[.pointer (some ⟨w.heap.size, 0, none⟩)]) (by simp) (by simp [go_sem]) ?_
  refine (catch_panicking w.heap.size 0 n _ w2 v0 z0).mono ?_
  rintro e u' w'' ⟨rfl, rfl, rfl⟩
  have hc : (w2.setCell ⟨w.heap.size, 0, none⟩ (.int .i64 n)).cell? ⟨w.heap.size, 0, none⟩ = some (.int .i64 n) := (V2.out.set 0 (by simp) (.int .i64 n)).c 0 _ rfl
  simp [Leaves, settle, results, Tryz.results28, go_sem, hc]
  exact ⟨w2, Q2.out, (Only.refl _ _).set 0 _⟩
set_option maxHeartbeats 4000000 in
theorem caught_not {sv fv : Value} {n : Int} (hn : n ≠ 1) (hr : ∀ X, Below w.heap.size w X → Calls Tryz.prog 57 #[sv, .int .i64 0] X fun e w' => e = .returned (.tuple #[.slice none 0 0, .int .i64 n]) ∧ Below X.heap.size X w') :
    Calls Tryz.prog 28 #[sv, fv] w fun e w' => e = .returned (.int .i64 n) ∧ Below w.heap.size w w' := by
  have hmf : ∀ (fn : Fn) (first cap : Array Value) (w : World), (Instr.makeFunc fn first cap).run Tryz.prog w = .ok (.func fn first cap) w := fun _ _ _ _ => rfl
  have B0 := Lib.hid (box1 w (.cells #[.int .i64 0] 30))
  have V0 := Lib.hid (VN.new w #[.int .i64 0] 30)
  have HR := Lib.hid hr
  have hn1 : (n != 1) = true := by simpa using hn
  clear hr hn
  go_enter_defers Tryz.func28, Tryz.ntmps28
  go_wp2_with (go_at_call 57; refine (HR.out _ B0.out).mono ?_; rintro e w1 ⟨rfl, hb⟩; have B1 := Lib.hid (B0.out.trans (hb.mono B0.out.size)); have V1 := Lib.hid (V0.out.bel hb); have v0 := V1.out.c 0 _ rfl; have z0 := V1.out.z 0; clear hb)
  refine leaves_cons (f := 56) (args := #[.pointer (some ⟨w.heap.size, 0, none⟩)]) (by simp) (by simp [go_sem]) ?_
  refine (catch_idle ⟨w.heap.size, 0, none⟩ _).mono ?_
  rintro e u' w'' ⟨rfl, rfl, rfl⟩
  have hc : (w1.setCell ⟨w.heap.size, 0, none⟩ (.int .i64 n)).cell? ⟨w.heap.size, 0, none⟩ = some (.int .i64 n) := (V1.out.set 0 (by simp) (.int .i64 n)).c 0 _ rfl
  simp [Leaves, settle, results, Tryz.results28, go_sem, hc]
  exact bel_set B1.out (Nat.le_refl _) _
end
end Go.Proofs.YtcjokkjepgfinaaGreatDoor.Tr
