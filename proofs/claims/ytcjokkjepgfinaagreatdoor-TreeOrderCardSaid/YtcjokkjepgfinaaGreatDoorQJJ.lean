import Derived.Test.YtcjokkjepgfinaaGreatDoorQIN
import Derived.Deep.RegionHeld3
import Derived.Test.YtcjokkjepgfinaaGreatDoorQJG
set_option linter.unusedVariables false
set_option linter.unusedSimpArgs false
namespace Go.Proofs.YtcjokkjepgfinaaGreatDoor.Tr
set_option maxRecDepth 8000
open Go.RowKit Mem Sk
open Dk (Fr)
section
variable {B : Nat} {W w w' : World} {sb db : Nat} {y y' : SLay} {s s' : Sto} {yd yd' : Dk.Lay} {d d' : Dk.Dsk} {m m' : Nat} {F G : Nat → Prop} {N : Nat} {v : Value} {key : By}
theorem Bo_only {X Y : World} (bo : Bo B W X sb db y yd s d m) {D : Nat} (h : Only D X Y) (hf : ¬ both y yd D) (hB : B ≤ D) : Bo B W Y sb db y yd s d m := by
  have fr : Fr (fun k => k = D) X Y := ⟨h.os, h.tape, h.output, Nat.le_of_eq h.size.symm, fun b _ hb => h.block b hb⟩
  exact ⟨⟨bo.st.is.fr fr (fun k hk e => hf (.inr (e ▸ hk))), bo.st.good, bo.st.le, bo.st.bel.trans ⟨h.os, h.tape, h.output, Nat.le_of_eq h.size.symm, fun b hb => h.block b (by omega)⟩, bo.st.low, bo.st.base⟩, bo.is.fr fr (fun k hk e => hf (.inl (e ▸ hk))), bo.good, bo.apart, bo.low, bo.nn, bo.sm, bo.tabW, bo.posB⟩
theorem ChgOk.only {wq X Y : World} {L : List It} {D N' : Nat} (h : ChgOk B W sb db yd d m N y wq s L X) (o : Only D X Y) (hw : Below w.heap.size w wq) (hN : w.heap.size ≤ N) (hD : w.heap.size ≤ D) (hDq : D < wq.heap.size) (hl : ∀ b, both y yd b → b < w.heap.size) (hB : B ≤ w.heap.size) : ChgOk B W sb db yd d m w.heap.size y w s L Y ∧ ChgOk B W sb db yd d m w.heap.size y wq s L Y := by
  obtain ⟨⟨s2, y2, m2, h1, h2, h3, h4, h5⟩, k1, k2, k3, k4, k5⟩ := h
  have bo2 := Bo_only h1 o (fun e => by have := hl D (h5 D hDq e); omega) (by omega)
  have kp : ∀ b, b < w.heap.size → ¬ both y yd b → Y.heap[b]? = wq.heap[b]? := fun b hb hf => (o.block b (by omega)).trans (k1 b (by omega) hf)
  exact ⟨⟨⟨s2, y2, m2, bo2, h2, h3, h4, fun b hb hf => h5 b (Nat.lt_of_lt_of_le hb hw.size) hf⟩, fun b hb hf => (kp b hb hf).trans (hw.block b hb), by rw [o.size]; exact Nat.le_trans hw.size k2, o.os.trans (k3.trans hw.os), o.tape.trans (k4.trans hw.tape), o.output.trans (k5.trans hw.output)⟩,
    ⟨⟨s2, y2, m2, bo2, h2, h3, h4, h5⟩, kp, by rw [o.size]; exact k2, o.os.trans k3, o.tape.trans k4, o.output.trans k5⟩⟩
theorem delete_ok {A3 : Option Addr} {c3 k p : Nat} {l : Its k} (bo : Bo B W w sb db y yd s d m) (hg : Sk.gone s d = false) (t : TreeIn s d k p l) (h3 : RdF w (fun _ => False) (.slice A3 key.length c3) key) (hno : hasK (prs k l) key = true) (hB : B ≤ w.heap.size) (hm : m < 80000000) (hk6 : k + 1 < 256) (hI : IsT p s.cur.now.has (rdOf s d) k l) (hf : Fits s key (fun l => delK l key) k l) :
    Calls Tryz.prog 14 #[pt sb, .slice A3 key.length c3] w fun e w' => e = .returned (.tuple #[.bool true, .int .i64 0]) ∧ ChgOk B W sb db yd d m w.heap.size y w s (delK (prs k l) key) w' := by
  obtain ⟨W0, hW0⟩ : ∃ X, X = ((w.alloc (.cells #[pt sb] 23)).alloc (.cells #[.slice A3 key.length c3] 32)).alloc (.cells #[.bool false] 4) := ⟨_, rfl⟩
  have hs0 : W0.heap.size = w.heap.size + 3 := by rw [hW0]; simp
  have B0 : Below w.heap.size w W0 := hW0 ▸ ((box1 w _).alloc (by simp) _).alloc (by simp; omega) _
  have X0 : VN W0 w.heap.size [pt sb] := hW0 ▸ ((VN.new w _ _).alloc _).alloc _
  have X1 : VN W0 (w.heap.size + 1) [.slice A3 key.length c3] := by
    have := (VN.new (w.alloc (.cells #[pt sb] 23)) #[.slice A3 key.length c3] 32).alloc (.cells #[.bool false] 4)
    rw [hW0]; simpa using this
  have X2 : VN W0 (w.heap.size + 2) [.bool false] := by
    have := VN.new ((w.alloc (.cells #[pt sb] 23)).alloc (.cells #[.slice A3 key.length c3] 32)) #[.bool false] 4
    rw [hW0]; simpa using this
  have hnb : ∀ b, both y yd b → b < w.heap.size := fun b hb => both_lt bo hb
  have C := Lib.hid (caught_ok (bo.keep B0) hg (f := 36) (Q := fun w' => VN w' (w.heap.size + 2) [.bool true] ∧ ∃ w1 wq w8, Below W0.heap.size W0 w1 ∧ W0.heap.size < w1.heap.size ∧ Below w1.heap.size w1 wq ∧ ChgOk B W sb db yd d m w1.heap.size y wq s (delK (prs k l) key) w8 ∧ w' = w8.setCell ⟨w.heap.size + 2, 0, none⟩ (.bool true)) (hcf_del _) (fun w1 hb hlt => (del1_yes ((bo.keep B0).keep hb) hg t ((h3.bel B0).bel hb) (X0.bel hb) (X1.bel hb) (X2.bel hb) (by omega) (by omega) hno (by have := hb.size; omega) (fun h => by have := hnb _ h; omega) hm hk6 hI).mono (by
    rintro e w' ⟨wq, hq, ⟨_, rfl, w8, ok, rfl⟩ | ⟨hn, _⟩⟩
    · have v8 := ((X2.bel hb).bel hq).of_block (ok.keep _ (by omega) (fun h => by have := hnb _ h; omega)) ok.size
      have hsz : (w8.setCell ⟨w.heap.size + 2, 0, none⟩ (.bool true)).heap.size = w8.heap.size := by simp
      refine ⟨rfl, ⟨v8.set 0 (by simp) _, w1, wq, w8, hb, hlt, hq, ok, rfl⟩, by rw [hsz]; exact Nat.le_trans hq.size ok.size, ?_⟩
      exact (Below.heap_setCell _ _ _ _ (by show W0.heap.size ≠ w.heap.size + 2; omega)).trans ((ok.keep _ hlt (fun h => by have := hnb _ h; omega)).trans (hq.block _ hlt))
    · exact absurd hf hn)))
  have HB0 := Lib.hid B0
  have HS := Lib.hid hs0
  have HW0 := Lib.hid hW0
  have BO := Lib.hid bo; have HB := Lib.hid hB
  clear bo hg t h3 X0 X1 B0 hs0 hW0 hno hI
  have hmf : ∀ (fn : Fn) (first cap : Array Value) (w : World), (Instr.makeFunc fn first cap).run Tryz.prog w = .ok (.func fn first cap) w := fun _ _ _ _ => rfl
  go_enter Tryz.func14, Tryz.ntmps14
  go_wp2_with fail
  rw [← HW0.out]
  refine C.out.mono ?_
  rintro e w5 ⟨rfl, w4, ⟨hv, w1, wq, w8, hb1, hb2, hb3, ok, hw4⟩, hO⟩
  have Y2 := Lib.hid (hv.of_block (hO.block _ (by have := HS.out; omega)) (Nat.le_of_eq hO.size.symm))
  have a2 : w5.cell? ⟨w.heap.size + 1 + 1, 0, none⟩ = some (.bool true) := Y2.out.c 0 _ rfl
  have OO := Lib.hid hO; have OK := Lib.hid ok; have H4 := Lib.hid hw4
  have BQ := Lib.hid (hb1.trans (hb3.mono hb1.size)); have BL := Lib.hid hb2; have BW := Lib.hid hb3.size
  clear hb1 hb2 hb3 ok hw4 hO hv
  go_wp2_with fail
  have hs := HS.out
  go_ret2
  have hw4 := H4.out
  subst hw4
  have on1 : Only (w.heap.size + 2) w8 (w8.setCell ⟨w.heap.size + 2, 0, none⟩ (.bool true)) := (Only.refl _ _).set 0 _
  have bq : Below w.heap.size w wq := HB0.out.trans (BQ.out.mono HB0.out.size)
  have hbl := BL.out
  have hbw := BW.out
  have r1 := OK.out.only (N' := 0) on1 bq (by omega) (by omega) (by omega) (fun b hb => both_lt BO.out hb) HB.out
  have r2 := r1.2.only (N' := 0) OO.out bq (Nat.le_refl _) (by omega) (by omega) (fun b hb => both_lt BO.out hb) HB.out
  exact ⟨rfl, r2.1⟩
theorem delete_full {A3 : Option Addr} {c3 k p : Nat} {l : Its k} (bo : Bo B W w sb db y yd s d m) (hg : Sk.gone s d = false) (t : TreeIn s d k p l) (h3 : RdF w (fun _ => False) (.slice A3 key.length c3) key) (hno : hasK (prs k l) key = true) (hB : B ≤ w.heap.size) (hm : m < 80000000) (hk6 : k + 1 < 256) (hI : IsT p s.cur.now.has (rdOf s d) k l) (hf : ¬ Fits s key (fun l => delK l key) k l) :
    Calls Tryz.prog 14 #[pt sb, .slice A3 key.length c3] w fun e w' => e = .returned (.tuple #[.bool false, .int .i64 3]) ∧ s.left < 2 * k + 4 ∧ Below w.heap.size w w' := by
  obtain ⟨W0, hW0⟩ : ∃ X, X = ((w.alloc (.cells #[pt sb] 23)).alloc (.cells #[.slice A3 key.length c3] 32)).alloc (.cells #[.bool false] 4) := ⟨_, rfl⟩
  have hs0 : W0.heap.size = w.heap.size + 3 := by rw [hW0]; simp
  have B0 : Below w.heap.size w W0 := hW0 ▸ ((box1 w _).alloc (by simp) _).alloc (by simp; omega) _
  have X0 : VN W0 w.heap.size [pt sb] := hW0 ▸ ((VN.new w _ _).alloc _).alloc _
  have X1 : VN W0 (w.heap.size + 1) [.slice A3 key.length c3] := by
    have := (VN.new (w.alloc (.cells #[pt sb] 23)) #[.slice A3 key.length c3] 32).alloc (.cells #[.bool false] 4)
    rw [hW0]; simpa using this
  have X2 : VN W0 (w.heap.size + 2) [.bool false] := by
    have := VN.new ((w.alloc (.cells #[pt sb] 23)).alloc (.cells #[.slice A3 key.length c3] 32)) #[.bool false] 4
    rw [hW0]; simpa using this
  have hnb : ∀ b, both y yd b → b < w.heap.size := fun b hb => both_lt bo hb
  have C := Lib.hid (caught_thrown (bo.keep B0) hg (f := 36) (n := 3) (Q := fun w' => s.left < 2 * k + 4 ∧ Below W0.heap.size W0 w') (hcf_del _) (fun w1 hb hlt => (del1_yes ((bo.keep B0).keep hb) hg t ((h3.bel B0).bel hb) (X0.bel hb) (X1.bel hb) (X2.bel hb) (by omega) (by omega) hno (by have := hb.size; omega) (fun h => by have := hnb _ h; omega) hm hk6 hI).mono (by
    rintro e w' ⟨wq, hq, ⟨hn, _⟩ | ⟨_, rfl, h1, h2⟩⟩
    · exact absurd hn hf
    · exact ⟨rfl, ⟨h1, hb.trans ((hq.trans (h2.mono hq.size)).mono hb.size)⟩, Nat.le_trans hq.size h2.size, (h2.block _ (Nat.lt_of_lt_of_le hlt hq.size)).trans (hq.block _ hlt)⟩)))
  have HX2 := Lib.hid X2
  have HB0 := Lib.hid B0
  have HS := Lib.hid hs0
  have HW0 := Lib.hid hW0
  have BO := Lib.hid bo; have HB := Lib.hid hB
  clear bo hg t h3 X0 X1 B0 hs0 hW0 hno hI
  have hmf : ∀ (fn : Fn) (first cap : Array Value) (w : World), (Instr.makeFunc fn first cap).run Tryz.prog w = .ok (.func fn first cap) w := fun _ _ _ _ => rfl
  go_enter Tryz.func14, Tryz.ntmps14
  go_wp2_with fail
  rw [← HW0.out]
  refine C.out.mono ?_
  rintro e w5 ⟨rfl, w4, ⟨h1, h2⟩, hO⟩
  have Y2 := Lib.hid ((HX2.out.bel h2).of_block (hO.block _ (by have := HS.out; omega)) (Nat.le_of_eq hO.size.symm))
  have a2 : w5.cell? ⟨w.heap.size + 1 + 1, 0, none⟩ = some (.bool false) := Y2.out.c 0 _ rfl
  have OO := Lib.hid hO; have H1 := Lib.hid h1; have H2 := Lib.hid h2
  clear h1 h2 hO
  go_wp2_with fail
  have hs := HS.out
  go_ret2
  exact ⟨rfl, H1.out, OO.out.bel (HB0.out.trans (H2.out.mono HB0.out.size)) (by omega)⟩
end
section
variable {B : Nat} {W w w' : World} {sb db : Nat} {y y' : SLay} {s s' : Sto} {yd yd' : Dk.Lay} {d d' : Dk.Dsk} {m m' : Nat} {F G : Nat → Prop} {N : Nat} {v : Value} {key : By}
theorem put1_arg {A3 : Option Addr} {c3 b0 b1 b2 : Nat} (v0 : VN w b0 [.slice A3 0 c3]) :
    Calls Tryz.prog 29 #[.pointer (some ⟨b0, 0, none⟩), .pointer (some ⟨b1, 0, none⟩), .pointer (some ⟨b2, 0, none⟩)] w fun e w' => e = .panicked [{ v := .iface 107 (.int .i64 1), recovered := false }] ∧ Below w.heap.size w w' := by
  have a0 := v0.c 0 _ rfl
  clear v0
  go_enter Tryz.func29, Tryz.ntmps29
  go_wp2_with (first
    | (go_at_call 30; refine (throw_any 1 _).mono ?_; rintro e w1 ⟨rfl, rfl⟩)
    | fail)
  exact ⟨rfl, rfl, Below.refl _ _⟩
theorem put1_long {A3 A4 : Option Addr} {n3 n4 c3 c4 b0 b1 b2 : Nat} (v0 : VN w b0 [.slice A3 n3 c3]) (v1 : VN w b1 [.slice A4 n4 c4]) (h0 : n3 ≠ 0) (hl : 256 < n3 ∨ 1024 < n4) :
    Calls Tryz.prog 29 #[.pointer (some ⟨b0, 0, none⟩), .pointer (some ⟨b1, 0, none⟩), .pointer (some ⟨b2, 0, none⟩)] w fun e w' => e = .panicked [{ v := .iface 107 (.int .i64 2), recovered := false }] ∧ Below w.heap.size w w' := by
  have a0 := v0.c 0 _ rfl
  have a1 := v1.c 0 _ rfl
  have e0 : ((n3 : Int) == 0) = false := by simp; exact h0
  have t1 := trivial
  rcases Nat.lt_or_ge 256 n3 with h | h
  · have e1 : decide ((256 : Int) < (n3 : Int)) = true := decide_eq_true (by omega)
    clear v0 v1 h0 hl h
    go_enter Tryz.func29, Tryz.ntmps29
    go_wp2_with (first
      | (go_at_call 30; refine (throw_any 2 _).mono ?_; rintro e w1 ⟨rfl, rfl⟩)
      | fail)
    exact ⟨rfl, rfl, Below.refl _ _⟩
  · have e1 : decide ((256 : Int) < (n3 : Int)) = false := decide_eq_false (by omega)
    have e2 : decide ((1024 : Int) < (n4 : Int)) = true := decide_eq_true (by omega)
    clear v0 v1 h0 hl h
    go_enter Tryz.func29, Tryz.ntmps29
    go_wp2_with (first
      | (go_at_call 30; refine (throw_any 2 _).mono ?_; rintro e w1 ⟨rfl, rfl⟩)
      | fail)
    exact ⟨rfl, rfl, Below.refl _ _⟩
theorem hcf_put (caps : Array Value) : ∀ X, (callFunc 29 caps).run Tryz.prog X = .ok (.enter 29 caps) X := fun X => by go_simp
theorem put_bad {A1 A2 : Option Addr} {n1 n2 c1 c2 : Nat} {n : Int} (bo : Bo B W w sb db y yd s d m) (hg : Sk.gone s d = false) (hn : (n1 = 0 ∧ n = 1) ∨ (n1 ≠ 0 ∧ (256 < n1 ∨ 1024 < n2) ∧ n = 2)) :
    Calls Tryz.prog 11 #[pt sb, .slice A1 n1 c1, .slice A2 n2 c2] w fun e w' => e = .returned (.int .i64 n) ∧ Below w.heap.size w w' := by
  obtain ⟨W0, hW0⟩ : ∃ X, X = ((w.alloc (.cells #[pt sb] 23)).alloc (.cells #[.slice A1 n1 c1] 32)).alloc (.cells #[.slice A2 n2 c2] 32) := ⟨_, rfl⟩
  have B0 : Below w.heap.size w W0 := hW0 ▸ ((box1 w _).alloc (by simp) _).alloc (by simp; omega) _
  have hs0 : W0.heap.size = w.heap.size + 3 := by rw [hW0]; simp
  have X1 : VN W0 (w.heap.size + 1) [.slice A1 n1 c1] := by
    have := (VN.new (w.alloc (.cells #[pt sb] 23)) #[.slice A1 n1 c1] 32).alloc (.cells #[.slice A2 n2 c2] 32)
    rw [hW0]; simpa using this
  have X2 : VN W0 (w.heap.size + 2) [.slice A2 n2 c2] := by
    have := VN.new ((w.alloc (.cells #[pt sb] 23)).alloc (.cells #[.slice A1 n1 c1] 32)) #[.slice A2 n2 c2] 32
    rw [hW0]; simpa using this
  have C := Lib.hid (caught_thrown (bo.keep B0) hg (f := 29) (caps := #[.pointer (some ⟨w.heap.size + 1, 0, none⟩), .pointer (some ⟨w.heap.size + 2, 0, none⟩), .pointer (some ⟨w.heap.size, 0, none⟩)]) (n := n) (Q := fun w' => Below W0.heap.size W0 w') (hcf_put _) (fun w1 hb hlt => by
    have fin : ∀ (e : Ending) (w' : World), (e = .panicked [{ v := .iface 107 (.int .i64 n), recovered := false }] ∧ Below w1.heap.size w1 w') → (e = .panicked [{ v := .iface 107 (.int .i64 n), recovered := false }] ∧ Below W0.heap.size W0 w' ∧ w1.heap.size ≤ w'.heap.size ∧ w'.heap[W0.heap.size]? = w1.heap[W0.heap.size]?) := fun e w' ⟨h1, h2⟩ =>
      ⟨h1, hb.trans (h2.mono hb.size), h2.size, h2.block _ hlt⟩
    rcases hn with ⟨rfl, rfl⟩ | ⟨h0, hl, rfl⟩
    · exact (put1_arg (X1.bel hb)).mono fin
    · exact (put1_long (X1.bel hb) (X2.bel hb) h0 hl).mono fin))
  have HB0 := Lib.hid B0
  have HW0 := Lib.hid hW0
  have HS := Lib.hid hs0
  clear bo hg hn B0 hW0 X1 X2 hs0
  have hmf : ∀ (fn : Fn) (first cap : Array Value) (w : World), (Instr.makeFunc fn first cap).run Tryz.prog w = .ok (.func fn first cap) w := fun _ _ _ _ => rfl
  go_enter Tryz.func11, Tryz.ntmps11
  go_wp2_with fail
  rw [← HW0.out]
  refine C.out.mono ?_
  rintro e w5 ⟨rfl, w4, hq, hO⟩
  have B5 := Lib.hid (hO.bel (HB0.out.trans (hq.mono HB0.out.size)) (by have := HS.out; omega))
  clear hq hO
  go_wp2_with fail
  go_ret
  exact ⟨rfl, B5.out⟩
theorem repl_put (l : List It) (key v : By) : repl l (lows l key) (hasK l key).toNat [(key, v)] = putK l key v := rfl
theorem item_one {val : By} {A3 A4 : Option Addr} {c3 c4 : Nat} (h1 : RdF w F (.slice A3 key.length c3) key) (h2 : RdF w F (.slice A4 val.length c4) val) (hF : ∀ k, F k → k < w.heap.size) (hN : N ≤ w.heap.size) :
    ItsAt true (w.alloc (.cells #[.slice A3 key.length c3, .slice A4 val.length c4, .pointer none] 80)) F N 0 (.slice (some ⟨w.heap.size, 0, none⟩) 1 1) ([(key, val)] : Its 0) :=
  ItsAt.own (ts := [(.slice A3 key.length c3, .slice A4 val.length c4, .pointer none)]) (Own3.one w _) (Al.one ⟨h1.kf (kfb (box1 _ _)), h2.kf (kfb (box1 _ _)), rfl⟩) hF hN
end
section
variable {B : Nat} {W w w' : World} {sb db : Nat} {y y' : SLay} {s s' : Sto} {yd yd' : Dk.Lay} {d d' : Dk.Dsk} {m m' : Nat} {F G : Nat → Prop} {N : Nat} {v : Value} {key val : By}
theorem lows_len (l : List It) (key : By) : lows l key ≤ l.length := by unfold lows; exact (List.takeWhile_sublist _).length_le
def PutPost (B : Nat) (W : World) (sb db : Nat) (yd : Dk.Lay) (d : Dk.Dsk) (m : Nat) (y : SLay) (w : World) (s : Sto) (key val : By) (k : Nat) (l : Its k) (e : Ending) (w' : World) : Prop :=
  ∃ wq, Below w.heap.size w wq ∧ ((Fits s key (fun l => putK l key val) k l ∧ e = .returned (.tuple #[]) ∧ ChgOk B W sb db yd d m w.heap.size y wq s (putK (prs k l) key val) w') ∨ (¬ Fits s key (fun l => putK l key val) k l ∧ e = .panicked full3 ∧ s.left < 2 * k + 4 ∧ Below wq.heap.size wq w'))
theorem put1_new {A3 A6 : Option Addr} {c3 c6 k p : Nat} {l : Its k} (bo : Bo B W w sb db y yd s d m) (hg : Sk.gone s d = false) (t : TreeIn s d k p l) (h3 : RdF w (fun _ => False) (.slice A3 key.length c3) key) (h3b : RdF w (both y yd) (.slice A3 key.length c3) key) (h6 : RdF w (both y yd) (.slice A6 val.length c6) val)
    {b0 b1 b2 : Nat} (v0 : VN w b2 [pt sb]) (v1 : VN w b0 [.slice A3 key.length c3]) (v2 : VN w b1 [.slice A6 val.length c6]) (hk1 : 1 ≤ key.length) (hk2 : key.length ≤ 256) (hv2 : val.length ≤ 1024) (hno : hasK (prs k l) key = false) (hB : B ≤ w.heap.size) (hm : m < 80000000) (hk6 : k + 1 < 256) (hp9 : p < 65536) (hI : p ≠ 0 → IsT p s.cur.now.has (rdOf s d) k l) (hE : p = 0 → ∀ q, s.cur.now.has q = false) :
    Calls Tryz.prog 29 #[.pointer (some ⟨b0, 0, none⟩), .pointer (some ⟨b1, 0, none⟩), .pointer (some ⟨b2, 0, none⟩)] w (PutPost B W sb db yd d m y w s key val k l) := by
  obtain ⟨lo1, lo2, lo3, lo4⟩ := t.leaf key
  rw [← its0 (leafOf key k l)] at lo4
  have hh := lo3.symm.trans hno
  have DN := Lib.hid (fun X (hb : Below w.heap.size w X) => down_tree (bo.keep hb) hg t (h3.bel hb))
  have LV := Lib.hid t.lev
  have V0 := Lib.hid v0
  have V1 := Lib.hid v1
  have V2 := Lib.hid v2
  have H3 := Lib.hid h3
  obtain ⟨lf, hlf⟩ : ∃ lf, lf = leafOf key k l := ⟨_, rfl⟩
  rw [← hlf] at lo1 lo2 hh
  have HLF := Lib.hid hlf
  have LO := Lib.hid (And.intro lo1 lo2)
  have a0 := v0.c 0 _ rfl
  have a1 := v1.c 0 _ rfl
  have a2 := v2.c 0 _ rfl
  have HHH := Lib.hid hh
  have BO := Lib.hid bo; have TT := Lib.hid t; have HGN := Lib.hid hg
  clear bo t lo1 lo2 lo3 lo4 hlf v0 v1 v2 h3 hg hh
  have t1 := trivial
  have r0 : ((key.length : Int) == 0) = false := by simp; intro h; rw [h] at hk1; simp at hk1
  have r1 : decide ((256 : Int) < (key.length : Int)) = false := decide_eq_false (by omega)
  have r2 : decide ((1024 : Int) < (val.length : Int)) = false := decide_eq_false (by omega)
  have HK12 := Lib.hid (And.intro hk1 (And.intro hk2 hv2)); have H3B := Lib.hid h3b; have H6 := Lib.hid h6
  clear hk1 hk2 hv2 h3b h6
  go_enter Tryz.func29, Tryz.ntmps29
  go_wp2_with (first
    | (go_at_call 31; refine (DN.out _ (Below.refl _ _)).mono ?_; rintro e w1 ⟨vv, cs, rfl, g1, g2, g3⟩; have WR := Lib.hid g1; have WY := Lib.hid g2; have B1 := Lib.hid g3; clear g1 g2 g3 a0 a1 a2 r0 r1 r2)
    | fail)
  rename_i k1
  have HK1 := Lib.hid k1
  clear k1
  refine wp_region_noPanic ?_
  refine wp_region_held_drew (S := fun X => VN X b0 [.slice A3 key.length c3]) (by kernel_rfl) (V1.out.bel B1.out).drew (fun hHeld => ?_)
  have X1 := Lib.hid (B1.out.drew)
  have R1 := Lib.hid (WR.out.kf' (Below.refl _ _).drew)
  have Y1 := Lib.hid (WY.out.kf' (Below.refl _ _).drew)
  clear WR WY B1
  generalize w1.drew = wa at *
  refine wpAnyH_take (i := 0) (v := ?_) rfl (by kernel_rfl) (by kernel_rfl) (by kernel_rfl) (fun _ _ _ h => h) (Or.inl ⟨by rfl, ?_⟩) (by assumption) ?_
  rotate_left 1
  · intro w' hSw; (try dsimp only at hSw); go_simp; try (with_reducible rfl)
  try simp only [Act.put, List.getElem_toArray, List.getElem_cons_zero, List.getElem_cons_succ, List.setIfInBounds_toArray, List.set_cons_zero, List.set_cons_succ]
  refine wpAnyH_take (i := 2) (v := ?_) rfl (by kernel_rfl) (by kernel_rfl) (by kernel_rfl) (fun _ _ _ h => h) (Or.inl ⟨by rfl, ?_⟩) (by assumption) ?_
  rotate_left 1
  · intro w' hSw; have hq := hSw.c 0 _ rfl; (try dsimp only at hSw); go_simp; try (with_reducible rfl)
  try simp only [Act.put, List.getElem_toArray, List.getElem_cons_zero, List.getElem_cons_succ, List.setIfInBounds_toArray, List.set_cons_zero, List.set_cons_succ]
  refine wpAnyH_ready (rs := [1]) (by kernel_rfl) (by simp) ?_
  refine AllReadyH.cons rfl (fun K hK => ?_) AllReadyH.nil
  go_simp
  refine (leaf_tree LV.out R1.out Y1.out).mono ?_
  rintro e wb ⟨q, A2, A4, A5, n2, n4, c2, c4, c5, rfl, g1, g2⟩
  rw [← HLF.out] at g1 ⊢
  have FN := Lib.hid (find_any (key := key) (q : Int) 0 A2 A4 n2 n4 c2 c4 (g1.kr.kf (kfb g2)) LO.out.1 (by have := LO.out.2; omega) ((H3.out.bel (X1.out.trans (g2.mono X1.out.size))).rdd))
  have BB := Lib.hid g2
  have XB := Lib.hid (X1.out.trans (g2.mono X1.out.size))
  clear g1 g2 hHeld
  go_wp2_with fail
  refine hK.out _ _ (V1.out.bel XB.out) (fun hHeld => ?_)
  clear hK K
  try simp only [Act.put, List.getElem_toArray, List.getElem_cons_zero, List.getElem_cons_succ, List.setIfInBounds_toArray, List.set_cons_zero, List.set_cons_succ]
  refine wpAnyH_ready (rs := [3]) (by kernel_rfl) (by simp) ?_
  refine AllReadyH.cons rfl (fun K hK => ?_) AllReadyH.nil
  go_simp
  refine FN.out.mono ?_
  rintro e wc ⟨rfl, hb⟩
  rw [HHH.out]
  have BC := Lib.hid hb
  have XC := Lib.hid (XB.out.trans (hb.mono XB.out.size))
  clear hb hHeld FN
  go_wp2_with fail
  refine hK.out _ _ (V1.out.bel XC.out) (fun hHeld => ?_)
  clear hK K
  try simp only [Act.put, List.getElem_toArray, List.getElem_cons_zero, List.getElem_cons_succ, List.setIfInBounds_toArray, List.set_cons_zero, List.set_cons_succ]
  refine wpAnyH_take (i := 4) (v := ?_) rfl (by kernel_rfl) (by kernel_rfl) (by kernel_rfl) (fun _ _ _ h => h) (Or.inl ⟨by rfl, ?_⟩) (by assumption) ?_
  rotate_left 1
  · intro w' hSw; (try dsimp only at hSw); go_simp; try (with_reducible rfl)
  try simp only [Act.put, List.getElem_toArray, List.getElem_cons_zero, List.getElem_cons_succ, List.setIfInBounds_toArray, List.set_cons_zero, List.set_cons_succ]
  refine wpAnyH_take (i := 5) (v := ?_) rfl (by kernel_rfl) (by kernel_rfl) (by kernel_rfl) (fun _ _ _ h => h) (Or.inl ⟨by rfl, ?_⟩) (by assumption) ?_
  rotate_left 1
  · intro w' hSw; (try dsimp only at hSw); go_simp; try (with_reducible rfl)
  try simp only [Act.put, List.getElem_toArray, List.getElem_cons_zero, List.getElem_cons_succ, List.setIfInBounds_toArray, List.set_cons_zero, List.set_cons_succ]
  refine wpAnyH_take (i := 6) (v := ?_) rfl (by kernel_rfl) (by kernel_rfl) (by kernel_rfl) (fun _ _ _ h => h) (Or.inl ⟨by rfl, ?_⟩) (by assumption) ?_
  rotate_left 1
  · intro w' hSw; (try dsimp only at hSw); go_simp; try (with_reducible rfl)
  try simp only [Act.put, List.getElem_toArray, List.getElem_cons_zero, List.getElem_cons_succ, List.setIfInBounds_toArray, List.set_cons_zero, List.set_cons_succ]
  refine wpAnyH_take (i := 7) (v := ?_) rfl (by kernel_rfl) (by kernel_rfl) (by kernel_rfl) (fun _ _ _ h => h) (Or.inl ⟨by rfl, ?_⟩) (by assumption) ?_
  rotate_left 1
  · intro w' hSw; (try dsimp only at hSw); go_simp; try (with_reducible rfl)
  try simp only [Act.put, List.getElem_toArray, List.getElem_cons_zero, List.getElem_cons_succ, List.setIfInBounds_toArray, List.set_cons_zero, List.set_cons_succ]
  refine wpAnyH_take (i := 8) (v := ?_) rfl (by kernel_rfl) (by kernel_rfl) (by kernel_rfl) (fun _ _ _ h => h) (Or.inl ⟨by rfl, ?_⟩) (by assumption) ?_
  rotate_left 1
  · intro w' hSw; (try dsimp only at hSw); go_simp; try (with_reducible rfl)
  try simp only [Act.put, List.getElem_toArray, List.getElem_cons_zero, List.getElem_cons_succ, List.setIfInBounds_toArray, List.set_cons_zero, List.set_cons_succ]
  refine wpAnyH_done (by kernel_rfl) ?_ _
  refine NoPanic.normal ?_
  dsimp only [Exit.then]
  refine HK1.out _ _ ?_
  have U2 := Lib.hid (V2.out.bel XC.out)
  have u2 := U2.out.c 0 _ rfl
  have u0 := (V0.out.bel XC.out).c 0 _ rfl
  have u1 := (V1.out.bel XC.out).c 0 _ rfl
  clear HK1 hHeld
  go_wp2_with fail
  have BAC := Lib.hid (BB.out.trans (BC.out.mono BB.out.size))
  have BX := box1 wc (.cells #[.slice A3 key.length c3, .slice A6 val.length c6, .pointer none] 80)
  have BACX := BAC.out.trans (BX.mono BAC.out.size)
  have XCX := Lib.hid (XC.out.trans (BX.mono XC.out.size))
  have it1 := item_one (F := both y yd) (N := w.heap.size) (H3B.out.bel XC.out) (H6.out.bel XC.out) (fun b hb => Nat.lt_of_lt_of_le (both_lt BO.out hb) XC.out.size) XC.out.size
  have hput : repl (leafOf key k l) (lows (its lf) key) 0 [(key, val)] = putK (leafOf key k l) key val := by
    have h1 := HHH.out
    rw [its0] at h1 ⊢
    rw [← HLF.out]
    have h2 := repl_put lf key val
    rw [h1] at h2
    exact h2
  have hi := lows_len (its lf) key
  rw [its_length] at hi
  obtain ⟨hk1, hk2, hv2⟩ := HK12.out
  refine (change_any (edit_put hk1 hk2 hv2) (BO.out.keep XCX.out) HGN.out TT.out hp9 XCX.out.size hB (R1.out.kf' BACX) (Y1.out.kf' BACX) it1 (by rw [← HLF.out]; omega) (by simp) hput (fun b hb => both_lt BO.out hb) hm hk6 hI (fun e => ⟨hE e, val, hv2, hk1, hk2, rfl⟩)).mono ?_
  rintro e w8 (⟨hf, rfl, OK⟩ | ⟨hf, rfl, h2, h3⟩)
  · have HFT := Lib.hid hf
    have O8 := Lib.hid OK
    clear OK hput hi u0 u1 u2 hf it1 BX BACX hk1 hk2 hv2 hno hI hE
    go_wp2_with fail
    exact ⟨rfl, _, results_nil rfl _ _ _, _, XCX.out, .inl ⟨HFT.out, rfl, O8.out⟩⟩
  · exact ⟨rfl, _, XCX.out, .inr ⟨hf, rfl, h2, h3⟩⟩
end
section
variable {B : Nat} {W w w' : World} {sb db : Nat} {y y' : SLay} {s s' : Sto} {yd yd' : Dk.Lay} {d d' : Dk.Dsk} {m m' : Nat} {F G : Nat → Prop} {N : Nat} {v : Value} {key val : By}
theorem wpAnyH_more {P : Program} {md : Region.Mode} {ops : Array Oper} {Q : Exit → Act → World → Prop} {S S' : World → Prop} (h : ∀ w, S' w → S w) :
    ∀ (fuel : Nat) (listed : Array Bool) (a : Act) (w : World), wpAnyH P md ops Q S' fuel listed a w → wpAnyH P md ops Q S fuel listed a w
  | 0, _, _, _, h0 => h0
  | fuel + 1, _, _, _, h0 => ⟨h0.1, fun i hi => wpOp_mono (fun a' w' h' => ⟨h _ h'.1, wpAnyH_more h fuel _ a' w' h'.2⟩) (h0.2 i hi)⟩
def PutPost1 (B : Nat) (W : World) (sb db : Nat) (yd : Dk.Lay) (d : Dk.Dsk) (m : Nat) (y : SLay) (w : World) (s : Sto) (key val : By) (k : Nat) (l : Its k) (e : Ending) (w' : World) : Prop :=
  (getK (prs k l) key = some val ∧ e = .returned (.tuple #[]) ∧ Below w.heap.size w w') ∨ (getK (prs k l) key ≠ some val ∧ PutPost B W sb db yd d m y w s key val k l e w')
set_option maxHeartbeats 4000000 in
theorem put1_old {A3 A6 : Option Addr} {c3 c6 k p : Nat} {l : Its k} (bo : Bo B W w sb db y yd s d m) (hg : Sk.gone s d = false) (t : TreeIn s d k p l) (h3 : RdF w (fun _ => False) (.slice A3 key.length c3) key) (h3b : RdF w (both y yd) (.slice A3 key.length c3) key) (h6 : RdF w (both y yd) (.slice A6 val.length c6) val)
    {b0 b1 b2 : Nat} (v0 : VN w b2 [pt sb]) (v1 : VN w b0 [.slice A3 key.length c3]) (v2 : VN w b1 [.slice A6 val.length c6]) (hk1 : 1 ≤ key.length) (hk2 : key.length ≤ 256) (hv2 : val.length ≤ 1024) (hno : hasK (prs k l) key = true) (hB : B ≤ w.heap.size) (hm : m < 80000000) (hk6 : k + 1 < 256) (hp9 : p < 65536) (hI : p ≠ 0 → IsT p s.cur.now.has (rdOf s d) k l) (hE : p = 0 → ∀ q, s.cur.now.has q = false) :
    Calls Tryz.prog 29 #[.pointer (some ⟨b0, 0, none⟩), .pointer (some ⟨b1, 0, none⟩), .pointer (some ⟨b2, 0, none⟩)] w (PutPost1 B W sb db yd d m y w s key val k l) := by
  obtain ⟨lo1, lo2, lo3, lo4⟩ := t.leaf key
  rw [← its0 (leafOf key k l)] at lo4
  have hh := lo3.symm.trans hno
  have DN := Lib.hid (fun X (hb : Below w.heap.size w X) => down_tree (bo.keep hb) hg t (h3.bel hb))
  have LV := Lib.hid t.lev
  have V0 := Lib.hid v0
  have V1 := Lib.hid v1
  have V2 := Lib.hid v2
  have H3 := Lib.hid h3
  obtain ⟨lf, hlf⟩ : ∃ lf, lf = leafOf key k l := ⟨_, rfl⟩
  rw [← hlf] at lo1 lo2 hh
  have HLF := Lib.hid hlf
  have LO := Lib.hid (And.intro lo1 lo2)
  have a0 := v0.c 0 _ rfl
  have a1 := v1.c 0 _ rfl
  have a2 := v2.c 0 _ rfl
  have HHH := Lib.hid hh
  have LO4 := Lib.hid lo4
  have BO := Lib.hid bo; have TT := Lib.hid t; have HGN := Lib.hid hg
  clear bo t lo1 lo2 lo3 lo4 hlf v0 v1 v2 h3 hg hh
  obtain ⟨hi0, hgk0⟩ := getK_of HHH.out
  have HG := Lib.hid hgk0
  have HI := Lib.hid hi0
  obtain ⟨i, hii⟩ : ∃ i, i = lows (its lf) key := ⟨_, rfl⟩
  have HII := Lib.hid hii
  have hlen : (its lf).length ≤ 100000 := by have := len_le_isum (its lf); have := LO.out.2; omega
  have i1 : (0 : Int) ≤ (i : Int) := by omega
  have i2 : (i : Int) < ((its lf).length : Int) := by omega
  have i3 : IntKind.i64.wrap (i : Int) = (i : Int) := by rw [IntKind.wrap_i64]; omega
  have i4 : (i : Int).toNat = i := by omega
  clear hgk0 hii hlen
  have t1 := trivial
  have r0 : ((key.length : Int) == 0) = false := by simp; intro h; rw [h] at hk1; simp at hk1
  have r1 : decide ((256 : Int) < (key.length : Int)) = false := decide_eq_false (by omega)
  have r2 : decide ((1024 : Int) < (val.length : Int)) = false := decide_eq_false (by omega)
  have HK12 := Lib.hid (And.intro hk1 (And.intro hk2 hv2)); have H3B := Lib.hid h3b; have H6 := Lib.hid h6
  clear hk1 hk2 hv2 h3b h6
  go_enter Tryz.func29, Tryz.ntmps29
  go_wp2_with (first
    | (go_at_call 31; refine (DN.out _ (Below.refl _ _)).mono ?_; rintro e w1 ⟨vv, cs, rfl, g1, g2, g3⟩; have WR := Lib.hid g1; have WY := Lib.hid g2; have B1 := Lib.hid g3; clear g1 g2 g3 a0 a1 a2 r0 r1 r2)
    | fail)
  rename_i k1
  have HK1 := Lib.hid k1
  clear k1
  refine wp_region_noPanic ?_
  refine wp_region_held_drew (S := fun X => VN X b0 [.slice A3 key.length c3]) (by kernel_rfl) (V1.out.bel B1.out).drew (fun hHeld => ?_)
  have X1 := Lib.hid (B1.out.drew)
  have R1 := Lib.hid (WR.out.kf' (Below.refl _ _).drew)
  have Y1 := Lib.hid (WY.out.kf' (Below.refl _ _).drew)
  clear WR WY B1
  generalize w1.drew = wa at *
  refine wpAnyH_take (i := 0) (v := ?_) rfl (by kernel_rfl) (by kernel_rfl) (by kernel_rfl) (fun _ _ _ h => h) (Or.inl ⟨by rfl, ?_⟩) (by assumption) ?_
  rotate_left 1
  · intro w' hSw; (try dsimp only at hSw); go_simp; try (with_reducible rfl)
  try simp only [Act.put, List.getElem_toArray, List.getElem_cons_zero, List.getElem_cons_succ, List.setIfInBounds_toArray, List.set_cons_zero, List.set_cons_succ]
  refine wpAnyH_take (i := 2) (v := ?_) rfl (by kernel_rfl) (by kernel_rfl) (by kernel_rfl) (fun _ _ _ h => h) (Or.inl ⟨by rfl, ?_⟩) (by assumption) ?_
  rotate_left 1
  · intro w' hSw; have hq := hSw.c 0 _ rfl; (try dsimp only at hSw); go_simp; try (with_reducible rfl)
  try simp only [Act.put, List.getElem_toArray, List.getElem_cons_zero, List.getElem_cons_succ, List.setIfInBounds_toArray, List.set_cons_zero, List.set_cons_succ]
  refine wpAnyH_ready (rs := [1]) (by kernel_rfl) (by simp) ?_
  refine AllReadyH.cons rfl (fun K hK => ?_) AllReadyH.nil
  go_simp
  refine (leaf_tree LV.out R1.out Y1.out).mono ?_
  rintro e wb ⟨q, A2, A4, A5, n2, n4, c2, c4, c5, rfl, g1, g2⟩
  rw [← HLF.out] at g1 ⊢
  have FN := Lib.hid (find_any (key := key) (q : Int) 0 A2 A4 n2 n4 c2 c4 (g1.kr.kf (kfb g2)) LO.out.1 (by have := LO.out.2; omega) ((H3.out.bel (X1.out.trans (g2.mono X1.out.size))).rdd))
  have BB := Lib.hid g2
  have XB := Lib.hid (X1.out.trans (g2.mono X1.out.size))
  clear g1 g2 hHeld
  go_wp2_with fail
  refine hK.out _ _ (V1.out.bel XB.out) (fun hHeld => ?_)
  clear hK K
  try simp only [Act.put, List.getElem_toArray, List.getElem_cons_zero, List.getElem_cons_succ, List.setIfInBounds_toArray, List.set_cons_zero, List.set_cons_succ]
  refine wpAnyH_ready (rs := [3]) (by kernel_rfl) (by simp) ?_
  refine AllReadyH.cons rfl (fun K hK => ?_) AllReadyH.nil
  go_simp
  refine FN.out.mono ?_
  rintro e wc ⟨rfl, hb⟩
  rw [HHH.out, ← HII.out]
  have BC := Lib.hid hb
  have XC := Lib.hid (XB.out.trans (hb.mono XB.out.size))
  clear hb hHeld FN
  go_wp2_with fail
  refine hK.out _ _ (V1.out.bel XC.out) (fun hHeld => ?_)
  clear hK K
  try simp only [Act.put, List.getElem_toArray, List.getElem_cons_zero, List.getElem_cons_succ, List.setIfInBounds_toArray, List.set_cons_zero, List.set_cons_succ]
  refine wpAnyH_take (i := 4) (v := ?_) rfl (by kernel_rfl) (by kernel_rfl) (by kernel_rfl) (fun _ _ _ h => h) (Or.inl ⟨by rfl, ?_⟩) (by assumption) ?_
  rotate_left 1
  · intro w' hSw; (try dsimp only at hSw); go_simp; try (with_reducible rfl)
  try simp only [Act.put, List.getElem_toArray, List.getElem_cons_zero, List.getElem_cons_succ, List.setIfInBounds_toArray, List.set_cons_zero, List.set_cons_succ]
  refine wpAnyH_take (i := 5) (v := ?_) rfl (by kernel_rfl) (by kernel_rfl) (by kernel_rfl) (fun _ _ _ h => h) (Or.inl ⟨by rfl, ?_⟩) (by assumption) ?_
  rotate_left 1
  · intro w' hSw; (try dsimp only at hSw); go_simp; try (with_reducible rfl)
  try simp only [Act.put, List.getElem_toArray, List.getElem_cons_zero, List.getElem_cons_succ, List.setIfInBounds_toArray, List.set_cons_zero, List.set_cons_succ]
  refine wpAnyH_take (i := 6) (v := ?_) rfl (by kernel_rfl) (by kernel_rfl) (by kernel_rfl) (fun _ _ _ h => h) (Or.inl ⟨by rfl, ?_⟩) (by assumption) ?_
  rotate_left 1
  · intro w' hSw; (try dsimp only at hSw); go_simp; try (with_reducible rfl)
  try simp only [Act.put, List.getElem_toArray, List.getElem_cons_zero, List.getElem_cons_succ, List.setIfInBounds_toArray, List.set_cons_zero, List.set_cons_succ]
  refine wpAnyH_take (i := 7) (v := ?_) rfl (by kernel_rfl) (by kernel_rfl) (by kernel_rfl) (fun _ _ _ h => h) (Or.inl ⟨by rfl, ?_⟩) (by assumption) ?_
  rotate_left 1
  · intro w' hSw; (try dsimp only at hSw); go_simp; try (with_reducible rfl)
  try simp only [Act.put, List.getElem_toArray, List.getElem_cons_zero, List.getElem_cons_succ, List.setIfInBounds_toArray, List.set_cons_zero, List.set_cons_succ]
  refine wpAnyH_take (i := 8) (v := ?_) rfl (by kernel_rfl) (by kernel_rfl) (by kernel_rfl) (fun _ _ _ h => h) (Or.inl ⟨by rfl, ?_⟩) (by assumption) ?_
  rotate_left 1
  · intro w' hSw; (try dsimp only at hSw); go_simp; try (with_reducible rfl)
  try simp only [Act.put, List.getElem_toArray, List.getElem_cons_zero, List.getElem_cons_succ, List.setIfInBounds_toArray, List.set_cons_zero, List.set_cons_succ]
  refine wpAnyH_done (by kernel_rfl) ?_ _
  refine NoPanic.normal ?_
  dsimp only [Exit.then]
  refine HK1.out _ _ ?_
  have U2 := Lib.hid (V2.out.bel XC.out)
  have u2 := U2.out.c 0 _ rfl
  have u0 := (V0.out.bel XC.out).c 0 _ rfl
  have u1 := (V1.out.bel XC.out).c 0 _ rfl
  clear HK1 hHeld
  go_wp2_with fail
  have BAC := Lib.hid (BB.out.trans (BC.out.mono BB.out.size))
  obtain ⟨rl, hrl⟩ : ∃ rl, rl = (its lf)[i].2 := ⟨_, rfl⟩
  have HRL := Lib.hid hrl
  clear hrl
  have EQ := Lib.hid (show ∀ (X : World) (Ar : Option Addr) (cr : Nat), Below wc.heap.size wc X → Rd X X.heap.size Ar cr rl → Calls Tryz.prog 34 #[.slice Ar rl.length cr, .slice A6 val.length c6] X fun e w' => e = .returned (.bool (decide (rl = val))) ∧ w' = X from fun X Ar cr hb h => by
    have h6 := ((H6.out.bel XC.out).kf (kfb hb)).rdd
    exact Equal_any h h6)
  have LVX := Lib.hid (fun (X : World) (hb : Below wc.heap.size wc X) => leaf_tree LV.out (R1.out.kf' (BAC.out.trans (hb.mono BAC.out.size))) (Y1.out.kf' (BAC.out.trans (hb.mono BAC.out.size))))
  obtain ⟨bq, hbq⟩ : ∃ bq, bq = decide (rl = val) := ⟨_, rfl⟩
  have HBQ := Lib.hid hbq
  rw [← hbq] at EQ
  clear hbq
  have u2k := U2.out
  go_cut [39] from 31 (fun v wz => v = .bool bq ∧ Hid (Below wc.heap.size wc wz))
  case first =>
    rename_i k3
    have HK3 := Lib.hid k3
    clear k3
    refine wp_region_noPanic ?_
    refine wp_region_held_drew (S := fun X => VN X b1 [.slice A6 val.length c6]) (by kernel_rfl) u2k.drew (fun hHeld => ?_)
    refine wpAnyH_take (i := 0) (v := ?_) rfl (by kernel_rfl) (by kernel_rfl) (by kernel_rfl) (fun _ _ _ h => h) (Or.inl ⟨by rfl, ?_⟩) (by assumption) ?_
    rotate_left 1
    · intro w' hSw; (try dsimp only at hSw); go_simp; try (with_reducible rfl)
    try simp only [Act.put, List.getElem_toArray, List.getElem_cons_zero, List.getElem_cons_succ, List.setIfInBounds_toArray, List.set_cons_zero, List.set_cons_succ]
    refine wpAnyH_take (i := 3) (v := ?_) rfl (by kernel_rfl) (by kernel_rfl) (by kernel_rfl) (fun _ _ _ h => h) (Or.inl ⟨by rfl, ?_⟩) (by assumption) ?_
    rotate_left 1
    · intro w' hSw; (try dsimp only at hSw); go_simp; try (with_reducible rfl)
    try simp only [Act.put, List.getElem_toArray, List.getElem_cons_zero, List.getElem_cons_succ, List.setIfInBounds_toArray, List.set_cons_zero, List.set_cons_succ]
    refine wpAnyH_take (i := 7) (v := ?_) rfl (by kernel_rfl) (by kernel_rfl) (by kernel_rfl) (fun _ _ _ h => h) (Or.inl ⟨by rfl, ?_⟩) (by assumption) ?_
    rotate_left 1
    · intro w' hSw; have hq := hSw.c 0 _ rfl; (try dsimp only at hSw); go_simp; try (with_reducible rfl)
    try simp only [Act.put, List.getElem_toArray, List.getElem_cons_zero, List.getElem_cons_succ, List.setIfInBounds_toArray, List.set_cons_zero, List.set_cons_succ]
    refine wpAnyH_ready (rs := [1]) (by kernel_rfl) (by simp) ?_
    refine AllReadyH.cons rfl (fun K hK => ?_) AllReadyH.nil
    go_simp
    refine (LVX.out _ (by first | exact Below.refl _ _ | exact (Below.refl _ _).drew | exact (Below.refl _ _).drew.drew)).mono ?_
    rintro e we ⟨qe, E2, E4, E5, ne2, ne4, ce2, ce4, ce5, rfl, g1, g2⟩
    rw [← HLF.out] at g1 ⊢
    have BE := Lib.hid (show Below wc.heap.size wc we from ⟨g2.os, g2.tape, g2.output, g2.size, g2.block⟩)
    obtain ⟨b5, o5, Ak, ck, Ar, cr, qq, e10, gc0, gc, -, -, rr, -, gr⟩ := g1.kr.at (i := i) (by rw [HII.out]; exact HI.out)
    rw [← HRL.out] at gc rr
    subst e10
    have RE := Lib.hid ((rr.below g2).more g2.size)
    have gc := cell_bel g2 gc
    have hfi := fun (X : World) => run_items (qe : Int) 0 E2 E4 (some ⟨b5, o5, none⟩) ne2 ne4 (its lf).length ce2 ce4 ce5 X
    clear g1 g2 rr gr gc0 hHeld
    go_wp2_with fail
    refine hK.out _ _ (U2.out.bel BE.out) (fun hHeld => ?_)
    clear hK K
    refine wpAnyH_more (S' := fun X => VN X b1 [.slice A6 val.length c6] ∧ X.cell? ⟨b5, o5 + i * 3 + 1, none⟩ = some (.slice Ar rl.length cr)) (fun _ h => h.1) _ _ _ _ ?_
    have hHeld2 : VN we b1 [.slice A6 val.length c6] ∧ we.cell? ⟨b5, o5 + i * 3 + 1, none⟩ = some (.slice Ar rl.length cr) := ⟨hHeld, gc⟩
    clear hHeld gc
    try simp only [Act.put, List.getElem_toArray, List.getElem_cons_zero, List.getElem_cons_succ, List.setIfInBounds_toArray, List.set_cons_zero, List.set_cons_succ]
    refine wpAnyH_take (i := 2) (v := ?_) rfl (by kernel_rfl) (by kernel_rfl) (by kernel_rfl) (fun _ _ _ h => h) (Or.inl ⟨by rfl, ?_⟩) (by assumption) ?_
    rotate_left 1
    · intro w' hSw; (try dsimp only at hSw); go_simp; try (with_reducible rfl)
    try simp only [Act.put, List.getElem_toArray, List.getElem_cons_zero, List.getElem_cons_succ, List.setIfInBounds_toArray, List.set_cons_zero, List.set_cons_succ]
    refine wpAnyH_take (i := 4) (v := ?_) rfl (by kernel_rfl) (by kernel_rfl) (by kernel_rfl) (fun _ _ _ h => h) (Or.inl ⟨by rfl, ?_⟩) (by assumption) ?_
    rotate_left 1
    · intro w' hSw; (try dsimp only at hSw); go_simp; try (with_reducible rfl)
    try simp only [Act.put, List.getElem_toArray, List.getElem_cons_zero, List.getElem_cons_succ, List.setIfInBounds_toArray, List.set_cons_zero, List.set_cons_succ]
    refine wpAnyH_take (i := 5) (v := ?_) rfl (by kernel_rfl) (by kernel_rfl) (by kernel_rfl) (fun _ _ _ h => h) (Or.inl ⟨by rfl, ?_⟩) (by assumption) ?_
    rotate_left 1
    · intro w' hSw; (try dsimp only at hSw); go_simp; try (with_reducible rfl)
    try simp only [Act.put, List.getElem_toArray, List.getElem_cons_zero, List.getElem_cons_succ, List.setIfInBounds_toArray, List.set_cons_zero, List.set_cons_succ]
    refine wpAnyH_take (i := 6) (v := ?_) rfl (by kernel_rfl) (by kernel_rfl) (by kernel_rfl) (fun _ _ _ h => h) (Or.inl ⟨by rfl, ?_⟩) (by assumption) ?_
    rotate_left 1
    · intro w' hSw; have hq := hSw.2; (try dsimp only at hSw); go_simp; try (with_reducible rfl)
    try simp only [Act.put, List.getElem_toArray, List.getElem_cons_zero, List.getElem_cons_succ, List.setIfInBounds_toArray, List.set_cons_zero, List.set_cons_succ]
    refine wpAnyH_ready (rs := [8]) (by kernel_rfl) (by simp) ?_
    refine AllReadyH.cons rfl (fun K hK => ?_) AllReadyH.nil
    go_simp
    refine (EQ.out _ _ _ BE.out RE.out).mono ?_
    rintro e w9 ⟨rfl, hw9⟩
    have hw9' := hw9.symm
    subst hw9'
    go_wp2_with fail
    refine hK.out _ _ hHeld2 (fun hHeld3 => ?_)
    clear hK K
    try simp only [Act.put, List.getElem_toArray, List.getElem_cons_zero, List.getElem_cons_succ, List.setIfInBounds_toArray, List.set_cons_zero, List.set_cons_succ]
    refine wpAnyH_done (by kernel_rfl) ?_ _
    refine NoPanic.normal ?_
    dsimp only [Exit.then]
    refine HK3.out _ _ ?_
    clear HK3 hHeld2 hHeld3
    go_wp2_with fail
    go_meet
    case rel => exact ⟨rfl, BE⟩
  case rest =>
    obtain ⟨rfl, BW⟩ := hcut
    have XC2 := Lib.hid (XC.out.trans (BW.out.mono XC.out.size))
    have BAC2 := Lib.hid (BAC.out.trans (BW.out.mono BAC.out.size))
    have hfound : getK (prs k l) key = some rl := by
      rw [LO4.out, ← HLF.out, HG.out]
      have hr := HRL.out
      have hii := HII.out
      subst hii
      rw [hr]
    have HFOUND := Lib.hid hfound
    clear hfound EQ LVX
    have u0 := (V0.out.bel XC2.out).c 0 _ rfl
    have u1 := (V1.out.bel XC2.out).c 0 _ rfl
    have u2 := (V2.out.bel XC2.out).c 0 _ rfl
    cases bq with
    | true =>
      have hrl : rl = val := of_decide_eq_true HBQ.out.symm
      have HRV := Lib.hid hrl
      clear hrl u0 u1 u2
      go_wp2_with fail
      exact ⟨rfl, _, results_nil rfl _ _ _, .inl ⟨by rw [HFOUND.out, HRV.out], rfl, XC2.out⟩⟩
    | false =>
      have hrl : ¬ rl = val := of_decide_eq_false HBQ.out.symm
      have HRV := Lib.hid hrl
      clear hrl
      go_wp2_with fail
      have BX := box1 wc (.cells #[.slice A3 key.length c3, .slice A6 val.length c6, .pointer none] 80)
      have BACX := BAC2.out.trans (BX.mono BAC2.out.size)
      have XCX := Lib.hid (XC2.out.trans (BX.mono XC2.out.size))
      have it1 := item_one (F := both y yd) (N := w.heap.size) (H3B.out.bel XC2.out) (H6.out.bel XC2.out) (fun b hb => Nat.lt_of_lt_of_le (both_lt BO.out hb) XC2.out.size) XC2.out.size
      have hput : repl (leafOf key k l) (lows (its lf) key) 1 [(key, val)] = putK (leafOf key k l) key val := by
        have h1 := HHH.out
        rw [its0] at h1 ⊢
        rw [← HLF.out]
        have h2 := repl_put lf key val
        rw [h1] at h2
        exact h2
      have hi := HI.out
      rw [its_length] at hi
      obtain ⟨hk1, hk2, hv2⟩ := HK12.out
      rw [HII.out]
      refine (change_any (edit_put hk1 hk2 hv2) (BO.out.keep XCX.out) HGN.out TT.out hp9 XCX.out.size hB (R1.out.kf' BACX) (Y1.out.kf' BACX) it1 (by rw [← HLF.out]; omega) (by simp) hput (fun b hb => both_lt BO.out hb) hm hk6 hI (fun e => ⟨hE e, val, hv2, hk1, hk2, rfl⟩)).mono ?_
      rintro e w8 (⟨hf, rfl, OK⟩ | ⟨hf, rfl, h2, h3⟩)
      · have HFT := Lib.hid hf
        have O8 := Lib.hid OK
        clear OK hput hi u0 u1 u2 hf it1 BX BACX hk1 hk2 hv2 hno hI hE
        go_wp2_with fail
        exact ⟨rfl, _, results_nil rfl _ _ _, .inr ⟨by rw [HFOUND.out]; intro e; injection e with e; exact HRV.out e, _, XCX.out, .inl ⟨HFT.out, rfl, O8.out⟩⟩⟩
      · exact ⟨rfl, .inr ⟨by rw [HFOUND.out]; intro e; injection e with e; exact HRV.out e, _, XCX.out, .inr ⟨hf, rfl, h2, h3⟩⟩⟩
end
section
variable {B : Nat} {W w w' : World} {sb db : Nat} {y y' : SLay} {s s' : Sto} {yd yd' : Dk.Lay} {d d' : Dk.Dsk} {m m' : Nat} {F G : Nat → Prop} {N : Nat} {v : Value} {key val : By}
theorem put1_any {A3 A6 : Option Addr} {c3 c6 k p : Nat} {l : Its k} (bo : Bo B W w sb db y yd s d m) (hg : Sk.gone s d = false) (t : TreeIn s d k p l) (h3b : RdF w (both y yd) (.slice A3 key.length c3) key) (h6 : RdF w (both y yd) (.slice A6 val.length c6) val)
    {b0 b1 b2 : Nat} (v0 : VN w b2 [pt sb]) (v1 : VN w b0 [.slice A3 key.length c3]) (v2 : VN w b1 [.slice A6 val.length c6]) (hk1 : 1 ≤ key.length) (hk2 : key.length ≤ 256) (hv2 : val.length ≤ 1024) (hB : B ≤ w.heap.size) (hm : m < 80000000) (hk6 : k + 1 < 256) (hp9 : p < 65536) (hI : p ≠ 0 → IsT p s.cur.now.has (rdOf s d) k l) (hE : p = 0 → ∀ q, s.cur.now.has q = false) :
    Calls Tryz.prog 29 #[.pointer (some ⟨b0, 0, none⟩), .pointer (some ⟨b1, 0, none⟩), .pointer (some ⟨b2, 0, none⟩)] w (PutPost1 B W sb db yd d m y w s key val k l) := by
  cases hh : hasK (prs k l) key with
  | true => exact put1_old bo hg t (h3b.mono fun b h => h.elim) h3b h6 v0 v1 v2 hk1 hk2 hv2 hh hB hm hk6 hp9 hI hE
  | false => exact (put1_new bo hg t (h3b.mono fun b h => h.elim) h3b h6 v0 v1 v2 hk1 hk2 hv2 hh hB hm hk6 hp9 hI hE).mono fun e w' h => .inr ⟨by rw [getK_no hh]; exact fun e => (by cases e), h⟩
theorem put_boxes (w : World) (u v1 v2 : Value) : ∃ W0, W0 = ((w.alloc (.cells #[u] 23)).alloc (.cells #[v1] 32)).alloc (.cells #[v2] 32) ∧ Below w.heap.size w W0 ∧ W0.heap.size = w.heap.size + 3 ∧ VN W0 w.heap.size [u] ∧ VN W0 (w.heap.size + 1) [v1] ∧ VN W0 (w.heap.size + 2) [v2] := by
  refine ⟨_, rfl, ((box1 w _).alloc (by simp) _).alloc (by simp; omega) _, by simp, ((VN.new w _ _).alloc _).alloc _, ?_, ?_⟩
  · have := (VN.new (w.alloc (.cells #[u] 23)) #[v1] 32).alloc (.cells #[v2] 32)
    simpa using this
  · have := VN.new ((w.alloc (.cells #[u] 23)).alloc (.cells #[v1] 32)) #[v2] 32
    simpa using this
theorem put_same {A1 A2 : Option Addr} {c1 c2 k p : Nat} {l : Its k} (bo : Bo B W w sb db y yd s d m) (hg : Sk.gone s d = false) (t : TreeIn s d k p l) (h1 : RdF w (both y yd) (.slice A1 key.length c1) key) (h2 : RdF w (both y yd) (.slice A2 val.length c2) val)
    (hk1 : 1 ≤ key.length) (hk2 : key.length ≤ 256) (hv2 : val.length ≤ 1024) (hB : B ≤ w.heap.size) (hm : m < 80000000) (hk6 : k + 1 < 256) (hp9 : p < 65536) (hI : p ≠ 0 → IsT p s.cur.now.has (rdOf s d) k l) (hE : p = 0 → ∀ q, s.cur.now.has q = false) (hs : getK (prs k l) key = some val) :
    Calls Tryz.prog 11 #[pt sb, .slice A1 key.length c1, .slice A2 val.length c2] w fun e w' => e = .returned (.int .i64 0) ∧ Below w.heap.size w w' := by
  obtain ⟨W0, hW0, B0, hs0, X0, X1, X2⟩ := put_boxes w (pt sb) (.slice A1 key.length c1) (.slice A2 val.length c2)
  have hnb : ∀ b, both y yd b → b < w.heap.size := fun b hb => both_lt bo hb
  have C := Lib.hid (caught_ok (bo.keep B0) hg (f := 29) (caps := #[.pointer (some ⟨w.heap.size + 1, 0, none⟩), .pointer (some ⟨w.heap.size + 2, 0, none⟩), .pointer (some ⟨w.heap.size, 0, none⟩)]) (Q := fun w' => Below W0.heap.size W0 w') (hcf_put _) (fun w1 hb hlt => (put1_any ((bo.keep B0).keep hb) hg t ((h1.bel B0).bel hb) ((h2.bel B0).bel hb) (X0.bel hb) (X1.bel hb) (X2.bel hb) hk1 hk2 hv2 (by have := hb.size; omega) hm hk6 hp9 hI hE).mono (by
    rintro e w' (⟨_, rfl, h⟩ | ⟨hn, _⟩)
    · exact ⟨rfl, hb.trans (h.mono hb.size), h.size, h.block _ hlt⟩
    · exact absurd hs hn)))
  have HB0 := Lib.hid B0
  have HW0 := Lib.hid hW0
  have HS := Lib.hid hs0
  clear bo hg t h1 h2 B0 hW0 X0 X1 X2 hs0 hI hE hs hk1
  have hmf : ∀ (fn : Fn) (first cap : Array Value) (w : World), (Instr.makeFunc fn first cap).run Tryz.prog w = .ok (.func fn first cap) w := fun _ _ _ _ => rfl
  go_enter Tryz.func11, Tryz.ntmps11
  go_wp2_with fail
  rw [← HW0.out]
  refine C.out.mono ?_
  rintro e w5 ⟨rfl, w4, hq, hO⟩
  have B5 := Lib.hid (hO.bel (HB0.out.trans (hq.mono HB0.out.size)) (by have := HS.out; omega))
  clear hq hO
  go_wp2_with fail
  go_ret
  exact ⟨rfl, B5.out⟩
theorem put_ok {A1 A2 : Option Addr} {c1 c2 k p : Nat} {l : Its k} (bo : Bo B W w sb db y yd s d m) (hg : Sk.gone s d = false) (t : TreeIn s d k p l) (h1 : RdF w (both y yd) (.slice A1 key.length c1) key) (h2 : RdF w (both y yd) (.slice A2 val.length c2) val)
    (hk1 : 1 ≤ key.length) (hk2 : key.length ≤ 256) (hv2 : val.length ≤ 1024) (hB : B ≤ w.heap.size) (hm : m < 80000000) (hk6 : k + 1 < 256) (hp9 : p < 65536) (hI : p ≠ 0 → IsT p s.cur.now.has (rdOf s d) k l) (hE : p = 0 → ∀ q, s.cur.now.has q = false) (hs : getK (prs k l) key ≠ some val) (hf : Fits s key (fun l => putK l key val) k l) :
    Calls Tryz.prog 11 #[pt sb, .slice A1 key.length c1, .slice A2 val.length c2] w fun e w' => e = .returned (.int .i64 0) ∧ ChgOk B W sb db yd d m w.heap.size y w s (putK (prs k l) key val) w' := by
  obtain ⟨W0, hW0, B0, hs0, X0, X1, X2⟩ := put_boxes w (pt sb) (.slice A1 key.length c1) (.slice A2 val.length c2)
  have hnb : ∀ b, both y yd b → b < w.heap.size := fun b hb => both_lt bo hb
  have C := Lib.hid (caught_ok (bo.keep B0) hg (f := 29) (caps := #[.pointer (some ⟨w.heap.size + 1, 0, none⟩), .pointer (some ⟨w.heap.size + 2, 0, none⟩), .pointer (some ⟨w.heap.size, 0, none⟩)]) (Q := fun w' => ∃ w1 wq, Below W0.heap.size W0 w1 ∧ W0.heap.size < w1.heap.size ∧ Below w1.heap.size w1 wq ∧ ChgOk B W sb db yd d m w1.heap.size y wq s (putK (prs k l) key val) w') (hcf_put _) (fun w1 hb hlt => (put1_any ((bo.keep B0).keep hb) hg t ((h1.bel B0).bel hb) ((h2.bel B0).bel hb) (X0.bel hb) (X1.bel hb) (X2.bel hb) hk1 hk2 hv2 (by have := hb.size; omega) hm hk6 hp9 hI hE).mono (by
    rintro e w' (⟨hn, _⟩ | ⟨_, wq, hq, ⟨_, rfl, ok⟩ | ⟨hn, _⟩⟩)
    · exact absurd hn hs
    · exact ⟨rfl, ⟨w1, wq, hb, hlt, hq, ok⟩, Nat.le_trans hq.size ok.size, (ok.keep _ hlt (fun h => by have := hnb _ h; omega)).trans (hq.block _ hlt)⟩
    · exact absurd hf hn)))
  have HB0 := Lib.hid B0
  have HS := Lib.hid hs0
  have HW0 := Lib.hid hW0
  have BO := Lib.hid bo; have HB := Lib.hid hB
  clear bo hg t h1 h2 X0 X1 X2 B0 hs0 hW0 hI hE hs hk1
  have hmf : ∀ (fn : Fn) (first cap : Array Value) (w : World), (Instr.makeFunc fn first cap).run Tryz.prog w = .ok (.func fn first cap) w := fun _ _ _ _ => rfl
  go_enter Tryz.func11, Tryz.ntmps11
  go_wp2_with fail
  rw [← HW0.out]
  refine C.out.mono ?_
  rintro e w5 ⟨rfl, w4, ⟨w1, wq, hb1, hb2, hb3, ok⟩, hO⟩
  have OO := Lib.hid hO; have OK := Lib.hid ok
  have BQ := Lib.hid (hb1.trans (hb3.mono hb1.size)); have BL := Lib.hid hb2; have BW := Lib.hid hb3.size
  clear hb1 hb2 hb3 ok hO
  go_wp2_with fail
  have hs := HS.out
  go_ret
  have bq : Below w.heap.size w wq := HB0.out.trans (BQ.out.mono HB0.out.size)
  have hbl := BL.out
  have hbw := BW.out
  have r2 := OK.out.only (N' := 0) OO.out bq (by omega) (by omega) (by omega) (fun b hb => both_lt BO.out hb) HB.out
  exact ⟨rfl, r2.1⟩
theorem put_full {A1 A2 : Option Addr} {c1 c2 k p : Nat} {l : Its k} (bo : Bo B W w sb db y yd s d m) (hg : Sk.gone s d = false) (t : TreeIn s d k p l) (h1 : RdF w (both y yd) (.slice A1 key.length c1) key) (h2 : RdF w (both y yd) (.slice A2 val.length c2) val)
    (hk1 : 1 ≤ key.length) (hk2 : key.length ≤ 256) (hv2 : val.length ≤ 1024) (hB : B ≤ w.heap.size) (hm : m < 80000000) (hk6 : k + 1 < 256) (hp9 : p < 65536) (hI : p ≠ 0 → IsT p s.cur.now.has (rdOf s d) k l) (hE : p = 0 → ∀ q, s.cur.now.has q = false) (hs : getK (prs k l) key ≠ some val) (hf : ¬ Fits s key (fun l => putK l key val) k l) :
    Calls Tryz.prog 11 #[pt sb, .slice A1 key.length c1, .slice A2 val.length c2] w fun e w' => e = .returned (.int .i64 3) ∧ s.left < 2 * k + 4 ∧ Below w.heap.size w w' := by
  obtain ⟨W0, hW0, B0, hs0, X0, X1, X2⟩ := put_boxes w (pt sb) (.slice A1 key.length c1) (.slice A2 val.length c2)
  have C := Lib.hid (caught_thrown (bo.keep B0) hg (f := 29) (caps := #[.pointer (some ⟨w.heap.size + 1, 0, none⟩), .pointer (some ⟨w.heap.size + 2, 0, none⟩), .pointer (some ⟨w.heap.size, 0, none⟩)]) (n := 3) (Q := fun w' => s.left < 2 * k + 4 ∧ Below W0.heap.size W0 w') (hcf_put _) (fun w1 hb hlt => (put1_any ((bo.keep B0).keep hb) hg t ((h1.bel B0).bel hb) ((h2.bel B0).bel hb) (X0.bel hb) (X1.bel hb) (X2.bel hb) hk1 hk2 hv2 (by have := hb.size; omega) hm hk6 hp9 hI hE).mono (by
    rintro e w' (⟨hn, _⟩ | ⟨_, wq, hq, ⟨hn, _⟩ | ⟨_, rfl, g1, g2⟩⟩)
    · exact absurd hn hs
    · exact absurd hn hf
    · exact ⟨rfl, ⟨g1, hb.trans ((hq.trans (g2.mono hq.size)).mono hb.size)⟩, Nat.le_trans hq.size g2.size, (g2.block _ (Nat.lt_of_lt_of_le hlt hq.size)).trans (hq.block _ hlt)⟩)))
  have HB0 := Lib.hid B0
  have HW0 := Lib.hid hW0
  have HS := Lib.hid hs0
  clear bo hg t h1 h2 B0 hW0 X0 X1 X2 hs0 hI hE hs hk1
  have hmf : ∀ (fn : Fn) (first cap : Array Value) (w : World), (Instr.makeFunc fn first cap).run Tryz.prog w = .ok (.func fn first cap) w := fun _ _ _ _ => rfl
  go_enter Tryz.func11, Tryz.ntmps11
  go_wp2_with fail
  rw [← HW0.out]
  refine C.out.mono ?_
  rintro e w5 ⟨rfl, w4, ⟨h1, h2⟩, hO⟩
  have B5 := Lib.hid (hO.bel (HB0.out.trans (h2.mono HB0.out.size)) (by have := HS.out; omega))
  have H1 := Lib.hid h1
  clear h1 h2 hO
  go_wp2_with fail
  go_ret
  exact ⟨rfl, H1.out, B5.out⟩
end
def Low (s : Sto) (k : Nat) : Prop := k = 0 ∨ 2 ^ k ≤ sumTo (fun q => (s.cur.now.has q).toNat) 4096
theorem low_of {s : Sto} {d : Dk.Dsk} (h : SGood s) {k : Nat} {l : Its k} (t : IsT s.cur.now.root s.cur.now.has (rdOf s d) k l) : Low s k := by
  have hv := h.view s.us.length
  rw [view_len] at hv
  have h2 := h.n5
  exact .inr (t.level (N := 4096) (fun q hq => by have := (hv.has q hq).2; omega))
theorem Low.lt {s : Sto} {k : Nat} (h : Low s k) : k ≤ 12 := by
  rcases h with h | h
  · omega
  · have hle := sumTo_bool s.cur.now.has 4096
    rcases Nat.lt_or_ge k 13 with h4 | h4
    · omega
    · have := Nat.pow_le_pow_right (n := 2) (by omega) h4
      omega
theorem TreeOf.use {s : Sto} {d : Dk.Dsk} (hg : Sk.gone s d = false) (h : SGood s) {L : List It} (t : TreeOf s.cur.now.root s.cur.now.has (rdOf s d) L) : ∃ k p l, TreeIn s d k p l ∧ prs k l = L ∧ Low s k ∧ p < 65536 ∧ (p ≠ 0 → IsT p s.cur.now.has (rdOf s d) k l) ∧ (p = 0 → ∀ q, s.cur.now.has q = false) ∧ (∀ fr tu, rng fr tu k [] l = L.filter fun x => inS fr tu x.1) := by
  rcases t with ⟨h0, rfl, he⟩ | ⟨k, l, h1, rfl⟩
  · exact ⟨0, 0, [], ⟨h0, by omega, trivial, .inl ⟨rfl, rfl, rfl⟩⟩, rfl, .inl rfl, by omega, fun h => absurd rfl h, fun _ => he, fun fr tu => rfl⟩
  · exact ⟨k, _, l, TreeIn.of hg h h1, rfl, low_of h h1, h1.r1, fun _ => h1, fun e => absurd e h1.r0, fun fr tu => rng_eq h1.ok⟩
theorem vst_pq {k : Nat} (hi : By) (l : Its k) (a : Sz) : (vst stS [] [] k hi l a).p = a.p + nds k l ∧ (vst stS [] [] k hi l a).q = max a.q (k + 1) := by
  induction k generalizing hi a with
  | zero => exact ⟨rfl, rfl⟩
  | succ k ih =>
    rw [vst_succ]
    have key : ∀ (l : Its (k + 1)) (b : Sz), k + 1 ≤ b.q → (vstL (fun hi t a => vst stS [] [] k hi (sub t) a) [] [] hi l b).p = b.p + (l.map fun (x : By × T k) => nds k (sub x.2)).sum ∧ (vstL (fun hi t a => vst stS [] [] k hi (sub t) a) [] [] hi l b).q = b.q := fun l => by
      induction l with
      | nil => intro b hb; exact ⟨rfl, rfl⟩
      | cons x l ihl =>
        intro b hb
        have hm : meets x.1 (nxt hi l) [] [] = true := by unfold meets ends; cases nxt hi l <;> rfl
        have h1 := ih (nxt hi l) (sub x.2) b
        have h2 := ihl (vst stS [] [] k (nxt hi l) (sub x.2) b) (by rw [h1.2]; omega)
        show (vstL _ [] [] hi l (if meets x.1 (nxt hi l) [] [] then vst stS [] [] k (nxt hi l) (sub x.2) b else b)).p = _ ∧ (vstL _ [] [] hi l (if meets x.1 (nxt hi l) [] [] then vst stS [] [] k (nxt hi l) (sub x.2) b else b)).q = _
        rw [if_pos hm, h2.1, h2.2, h1.1, h1.2, List.map_cons, List.sum_cons]
        exact ⟨by omega, by omega⟩
    have h3 := key l (stS a (k + 1) l) (by show k + 1 ≤ max a.q (k + 1 + 1); omega)
    refine ⟨h3.1.trans ?_, h3.2⟩
    show a.p + 1 + _ = a.p + (1 + _)
    omega
section
variable {B : Nat} {W w w' : World} {sb db : Nat} {y y' : SLay} {s s' : Sto} {yd yd' : Dk.Lay} {d d' : Dk.Dsk} {m m' : Nat} {F : Nat → Prop} {key val fr tu : By} {L : List It}
theorem Put_tree {A1 A2 : Option Addr} {c1 c2 : Nat} (bo : Bo B W w sb db y yd s d m) (hg : Sk.gone s d = false) (t : TreeOf s.cur.now.root s.cur.now.has (rdOf s d) L) (h1 : RdF w (both y yd) (.slice A1 key.length c1) key) (h2 : RdF w (both y yd) (.slice A2 val.length c2) val)
    (hk1 : 1 ≤ key.length) (hk2 : key.length ≤ 256) (hv2 : val.length ≤ 1024) (hB : B ≤ w.heap.size) (hm : m < 80000000) :
    Calls Tryz.prog 11 #[pt sb, .slice A1 key.length c1, .slice A2 val.length c2] w fun e w' =>
      (getK L key = some val ∧ e = .returned (.int .i64 0) ∧ Below w.heap.size w w') ∨ (getK L key ≠ some val ∧ e = .returned (.int .i64 0) ∧ ChgOk B W sb db yd d m w.heap.size y w s (putK L key val) w') ∨ (getK L key ≠ some val ∧ e = .returned (.int .i64 3) ∧ Below w.heap.size w w' ∧ ∃ k, s.left < 2 * k + 4 ∧ Low s k) := by
  obtain ⟨k, p, l, ht, rfl, hlow, hp, hI, hE, -⟩ := t.use hg bo.good
  have hk6 := hlow.lt
  by_cases hs : getK (prs k l) key = some val
  · exact (put_same bo hg ht h1 h2 hk1 hk2 hv2 hB hm (by omega) hp hI hE hs).mono fun e w' h => .inl ⟨hs, h.1, h.2⟩
  · by_cases hf : Fits s key (fun l => putK l key val) k l
    · exact (put_ok bo hg ht h1 h2 hk1 hk2 hv2 hB hm (by omega) hp hI hE hs hf).mono fun e w' h => .inr (.inl ⟨hs, h.1, h.2⟩)
    · exact (put_full bo hg ht h1 h2 hk1 hk2 hv2 hB hm (by omega) hp hI hE hs hf).mono fun e w' h => .inr (.inr ⟨hs, h.1, h.2.2, k, h.2.1, hlow⟩)
theorem Delete_tree {A3 : Option Addr} {c3 : Nat} (bo : Bo B W w sb db y yd s d m) (hg : Sk.gone s d = false) (t : TreeOf s.cur.now.root s.cur.now.has (rdOf s d) L) (h3 : RdF w (fun _ => False) (.slice A3 key.length c3) key) (hB : B ≤ w.heap.size) (hm : m < 80000000) :
    Calls Tryz.prog 14 #[pt sb, .slice A3 key.length c3] w fun e w' =>
      (hasK L key = false ∧ e = .returned (.tuple #[.bool false, .int .i64 0]) ∧ Below w.heap.size w w') ∨ (hasK L key = true ∧ e = .returned (.tuple #[.bool true, .int .i64 0]) ∧ ChgOk B W sb db yd d m w.heap.size y w s (delK L key) w') ∨ (hasK L key = true ∧ e = .returned (.tuple #[.bool false, .int .i64 3]) ∧ Below w.heap.size w w' ∧ ∃ k, s.left < 2 * k + 4 ∧ Low s k) := by
  obtain ⟨k, p, l, ht, rfl, hlow, hp, hI, hE, -⟩ := t.use hg bo.good
  have hk6 := hlow.lt
  cases hh : hasK (prs k l) key with
  | false => exact (delete_no bo hg ht h3 hh).mono fun e w' h => .inl ⟨rfl, h.1, h.2⟩
  | true =>
    have hp0 : p ≠ 0 := fun e => by
      rcases ht.here with ⟨_, hk, hl⟩ | ⟨h, _⟩
      · subst hk; subst hl; have h0 : hasK (prs 0 ([] : Its 0)) key = false := rfl; rw [h0] at hh; cases hh
      · exact h e
    by_cases hf : Fits s key (fun l => delK l key) k l
    · exact (delete_ok bo hg ht h3 hh hB hm (by omega) (hI hp0) hf).mono fun e w' h => .inr (.inl ⟨rfl, h.1, h.2⟩)
    · exact (delete_full bo hg ht h3 hh hB hm (by omega) (hI hp0) hf).mono fun e w' h => .inr (.inr ⟨rfl, h.1, h.2.2, k, h.2.1, hlow⟩)
theorem Range_tree {A1 A2 : Option Addr} {c1 c2 : Nat} (bo : Bo B W w sb db y yd s d m) (hg : Sk.gone s d = false) (t : TreeOf s.cur.now.root s.cur.now.has (rdOf s d) L) (h1 : RdF w F (.slice A1 fr.length c1) fr) (h2 : RdF w F (.slice A2 tu.length c2) tu) (hB : B ≤ w.heap.size) (hL : L.length ≤ 1000000000) :
    Calls Tryz.prog 17 #[pt sb, .slice A1 fr.length c1, .slice A2 tu.length c2] w fun e w' => ∃ v ts, e = .returned (.tuple #[v, .int .i64 0]) ∧ w'.ownsRow (w.heap.size + 4) 54 2 v ts.length (t2s ts) ∧ AlP w' (fun q => q < w.heap.size + 4 ∨ v.ownBlock = some q) ts (L.filter fun x => inS fr tu x.1) ∧ Below w.heap.size w w' := by
  obtain ⟨k, p, l, ht, rfl, hlow, hp, hI, hE, hr⟩ := t.use hg bo.good
  rw [← hr fr tu]
  exact range_any bo hg ht h1 h2 hB (by rw [hr fr tu]; exact Nat.le_trans (List.length_filter_le _ _) hL)
theorem Size_tree (bo : Bo B W w sb db y yd s d m) (hg : Sk.gone s d = false) (t : TreeOf s.cur.now.root s.cur.now.has (rdOf s d) L) (hB : B ≤ w.heap.size) (hL : L.length ≤ 100000000) :
    Calls Tryz.prog 22 #[pt sb] w fun e w' => ∃ q : Nat, e = .returned (.tuple #[.int .i64 (L.length : Int), .int .i64 ((sumTo (fun q => (s.cur.now.has q).toNat) 4096 : Nat) : Int), .int .i64 (q : Int), .int .i64 0]) ∧ (L = [] → q = 0) ∧ (L ≠ [] → 1 ≤ q ∧ Low s (q - 1)) ∧ Below w.heap.size w w' := by
  have hle := sumTo_bool s.cur.now.has 4096
  obtain ⟨k, p, l, ht, rfl, hlow, hp, hI, hE, hr⟩ := t.use hg bo.good
  have hv := bo.good.view s.us.length
  rw [view_len] at hv
  have h2 := bo.good.n5
  have hpq := vst_pq (k := k) [] l ⟨0, 0, 0⟩
  have hn := vst_pairs (k := k) [] l ⟨0, 0, 0⟩
  by_cases hp0 : p = 0
  · have hz : sumTo (fun q => (s.cur.now.has q).toNat) 4096 = 0 := by
      rw [sumTo_congr (h := fun _ => 0) (fun q _ => by rw [hE hp0]; rfl), sumTo_zero]
    rcases ht.here with ⟨_, hk, hl⟩ | ⟨h, _⟩
    · subst hk; subst hl
      refine (size_tree bo hg ht hB (by rw [hn, hpq.1]; show 0 + (prs 0 ([] : Its 0)).length + (0 + 1) ≤ _; have : (prs 0 ([] : Its 0)).length = 0 := rfl; omega)).mono ?_
      rintro e w' ⟨rfl, hb⟩
      refine ⟨0, ?_, fun _ => rfl, fun h => absurd rfl h, hb⟩
      unfold szOf
      rw [if_pos hp0, hz]
      rfl
    · exact absurd hp0 h
  · have hi := hI hp0
    have hpg : sumTo (fun q => (s.cur.now.has q).toNat) 4096 = nds k l := hi.pages (N := 4096) (fun q hq => by have := (hv.has q hq).2; omega)
    refine (size_tree bo hg ht hB (by rw [hn, hpq.1]; dsimp only; omega)).mono ?_
    rintro e w' ⟨rfl, hb⟩
    refine ⟨k + 1, ?_, fun h => ?_, fun _ => ⟨by omega, hlow⟩, hb⟩
    · unfold szOf
      rw [if_neg hp0, hn, hpq.1, hpq.2, hpg]
      dsimp only
      rw [Nat.zero_add, Nat.zero_add, Nat.zero_max]
    · have h3 := (root_nds hi.ok).1
      have h4 := nds_pos k l
      rw [h] at h3
      simp at h3
      omega
end
end Go.Proofs.YtcjokkjepgfinaaGreatDoor.Tr
namespace Go.Proofs.YtcjokkjepgfinaaGreatDoor.Tr
set_option maxRecDepth 8000
open Go.RowKit Mem Sk
open Dk (Fr ptr newD newY)
theorem gone_sto0 (n : Nat) : Sk.gone (sto0 n) (newD n) = false := rfl
theorem tree_sto0 (n : Nat) : TreeOf (sto0 n).cur.now.root (sto0 n).cur.now.has (rdOf (sto0 n) (newD n)) [] := .inl ⟨rfl, rfl, fun q => rfl⟩
section
variable {B : Nat} {W w w' : World} {sb db : Nat} {y y' : SLay} {s s' : Sto} {yd yd' : Dk.Lay} {d d' : Dk.Dsk} {m m' : Nat}
set_option maxHeartbeats 1000000 in
theorem made6_any (n : Nat) (w : World) (hT : Tab w) (h4 : 4 ≤ n) (h5 : n ≤ 4096) :
    Calls Tryz.prog 7 #[.int .i64 (n : Int)] w fun e w' => ∃ sb db y yd, e = .returned (pt sb) ∧ Bo w.heap.size w w' sb db y yd (sto0 n) (newD n) 0 := by
  have NW := Lib.hid (Dk.St.new n w (by omega) h5)
  have hst : (lkTo (newD n) (newD n).n 2).stamp ≠ 18446744073709551615 := by
    have e : (newD n).n = n := rfl
    rw [e, lk_new]; show (0 : Nat) ≠ _; omega
  have OP := Lib.hid (fun (w1 : World) (st : Dk.St w.heap.size w w1 (w.heap.size + 2) (newY w.heap.size) (newD n) 0) => open_any st hT hT.1 rfl h4 h5 hst)
  clear hst
  go_enter Tryz.func7, Tryz.ntmps7
  go_wp2_with (first
    | (go_at_call 27; refine (OP.out _ S1.out).mono ?_; rintro e w2 ⟨sb, y, rfl, b2, k2⟩; have B2 := Lib.hid b2; clear b2 k2)
    | (go_at_call 26; refine NW.out.mono ?_; rintro e w1 ⟨rfl, s1⟩; have S1 := Lib.hid s1; clear s1))
  go_ret
  exact ⟨sb, _, y, _, rfl, opened_new n ▸ B2.out⟩
end
structure Tst (n : Nat) (s : Sto) (d : Dk.Dsk) (L : List It) : Prop where
  n : s.n = n
  kept : s.kept = sta0
  on : Sk.gone s d = false
  tree : TreeOf s.cur.now.root s.cur.now.has (rdOf s d) L
theorem Tst.new (n : Nat) : Tst n (sto0 n) (newD n) [] := ⟨rfl, rfl, gone_sto0 n, tree_sto0 n⟩
theorem cntTo_sum (f : Nat → Bool) (n : Nat) : cntTo f n = sumTo (fun q => (f q).toNat) n := by
  induction n with
  | zero => rfl
  | succ n ih => show cntTo f n + _ = sumTo _ n + _; rw [ih]
section
variable {B : Nat} {W w w' : World} {sb db : Nat} {y y' : SLay} {s s' : Sto} {yd yd' : Dk.Lay} {d d' : Dk.Dsk} {m m' n : Nat} {key val : By} {L : List It}
theorem Tst.pages (h : Tst n s d L) (hg : SGood s) : s.left = n - 2 - sumTo (fun q => (s.cur.now.has q).toNat) 4096 := by
  unfold Sto.left
  rw [h.n, cntTo_sum, sumTo_congr (h := fun q => (s.cur.now.has q).toNat)]
  intro q hq
  unfold Sto.used
  rw [h.kept]
  show (s.cur.now.has q || false).toNat = _
  rw [Bool.or_false]
theorem Tst.few (h : Tst n s d L) (hg : SGood s) (hs : isum L < 2672) : sumTo (fun q => (s.cur.now.has q).toNat) 4096 ≤ 1 := by
  have hv := hg.view s.us.length
  rw [view_len] at hv
  have h2 := hg.n5
  exact (h.tree.pages (N := 4096) (fun q hq => by have := (hv.has q hq).2; omega)).2 hs
theorem Tst.room (h : Tst n s d L) (hg : SGood s) (hs : isum L < 2672) (hn : 8 ≤ n) {k : Nat} (hl : Low s k) (hx : s.left < 2 * k + 4) : False := by
  have h1 := h.few hg hs
  have h2 := h.pages hg
  have hk : k = 0 := by
    rcases hl with h | h
    · exact h
    · rcases Nat.eq_zero_or_pos k with e | e
      · exact e
      · have := Nat.pow_le_pow_right (n := 2) (by omega) e
        omega
  omega
theorem Tst.after (h : Tst n s d L) {L2 : List It} {s2 : Sto} (hw : Was s s2) (ht : TreeOf s2.cur.now.root s2.cur.now.has (rdOf s2 d) L2) : Tst n s2 d L2 := ⟨hw.n.trans h.n, hw.kept.trans h.kept, (Was.gone hw d).trans h.on, ht⟩
theorem ChgOk.kf (h : ChgOk B W sb db yd d m w.heap.size y w s L w') : ∃ (s2 : Sto) (y2 : SLay) (m2 : Nat), Bo B W w' sb db y2 yd s2 d m2 ∧ m2 ≤ m + 3000 ∧ Was s s2 ∧ TreeOf s2.cur.now.root s2.cur.now.has (rdOf s2 d) L ∧ Kf (both y yd) w w' (both y2 yd) := by
  obtain ⟨s2, y2, m2, h1, h2, h3, h4, h5⟩ := h.ex
  exact ⟨s2, y2, m2, h1, h2, h3, h4, ⟨h.os, h.tape, h.output, h.size, fun q hq hp => h.keep q hq hp⟩, h5⟩
theorem Put_small {A1 A2 : Option Addr} {c1 c2 : Nat} (bo : Bo B W w sb db y yd s d m) (t : Tst n s d L) (h1 : RdF w (both y yd) (.slice A1 key.length c1) key) (h2 : RdF w (both y yd) (.slice A2 val.length c2) val)
    (hk1 : 1 ≤ key.length) (hk2 : key.length ≤ 256) (hv2 : val.length ≤ 1024) (hm : m < 80000000) (hs : isum L < 2672) (hn : 8 ≤ n) (hne : getK L key ≠ some val) :
    Calls Tryz.prog 11 #[pt sb, .slice A1 key.length c1, .slice A2 val.length c2] w fun e w' => e = .returned (.int .i64 0) ∧ ∃ (s2 : Sto) (y2 : SLay) (m2 : Nat), Bo B W w' sb db y2 yd s2 d m2 ∧ m2 ≤ m + 3000 ∧ Tst n s2 d (putK L key val) ∧ Kf (both y yd) w w' (both y2 yd) := by
  refine (Put_tree bo t.on t.tree h1 h2 hk1 hk2 hv2 bo.base hm).mono ?_
  rintro e w' (⟨h, _⟩ | ⟨_, rfl, ok⟩ | ⟨_, _, _, k, hx, hl⟩)
  · exact absurd h hne
  · obtain ⟨s2, y2, m2, g1, g2, g3, g4, g5⟩ := ok.kf
    exact ⟨rfl, s2, y2, m2, g1, g2, t.after g3 g4, g5⟩
  · exact (t.room bo.good hs hn hl hx).elim
theorem Delete_small {A3 : Option Addr} {c3 : Nat} (bo : Bo B W w sb db y yd s d m) (t : Tst n s d L) (h3 : RdF w (fun _ => False) (.slice A3 key.length c3) key) (hm : m < 80000000) (hs : isum L < 2672) (hn : 8 ≤ n) (hh : hasK L key = true) :
    Calls Tryz.prog 14 #[pt sb, .slice A3 key.length c3] w fun e w' => e = .returned (.tuple #[.bool true, .int .i64 0]) ∧ ∃ (s2 : Sto) (y2 : SLay) (m2 : Nat), Bo B W w' sb db y2 yd s2 d m2 ∧ m2 ≤ m + 3000 ∧ Tst n s2 d (delK L key) ∧ Kf (both y yd) w w' (both y2 yd) := by
  refine (Delete_tree bo t.on t.tree h3 bo.base hm).mono ?_
  rintro e w' (⟨h, _⟩ | ⟨_, rfl, ok⟩ | ⟨_, _, _, k, hx, hl⟩)
  · rw [hh] at h; cases h
  · obtain ⟨s2, y2, m2, g1, g2, g3, g4, g5⟩ := ok.kf
    exact ⟨rfl, s2, y2, m2, g1, g2, t.after g3 g4, g5⟩
  · exact (t.room bo.good hs hn hl hx).elim
theorem Size_small (bo : Bo B W w sb db y yd s d m) (t : Tst n s d L) (hs : isum L < 2672) (hL : L ≠ []) :
    Calls Tryz.prog 22 #[pt sb] w fun e w' => e = .returned (.tuple #[.int .i64 (L.length : Int), .int .i64 1, .int .i64 1, .int .i64 0]) ∧ Below w.heap.size w w' := by
  have h1 := t.few bo.good hs
  have hl := len_le_isum L
  refine (Size_tree bo t.on t.tree bo.base (by omega)).mono ?_
  rintro e w' ⟨q, rfl, -, hq, hb⟩
  obtain ⟨q1, q2⟩ := hq hL
  have h3 : sumTo (fun q => (s.cur.now.has q).toNat) 4096 = 1 := by
    rcases t.tree with ⟨_, rfl, _⟩ | ⟨k, l, ht, rfl⟩
    · exact absurd rfl hL
    · have hv := bo.good.view s.us.length
      rw [view_len] at hv
      have h2 := bo.good.n5
      have := ht.pages (N := 4096) (fun q hq => by have := (hv.has q hq).2; omega)
      have h4 := nds_pos k l
      omega
  have hq1 : q = 1 := by
    rcases q2 with h | h
    · omega
    · rcases Nat.lt_or_ge q 2 with e | e
      · omega
      · have := Nat.pow_le_pow_right (n := 2) (by omega) (show 1 ≤ q - 1 by omega)
        omega
  rw [h3, hq1]
  exact ⟨rfl, hb⟩
end
theorem rdf_lit {F : Nat → Prop} (w : World) (l : By) (t : TypeId) (fr : Nat × Nat) (h : l.length ≤ maxLen) (hF : ¬ F w.heap.size) : RdF (w.alloc (.cells (bcs l) t fr)) F (.slice (some ⟨w.heap.size, 0, none⟩) l.length l.length) l :=
  ⟨_, _, rfl, Nat.le_refl _, h, (fun e => by cases e), fun _ => ⟨w.heap.size, 0, rfl, by simp, hF, fun i hi => by
    rw [cell_of_row _ _ _ _ _ _ (heap_alloc_new w _), Nat.zero_add, bcs_at, List.getElem?_eq_getElem hi]; rfl⟩⟩
section
variable {B : Nat} {W w w' : World} {sb db : Nat} {y y' : SLay} {s s' : Sto} {yd yd' : Dk.Lay} {d d' : Dk.Dsk} {m m' n : Nat} {L L2 : List It}
theorem gP (bo : Bo B W w sb db y yd s d m) (t : Tst n s d L) (hn : 8 ≤ n) (k v : UInt8) (ck cv : Value) (hck : bv k = ck) (hcv : bv v = cv) (f1 f2 : Nat × Nat) (hm : m < 70000000) (hs : isum L < 2672) (hne : getK L [k] ≠ some [v]) (hL : putK L [k] [v] = L2) :
    Calls Tryz.prog 11 #[pt sb, .slice (some ⟨w.heap.size, 0, none⟩) 1 1, .slice (some ⟨w.heap.size + 1, 0, none⟩) 1 1] ((w.alloc (.cells #[ck] 5 f1)).alloc (.cells #[cv] 5 f2)) fun e w' => e = .returned (.int .i64 0) ∧ ∃ (s2 : Sto) (y2 : SLay) (m2 : Nat), Bo B W w' sb db y2 yd s2 d m2 ∧ m2 ≤ m + 3000 ∧ Tst n s2 d L2 ∧ Kf (both y yd) w w' (both y2 yd) := by
  subst hck hcv hL
  have h0 : ¬ both y yd w.heap.size := fun h => by have := both_lt bo h; omega
  have b1 : Below w.heap.size w (w.alloc (.cells #[bv k] 5 f1)) := box1 w _
  have bo1 := bo.keep b1
  have r1 : RdF (w.alloc (.cells #[bv k] 5 f1)) (both y yd) (.slice (some ⟨w.heap.size, 0, none⟩) 1 1) [k] := rdf_lit w [k] 5 f1 (by unfold maxLen; simp) h0
  obtain ⟨w1, hw1⟩ : ∃ X, X = w.alloc (.cells #[bv k] 5 f1) := ⟨_, rfl⟩
  have hs1 : w1.heap.size = w.heap.size + 1 := by rw [hw1]; simp
  rw [← hw1] at b1 bo1 r1 ⊢
  rw [← hs1]
  have b2 : Below w1.heap.size w1 (w1.alloc (.cells #[bv v] 5 f2)) := box1 w1 _
  have r2 : RdF (w1.alloc (.cells #[bv v] 5 f2)) (both y yd) (.slice (some ⟨w1.heap.size, 0, none⟩) 1 1) [v] := rdf_lit w1 [v] 5 f2 (by unfold maxLen; simp) (fun h => by have := both_lt bo1 h; omega)
  refine (Put_small (key := [k]) (val := [v]) (bo1.keep b2) t (r1.bel b2) r2 (by simp) (by simp) (by simp) (by omega) hs hn hne).mono ?_
  rintro e w' ⟨rfl, s2, y2, m2, g1, g2, g3, g4⟩
  exact ⟨rfl, s2, y2, m2, g1, g2, g3, (Kf.ofBelow _ (b1.trans (b2.mono b1.size))).trans g4⟩
theorem gGet (bo : Bo B W w sb db y yd s d m) (t : Tst n s d L) (k : UInt8) (ck : Value) (hck : bv k = ck) (f1 : Nat × Nat) {l : By} (hg : getK L [k] = some l) (hh : hasK L [k] = true) :
    Calls Tryz.prog 16 #[pt sb, .slice (some ⟨w.heap.size, 0, none⟩) 1 1] (w.alloc (.cells #[ck] 5 f1)) fun e w' => ∃ v, e = .returned (.tuple #[v, .bool true, .int .i64 0]) ∧ Mem.Own 5 w' w.heap.size v l ∧ Below w.heap.size w w' := by
  subst hck
  have b1 : Below w.heap.size w (w.alloc (.cells #[bv k] 5 f1)) := box1 w _
  have r1 : RdF (w.alloc (.cells #[bv k] 5 f1)) (fun _ => False) (.slice (some ⟨w.heap.size, 0, none⟩) 1 1) [k] := rdf_lit w [k] 5 f1 (by unfold maxLen; simp) (fun h => h)
  refine (Get_tree (key := [k]) (bo.keep b1) t.on t.tree r1).mono ?_
  rw [hh]
  rintro e w' ⟨v, rfl, ho, -, hb⟩
  exact ⟨v, rfl, (ho l hg).mono b1.size, b1.trans (hb.mono b1.size)⟩
theorem gDel (bo : Bo B W w sb db y yd s d m) (t : Tst n s d L) (hn : 8 ≤ n) (k : UInt8) (ck : Value) (hck : bv k = ck) (f1 : Nat × Nat) (hm : m < 70000000) (hs : isum L < 2672) (hh : hasK L [k] = true) (hL : delK L [k] = L2) :
    Calls Tryz.prog 14 #[pt sb, .slice (some ⟨w.heap.size, 0, none⟩) 1 1] (w.alloc (.cells #[ck] 5 f1)) fun e w' => e = .returned (.tuple #[.bool true, .int .i64 0]) ∧ ∃ (s2 : Sto) (y2 : SLay) (m2 : Nat), Bo B W w' sb db y2 yd s2 d m2 ∧ m2 ≤ m + 3000 ∧ Tst n s2 d L2 ∧ Kf (both y yd) w w' (both y2 yd) := by
  subst hck hL
  have b1 : Below w.heap.size w (w.alloc (.cells #[bv k] 5 f1)) := box1 w _
  have r1 : RdF (w.alloc (.cells #[bv k] 5 f1)) (fun _ => False) (.slice (some ⟨w.heap.size, 0, none⟩) 1 1) [k] := rdf_lit w [k] 5 f1 (by unfold maxLen; simp) (fun h => h)
  refine (Delete_small (key := [k]) (bo.keep b1) t r1 (by omega) hs hn hh).mono ?_
  rintro e w' ⟨rfl, s2, y2, m2, g1, g2, g3, g4⟩
  exact ⟨rfl, s2, y2, m2, g1, g2, g3, (Kf.ofBelow _ b1).trans g4⟩
theorem gNo (bo : Bo B W w sb db y yd s d m) (t : Tst n s d L) (k : UInt8) (ck : Value) (hck : bv k = ck) (f1 : Nat × Nat) (hm : m < 70000000) (hh : hasK L [k] = false) :
    Calls Tryz.prog 14 #[pt sb, .slice (some ⟨w.heap.size, 0, none⟩) 1 1] (w.alloc (.cells #[ck] 5 f1)) fun e w' => e = .returned (.tuple #[.bool false, .int .i64 0]) ∧ Below w.heap.size w w' := by
  subst hck
  have b1 : Below w.heap.size w (w.alloc (.cells #[bv k] 5 f1)) := box1 w _
  have r1 : RdF (w.alloc (.cells #[bv k] 5 f1)) (fun _ => False) (.slice (some ⟨w.heap.size, 0, none⟩) 1 1) [k] := rdf_lit w [k] 5 f1 (by unfold maxLen; simp) (fun h => h)
  refine (Delete_tree (key := [k]) (bo.keep b1) t.on t.tree r1 (bo.keep b1).base (by omega)).mono ?_
  rintro e w' (⟨_, rfl, hb⟩ | ⟨h, _⟩ | ⟨h, _⟩)
  · exact ⟨rfl, b1.trans (hb.mono b1.size)⟩
  · rw [hh] at h; cases h
  · rw [hh] at h; cases h
end
def q1 : List It := [([98], [50])]
def q2 : List It := [([97], [49]), ([98], [50])]
def q3 : List It := [([97], [49]), ([98], [51])]
def q4 : List It := [([98], [51])]
theorem nq : putK [] [98] [50] = q1 ∧ putK q1 [97] [49] = q2 ∧ putK q2 [98] [51] = q3 ∧ delK q3 [97] = q4 ∧ hasK q3 [98] = true ∧ getK q3 [98] = some [51] ∧ hasK q3 [97] = true ∧ hasK q4 [97] = false ∧ getK [] [98] ≠ some [50] ∧ getK q1 [97] ≠ some [49] ∧ getK q2 [98] ≠ some [51] ∧ isum [] < 2672 ∧ isum q1 < 2672 ∧ isum q2 < 2672 ∧ isum q3 < 2672 := by decide +kernel
set_option maxHeartbeats 4000000 in
theorem goes6_any (w : World) (hT : Tab w) : Calls Tryz.prog 23 #[] w fun e w' => e = .returned (.bool true) ∧ Below w.heap.size w w' := by
  have kc := fun (w : World) (C : Array Value) (n c : Nat) => Lib.run_convert_bytes_const (P := Tryz.prog) w 32 5 C n c Tryz.underlying32 Tryz.underlying5
  have kc2 := fun (w : World) (o : Obj) (C : Array Value) (n c : Nat) => by
    have h := Lib.run_convert_bytes_const (P := Tryz.prog) (w.alloc o) 32 5 C n c Tryz.underlying32 Tryz.underlying5
    rw [show (w.alloc o).heap.size = w.heap.size + 1 by simp] at h
    exact h
  have MA := Lib.hid (made6_any 30 w hT (by omega) (by omega))
  clear hT
  go_enter Tryz.func23, Tryz.ntmps23
  have h51 : (str [51]).toList = [51] := str_toList _
  go_wp2_with (first
    | (go_at_call 14; refine (gNo B6.out T6.out 97 _ rfl _ (by have := M6.out; omega) nq.2.2.2.2.2.2.2.1).mono ?_; rintro e w7 ⟨rfl, b7⟩; have B7 := Lib.hid (B6.out.keep b7); have K7 : (convert 32 9 (.slice A4 1 c4)).run Tryz.prog w7 = .ok (.string (str [51])) w7 := run_str_rd w7 ((R6.out.bel b7).rdd); clear b7)
    | (go_at_call 14; refine (gDel B5.out T3.out (by omega) 97 _ rfl _ (by have := M3.out; omega) nq.2.2.2.2.2.2.2.2.2.2.2.2.2.2 nq.2.2.2.2.2.2.1 nq.2.2.2.1).mono ?_; rintro e w6 ⟨rfl, s6, y6, m6, b6, mm6, t6, k6⟩; have B6 := Lib.hid b6; have M6 := Lib.hid (show m6 ≤ 12000 by have := M3.out; omega); have T6 := Lib.hid t6; have R6 := Lib.hid (R5.out.kf k6); clear b6 mm6 t6 k6)
    | (go_at_call 22; refine (Size_small B4.out T3.out nq.2.2.2.2.2.2.2.2.2.2.2.2.2.2 (by decide)).mono ?_; rintro e w5 ⟨rfl, b5⟩; have B5 := Lib.hid (B4.out.keep b5); have R5 := Lib.hid (R4.out.bel b5); clear b5)
    | (go_at_call 16; refine (gGet B3.out T3.out 98 _ rfl _ nq.2.2.2.2.2.1 nq.2.2.2.2.1).mono ?_; rintro e w4 ⟨v4, rfl, o4, b4⟩; have r4 := RdF.own o4 (F := both y3 yd0) (fun q hq => both_lt B3.out hq); obtain ⟨A4, c4, rfl⟩ := r4.form; have R4 := Lib.hid r4; have B4 := Lib.hid (B3.out.keep b4); clear b4 o4 r4)
    | (go_at_call 11; refine (gP B2.out T2.out (by omega) 98 51 _ _ rfl rfl _ _ (by have := M2.out; omega) nq.2.2.2.2.2.2.2.2.2.2.2.2.2.1 nq.2.2.2.2.2.2.2.2.2.2.1 nq.2.2.1).mono ?_; rintro e w3 ⟨rfl, s3, y3, m3, b3, mm3, t3, k3⟩; have B3 := Lib.hid b3; have M3 := Lib.hid (show m3 ≤ 9000 by have := M2.out; omega); have T3 := Lib.hid t3; clear b3 mm3 t3 k3)
    | (go_at_call 11; refine (gP B1.out T1.out (by omega) 97 49 _ _ rfl rfl _ _ (by have := M1.out; omega) nq.2.2.2.2.2.2.2.2.2.2.2.2.1 nq.2.2.2.2.2.2.2.2.2.1 nq.2.1).mono ?_; rintro e w2 ⟨rfl, s2, y2, m2, b2, mm2, t2, k2⟩; have B2 := Lib.hid b2; have M2 := Lib.hid (show m2 ≤ 6000 by have := M1.out; omega); have T2 := Lib.hid t2; clear b2 mm2 t2 k2)
    | (go_at_call 11; refine (gP B0.out (Tst.new 30) (by omega) 98 50 _ _ rfl rfl _ _ (by omega) nq.2.2.2.2.2.2.2.2.2.2.2.1 nq.2.2.2.2.2.2.2.2.1 nq.1).mono ?_; rintro e w1 ⟨rfl, s1, y1, m1, b1, mm1, t1, k1⟩; have B1 := Lib.hid b1; have M1 := Lib.hid (show m1 ≤ 3000 by omega); have T1 := Lib.hid t1; clear b1 mm1 t1 k1)
    | (go_at_call 7; refine MA.out.mono ?_; rintro e w0 ⟨sb, db, y0, yd0, rfl, b0⟩; have B0 := Lib.hid b0; clear b0))
  go_ret
  exact ⟨rfl, B7.out.st.bel⟩
end Go.Proofs.YtcjokkjepgfinaaGreatDoor.Tr
