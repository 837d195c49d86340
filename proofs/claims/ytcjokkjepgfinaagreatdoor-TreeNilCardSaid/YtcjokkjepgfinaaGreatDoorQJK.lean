import Derived.Test.YtcjokkjepgfinaaGreatDoorQSN
import Derived.Test.YtcjokkjepgfinaaGreatDoorQJJ
set_option linter.unusedVariables false
set_option linter.unusedSimpArgs false
namespace Go.Proofs.YtcjokkjepgfinaaGreatDoor.Sk
set_option maxRecDepth 8000
open Go.RowKit Mem Go.ChangeMaps
open Dk (cod elem cod_inj elem_mk elem_inv key key_inj wf_key keyed3 MapIs Fr ptr hmf cell_alloc cell_alloc_new zero42 IsD Dsk Lay drewN_cell Kp ref_zero newD newY)
theorem Read_nil (w : World) (i : Int) : Calls Tryz.prog 57 #[.pointer none, .int .i64 i] w fun e w' => e = .returned (.tuple #[.slice none 0 0, .int .i64 8]) ∧ Below w.heap.size w w' := by
  obtain ⟨W, hW⟩ : ∃ W, W = (((w.alloc (.cells #[.pointer none] 23)).alloc (.cells #[.int .i64 i] 3)).alloc (.cells #[.slice none 0 0] 32)) := ⟨_, rfl⟩
  have hx : Bx3 w W (.pointer none) (.int .i64 i) (.slice none 0 0) := hW ▸ bx3 w _ _ _ _ _ _
  have HB := Lib.hid hx.bel
  have HW := Lib.hid hW
  have a2 := hx.c3
  have hmk := hmf
  clear hx hW
  go_enter Tryz.func57, Tryz.ntmps57
  go_wp2_with (go_at_call 44; rw [← HW.out]; refine (ask_nil _ _).mono ?_; rintro e w1 ⟨rfl, rfl⟩)
  go_ret2
  exact ⟨rfl, HB.out⟩
end Go.Proofs.YtcjokkjepgfinaaGreatDoor.Sk
namespace Go.Proofs.YtcjokkjepgfinaaGreatDoor.Tr
set_option maxRecDepth 8000
open Go.RowKit Mem Sk
open Dk (Fr ptr newD newY)
theorem rd8 (w : World) : ∀ X, Below w.heap.size w X → Calls Tryz.prog 57 #[.pointer none, .int .i64 0] X fun e w' => e = .returned (.tuple #[.slice none 0 0, .int .i64 8]) ∧ Below X.heap.size X w' := fun X _ => Read_nil X 0
theorem own6 {w : World} {base : Nat} {v : Value} {l : List UInt8} (h : Mem.Own 5 w base v l) (hl : 0 < l.length) : ∃ g c, v = .slice (some ⟨g, 0, none⟩) l.length c ∧ base ≤ g ∧ g < w.heap.size ∧ Rd w w.heap.size (some ⟨g, 0, none⟩) c l ∧ (∀ j (hj : j < l.length), w.cell? ⟨g, j, none⟩ = some (bv l[j])) ∧ ∀ j, w.frozen? ⟨g, j, none⟩ = false := by
  have hlt := World.ownsRow.lt h
  have hf := h.form
  have hc := @Dk.own_cell
  rcases h.2 with ⟨_, h0⟩ | ⟨g, cap, cur, rfl, hb, hh, _⟩
  · omega
  · refine ⟨g, cap, rfl, hb, (hlt g rfl).2, ?_, fun j hj => hc h j hj, fun j => ?_⟩
    · obtain ⟨A, c, e, hr, _⟩ := hf
      injection e with e1 e2 e3
      rw [e1, e3]; exact hr
    · simp [World.frozen?, hh]
section
variable {B : Nat} {W w w' : World} {sb db : Nat} {y y' : SLay} {s s' : Sto} {yd yd' : Dk.Lay} {d d' : Dk.Dsk} {m m' : Nat}
theorem poke6 (bo : Bo B W w sb db y yd s d m) (p : Addr) (u : Value) (hf : ¬ both y yd p.block) (hB : B ≤ p.block) : Bo B W (w.setCell p u) sb db y yd s d m :=
  ⟨bo.st.poke p u (fun e => hf (.inr e)) hB, bo.is.poke (fun e => hf (.inl e)) u, bo.good, bo.apart, bo.low, bo.nn, bo.sm, bo.tabW, bo.posB⟩
theorem gX (bo : Bo B W w sb db y yd s d m) (t : Tst 30 s d []) (hm : m < 70000000) :
    Calls Tryz.prog 11 #[pt sb, .slice (some ⟨w.heap.size, 0, none⟩) 2 2, .slice (some ⟨w.heap.size + 1, 0, none⟩) 2 2] ((w.alloc (.cells #[.int .u8 97, .int .u8 98] 5 (2, 3))).alloc (.cells #[.int .u8 99, .int .u8 100] 5 (2, 3))) fun e w' => e = .returned (.int .i64 0) ∧ ∃ (s2 : Sto) (y2 : SLay) (m2 : Nat), Bo B W w' sb db y2 yd s2 d m2 ∧ m2 ≤ m + 3000 ∧ Tst 30 s2 d [([97, 98], [99, 100])] ∧ (w'.cell? ⟨w.heap.size, 0, none⟩ = some (.int .u8 97) ∧ w'.frozen? ⟨w.heap.size, 0, none⟩ = false) ∧ (w'.cell? ⟨w.heap.size + 1, 0, none⟩ = some (.int .u8 99) ∧ w'.frozen? ⟨w.heap.size + 1, 0, none⟩ = false) ∧ ¬ both y2 yd w.heap.size ∧ ¬ both y2 yd (w.heap.size + 1) ∧ B ≤ w.heap.size ∧
      (convert 32 9 (.slice (some ⟨w.heap.size, 0, none⟩) 2 2)).run Tryz.prog w' = .ok (.string (str [97, 98])) w' ∧ (convert 32 9 (.slice (some ⟨w.heap.size + 1, 0, none⟩) 2 2)).run Tryz.prog w' = .ok (.string (str [99, 100])) w' := by
  have h0 : ¬ both y yd w.heap.size := fun h => by have := both_lt bo h; omega
  have b1 : Below w.heap.size w (w.alloc (.cells #[.int .u8 97, .int .u8 98] 5 (2, 3))) := box1 w _
  have bo1 := bo.keep b1
  have r1 : RdF (w.alloc (.cells #[.int .u8 97, .int .u8 98] 5 (2, 3))) (both y yd) (.slice (some ⟨w.heap.size, 0, none⟩) 2 2) [97, 98] := rdf_lit w [97, 98] 5 (2, 3) (by unfold maxLen; simp) h0
  have n1 : (w.alloc (.cells #[.int .u8 97, .int .u8 98] 5 (2, 3))).heap[w.heap.size]? = some (.cells #[.int .u8 97, .int .u8 98] 5 (2, 3)) := heap_alloc_new w _
  obtain ⟨w1, hw1⟩ : ∃ X, X = w.alloc (.cells #[.int .u8 97, .int .u8 98] 5 (2, 3)) := ⟨_, rfl⟩
  have hs1 : w1.heap.size = w.heap.size + 1 := by rw [hw1]; simp
  rw [← hw1] at b1 bo1 r1 n1 ⊢
  rw [← hs1]
  have h1 : ¬ both y yd w1.heap.size := fun h => by have := both_lt bo1 h; omega
  have b2 : Below w1.heap.size w1 (w1.alloc (.cells #[.int .u8 99, .int .u8 100] 5 (2, 3))) := box1 w1 _
  have r2 : RdF (w1.alloc (.cells #[.int .u8 99, .int .u8 100] 5 (2, 3))) (both y yd) (.slice (some ⟨w1.heap.size, 0, none⟩) 2 2) [99, 100] := rdf_lit w1 [99, 100] 5 (2, 3) (by unfold maxLen; simp) h1
  have n2 : (w1.alloc (.cells #[.int .u8 99, .int .u8 100] 5 (2, 3))).heap[w1.heap.size]? = some (.cells #[.int .u8 99, .int .u8 100] 5 (2, 3)) := heap_alloc_new w1 _
  refine (Put_small (key := [97, 98]) (val := [99, 100]) (bo1.keep b2) t (r1.bel b2) r2 (by simp) (by simp) (by simp) (by omega) (by decide) (by omega) (by decide +kernel)).mono ?_
  rintro e w' ⟨rfl, s2, y2, m2, g1, g2, g3, g4⟩
  have hlt1 : w.heap.size < (w1.alloc (.cells #[.int .u8 99, .int .u8 100] 5 (2, 3))).heap.size := by simp; omega
  have hlt2 : w1.heap.size < (w1.alloc (.cells #[.int .u8 99, .int .u8 100] 5 (2, 3))).heap.size := by simp
  have e1 := (g4.free hlt1 h0).2.trans ((b2.block w.heap.size (by omega)).trans n1)
  have e2 := (g4.free hlt2 h1).2.trans n2
  exact ⟨rfl, s2, y2, m2, g1, g2, g3, ⟨by unfold World.cell?; rw [e1]; rfl, by simp [World.frozen?, e1]⟩, ⟨by unfold World.cell?; rw [e2]; rfl, by simp [World.frozen?, e2]⟩, (g4.free hlt1 h0).1, (g4.free hlt2 h1).1, bo.base, run_str_rd w' (((r1.bel b2).kf g4).rdd), run_str_rd w' ((r2.kf g4).rdd)⟩
theorem gY (bo : Bo B W w sb db y yd s d m) (t : Tst 30 s d [([97, 98], [99, 100])]) (f1 : Nat × Nat) {N : Nat} (hN : N = w.heap.size) :
    Calls Tryz.prog 16 #[pt sb, .slice (some ⟨N, 0, none⟩) 2 2] (w.alloc (.cells #[.int .u8 97, .int .u8 98] 5 f1)) fun e w' => ∃ g c, e = .returned (.tuple #[.slice (some ⟨g, 0, none⟩) 2 c, .bool true, .int .i64 0]) ∧ Bo B W w' sb db y yd s d m ∧ ¬ both y yd g ∧ B ≤ g ∧ (convert 32 9 (.slice (some ⟨g, 0, none⟩) 2 c)).run Tryz.prog w' = .ok (.string (str [99, 100])) w' ∧ w'.cell? ⟨g, 1, none⟩ = some (.int .u8 100) ∧ w'.frozen? ⟨g, 1, none⟩ = false := by
  subst hN
  have b1 : Below w.heap.size w (w.alloc (.cells #[.int .u8 97, .int .u8 98] 5 f1)) := box1 w _
  have r1 : RdF (w.alloc (.cells #[.int .u8 97, .int .u8 98] 5 f1)) (fun _ => False) (.slice (some ⟨w.heap.size, 0, none⟩) 2 2) [97, 98] := rdf_lit w [97, 98] 5 f1 (by unfold maxLen; simp) (fun h => h)
  have hh : hasK [(([97, 98] : By), ([99, 100] : By))] [97, 98] = true := by decide +kernel
  refine (Get_tree (key := [97, 98]) (bo.keep b1) t.on t.tree r1).mono ?_
  rw [hh]
  rintro e w' ⟨v, rfl, ho, -, hb⟩
  obtain ⟨g, c, rfl, hg, hlt, hr, hc, hf⟩ := own6 (ho [99, 100] (by decide +kernel)) (by simp)
  have hs := b1.size
  exact ⟨g, c, rfl, (bo.keep b1).keep hb, fun h => by have := both_lt (bo.keep b1) h; omega, by have := (bo.keep b1).base; omega, run_str_rd w' hr, hc 1 (by simp), hf 1⟩
end
set_option maxHeartbeats 4000000 in
theorem treeNil_walk (A1 : Option Addr) (n1 c1 : Nat) (l1 : List UInt8) (hl1 : l1.length = n1) (A2 : Option Addr) (n2 c2 : Nat) (l2 : List UInt8) (hl2 : l2.length = n2) (w : World) (hT : Tab w) (wr1 : Rd w w.heap.size A1 c1 l1) (wr2 : Rd w w.heap.size A2 c2 l2) : Calls Tryz.prog 6 #[.slice A1 n1 c1, .slice A2 n2 c2] w fun e w' => e = .returned (.bool true) ∧ Below w.heap.size w w' := by
  have kc := fun (w : World) (C : Array Value) (n c : Nat) => Lib.run_convert_bytes_const (P := Tryz.prog) w 32 5 C n c Tryz.underlying32 Tryz.underlying5
  have kc2 := fun (w : World) (o : Obj) (C : Array Value) (n c : Nat) => by
    have h := Lib.run_convert_bytes_const (P := Tryz.prog) (w.alloc o) 32 5 C n c Tryz.underlying32 Tryz.underlying5
    rw [show (w.alloc o).heap.size = w.heap.size + 1 by simp] at h
    exact h
  have kc3 := fun (w : World) (p q : Addr) (u v : Value) (C : Array Value) (n c : Nat) => by
    have h := Lib.run_convert_bytes_const (P := Tryz.prog) ((w.setCell p u).setCell q v) 32 5 C n c Tryz.underlying32 Tryz.underlying5
    rw [show ((w.setCell p u).setCell q v).heap.size = w.heap.size by simp] at h
    exact h
  have kc4 := fun (w : World) (p : Addr) (u : Value) (C : Array Value) (n c : Nat) => by
    have h := Lib.run_convert_bytes_const (P := Tryz.prog) (w.setCell p u) 32 5 C n c Tryz.underlying32 Tryz.underlying5
    rw [show (w.setCell p u).heap.size = w.heap.size by simp] at h
    exact h
  have HT := Lib.hid hT
  clear hT hl1 hl2 wr1 wr2
  go_enter Tryz.func6, Tryz.ntmps6
  have h99 : (str [99, 100]).toList = [99, 100] := str_toList _
  have h97 : (str [97, 98]).toList = [97, 98] := str_toList _
  go_wp2_with (first
    | (go_at_call 23; refine (goes6_any _ B3.out.tab).mono ?_; rintro e w4 ⟨rfl, b4⟩; have B4 := Lib.hid (B3.out.keep b4); clear b4)
    | (go_at_call 16; refine (gY (poke6 B2.out ⟨g2, 1, none⟩ (.int .u8 122) N2.out G2.out) T1.out _ (by simp)).mono ?_; rintro e w3 ⟨g3, c3, rfl, b3, n3, i3, k3, p3, q3⟩; have B3 := Lib.hid b3; clear b3 n3 i3)
    | (go_at_call 16; refine (gY (poke6 (poke6 B1.out ⟨_, 0, none⟩ (.int .u8 122) P1.out.1 P1.out.2.2) ⟨_, 0, none⟩ (.int .u8 122) P1.out.2.1 (Nat.le_succ_of_le P1.out.2.2)) T1.out _ (by simp)).mono ?_; rintro e w2 ⟨g2, c2', rfl, b2, n2', i2, k2, p2, q2⟩; have B2 := Lib.hid b2; have N2 := Lib.hid n2'; have G2 := Lib.hid i2; clear b2 n2' i2)
    | (go_at_call 11; refine (gX B0.out (Tst.new 30) (by omega)).mono ?_; rintro e w1 ⟨rfl, s1, y1, m1, b1, mm1, t1, ⟨x0, zx⟩, ⟨y0', zy⟩, nx, ny, hB1, kx, ky⟩; have B1 := Lib.hid b1; have T1 := Lib.hid t1; have P1 := Lib.hid (And.intro nx (And.intro ny hB1)); clear b1 mm1 t1 nx ny hB1)
    | (go_at_call 7; refine (made6_any 30 we (Fm.tab_low HT.out X5.out) (by omega) (by omega)).mono ?_; rintro e w0 ⟨sb, db, y0, yd0, rfl, b0⟩; have B0 := Lib.hid b0; clear b0)
    | (go_at_call 11; refine (put_not (ps := none) (n := 8) (by decide) (rd8 wd)).mono ?_; rintro e we ⟨rfl, z5⟩; have X5 := Lib.hid (X4.out.trans (z5.mono X4.out.size)); clear z5)
    | (go_at_call 22; refine (size_not (ps := none) (n := 8) (by decide) (by decide) (rd8 wc)).mono ?_; rintro e wd ⟨rfl, z4⟩; have X4 := Lib.hid (X3.out.trans (z4.mono X3.out.size)); clear z4)
    | (go_at_call 17; refine (range_not (ps := none) (n := 8) (by decide) (by decide) (rd8 wb)).mono ?_; rintro e wc ⟨rfl, z3⟩; have X3 := Lib.hid (X2.out.trans (z3.mono X2.out.size)); clear z3)
    | (go_at_call 14; refine (delete_not (ps := none) (n := 8) (by decide) (rd8 wa)).mono ?_; rintro e wb ⟨rfl, z2⟩; have X2 := Lib.hid (X1.out.trans (z2.mono X1.out.size)); clear z2)
    | (go_at_call 16; refine (get_not (ps := none) (n := 8) (by decide) (rd8 w)).mono ?_; rintro e wa ⟨rfl, z1⟩; have X1 := Lib.hid z1; clear z1))
  go_ret
  exact ⟨rfl, X5.out.trans (B4.out.st.bel.mono X5.out.size)⟩
end Go.Proofs.YtcjokkjepgfinaaGreatDoor.Tr
