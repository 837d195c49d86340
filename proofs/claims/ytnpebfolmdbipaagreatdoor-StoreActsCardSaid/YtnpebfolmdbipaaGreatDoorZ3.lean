import Derived.Test.YtnpebfolmdbipaaGreatDoorZ2
namespace Go.Proofs.YtnpebfolmdbipaaGreatDoor.Sk
set_option maxRecDepth 8000
set_option linter.unusedVariables false
set_option linter.unusedSimpArgs false
open Go.RowKit Mem Go.ChangeMaps
open Dk (cod elem cod_inj elem_mk elem_inv key key_inj wf_key keyed3 MapIs Fr ptr hmf cell_alloc cell_alloc_new zero42 IsD Dsk Lay drewN_cell Kp ref_zero newD newY)
/-! ### Calls of nil -/
theorem Dead_nil (w : World) : Calls Tryz.prog 29 #[.pointer none] w fun e w' => e = .returned (.bool false) ∧ w' = w := by
  go_enter Tryz.func29, Tryz.ntmps29
  go_wp2
  go_ret
  exact ⟨rfl, rfl⟩
theorem Read_nil (w : World) (i : Int) : Calls Tryz.prog 39 #[.pointer none, .int .i64 i] w fun e w' => e = .returned (.tuple #[.slice none 0 0, .int .i64 8]) ∧ Below w.heap.size w w' := by
  obtain ⟨W, hW⟩ : ∃ W, W = (((w.alloc (.cells #[.pointer none] 25)).alloc (.cells #[.int .i64 i] 3)).alloc (.cells #[.slice none 0 0] 36)) := ⟨_, rfl⟩
  have hx : Bx3 w W (.pointer none) (.int .i64 i) (.slice none 0 0) := hW ▸ bx3 w _ _ _ _ _ _
  have HB := Lib.hid hx.bel
  have HW := Lib.hid hW
  have a2 := hx.c3
  have hmk := hmf
  clear hx hW
  go_enter Tryz.func39, Tryz.ntmps39
  go_wp2_with (go_at_call 47; rw [← HW.out]; refine (ask_nil _ _).mono ?_; rintro e w1 ⟨rfl, rfl⟩)
  go_ret2
  exact ⟨rfl, HB.out⟩
theorem Take_nil (w : World) (A : Option Addr) (n c : Nat) : Calls Tryz.prog 12 #[.pointer none, .slice A n c] w fun e w' => e = .returned (.tuple #[.int .i64 0, .int .i64 8]) ∧ Below w.heap.size w w' := by
  obtain ⟨W, hW⟩ : ∃ W, W = (((w.alloc (.cells #[.pointer none] 25)).alloc (.cells #[.slice A n c] 36)).alloc (.cells #[.int .i64 0] 3)) := ⟨_, rfl⟩
  have hx : Bx3 w W (.pointer none) (.slice A n c) (.int .i64 0) := hW ▸ bx3 w _ _ _ _ _ _
  have HB := Lib.hid hx.bel
  have HW := Lib.hid hW
  have a2 := hx.c3
  have hmk := hmf
  clear hx hW
  go_enter Tryz.func12, Tryz.ntmps12
  go_wp2_with (go_at_call 47; rw [← HW.out]; refine (ask_nil _ _).mono ?_; rintro e w1 ⟨rfl, rfl⟩)
  go_ret2
  exact ⟨rfl, HB.out⟩
theorem Give_nil (w : World) (i : Int) : Calls Tryz.prog 15 #[.pointer none, .int .i64 i] w fun e w' => e = .returned (.int .i64 8) ∧ Below w.heap.size w w' := by
  obtain ⟨W, hW⟩ : ∃ W, W = ((w.alloc (.cells #[.pointer none] 25)).alloc (.cells #[.int .i64 i] 3)) := ⟨_, rfl⟩
  have hx : Bx2 w W (.pointer none) (.int .i64 i) := hW ▸ bx2 w _ _ _ _
  have HB := Lib.hid hx.bel
  have HW := Lib.hid hW
  have a2 := hx.c2
  have hmk := hmf
  clear hx hW
  go_enter Tryz.func15, Tryz.ntmps15
  go_wp2_with (go_at_call 47; rw [← HW.out]; refine (ask_nil _ _).mono ?_; rintro e w1 ⟨rfl, rfl⟩)
  go_ret
  exact ⟨rfl, HB.out⟩
theorem SetRoot_nil (w : World) (i : Int) : Calls Tryz.prog 17 #[.pointer none, .int .i64 i] w fun e w' => e = .returned (.int .i64 8) ∧ Below w.heap.size w w' := by
  obtain ⟨W, hW⟩ : ∃ W, W = ((w.alloc (.cells #[.pointer none] 25)).alloc (.cells #[.int .i64 i] 3)) := ⟨_, rfl⟩
  have hx : Bx2 w W (.pointer none) (.int .i64 i) := hW ▸ bx2 w _ _ _ _
  have HB := Lib.hid hx.bel
  have HW := Lib.hid hW
  have a2 := hx.c2
  have hmk := hmf
  clear hx hW
  go_enter Tryz.func17, Tryz.ntmps17
  go_wp2_with (go_at_call 47; rw [← HW.out]; refine (ask_nil _ _).mono ?_; rintro e w1 ⟨rfl, rfl⟩)
  go_ret
  exact ⟨rfl, HB.out⟩
theorem Back_nil (w : World) (i : Int) : Calls Tryz.prog 21 #[.pointer none, .int .i64 i] w fun e w' => e = .returned (.int .i64 8) ∧ Below w.heap.size w w' := by
  obtain ⟨W, hW⟩ : ∃ W, W = ((w.alloc (.cells #[.pointer none] 25)).alloc (.cells #[.int .i64 i] 3)) := ⟨_, rfl⟩
  have hx : Bx2 w W (.pointer none) (.int .i64 i) := hW ▸ bx2 w _ _ _ _
  have HB := Lib.hid hx.bel
  have HW := Lib.hid hW
  have a2 := hx.c2
  have hmk := hmf
  clear hx hW
  go_enter Tryz.func21, Tryz.ntmps21
  go_wp2_with (go_at_call 47; rw [← HW.out]; refine (ask_nil _ _).mono ?_; rintro e w1 ⟨rfl, rfl⟩)
  go_ret
  exact ⟨rfl, HB.out⟩
theorem Commit_nil (w : World) : Calls Tryz.prog 23 #[.pointer none] w fun e w' => e = .returned (.int .i64 8) ∧ Below w.heap.size w w' := by
  have hmk := hmf
  have H1 := Lib.hid ((Below.refl w.heap.size w).alloc (Nat.le_refl _) (.cells #[.pointer none] 25))
  go_enter Tryz.func23, Tryz.ntmps23
  go_wp2_with (go_at_call 47; refine (ask_nil _ _).mono ?_; rintro e w1 ⟨rfl, rfl⟩)
  go_ret
  exact ⟨rfl, H1.out⟩
theorem Mark_nil (w : World) : Calls Tryz.prog 19 #[.pointer none] w fun e w' => e = .returned (.int .i64 0) ∧ Below w.heap.size w w' := by
  obtain ⟨W, hW⟩ : ∃ W, W = ((w.alloc (.cells #[.pointer none] 25)).alloc (.cells #[.int .i64 0] 3)) := ⟨_, rfl⟩
  have hx : Bx2 w W (.pointer none) (.int .i64 0) := hW ▸ bx2 w _ _ _ _
  have HB := Lib.hid hx.bel
  have HW := Lib.hid hW
  have a2 := hx.c2
  have hmk := hmf
  clear hx hW
  go_enter Tryz.func19, Tryz.ntmps19
  go_wp2_with (go_at_call 47; rw [← HW.out]; refine (ask_nil _ _).mono ?_; rintro e w1 ⟨rfl, rfl⟩)
  go_ret
  exact ⟨rfl, HB.out⟩
theorem Root_nil (w : World) : Calls Tryz.prog 40 #[.pointer none] w fun e w' => e = .returned (.int .i64 0) ∧ Below w.heap.size w w' := by
  obtain ⟨W, hW⟩ : ∃ W, W = ((w.alloc (.cells #[.pointer none] 25)).alloc (.cells #[.int .i64 0] 3)) := ⟨_, rfl⟩
  have hx : Bx2 w W (.pointer none) (.int .i64 0) := hW ▸ bx2 w _ _ _ _
  have HB := Lib.hid hx.bel
  have HW := Lib.hid hW
  have a2 := hx.c2
  have hmk := hmf
  clear hx hW
  go_enter Tryz.func40, Tryz.ntmps40
  go_wp2_with (go_at_call 47; rw [← HW.out]; refine (ask_nil _ _).mono ?_; rintro e w1 ⟨rfl, rfl⟩)
  go_ret
  exact ⟨rfl, HB.out⟩
theorem Left_nil (w : World) : Calls Tryz.prog 41 #[.pointer none] w fun e w' => e = .returned (.int .i64 0) ∧ Below w.heap.size w w' := by
  obtain ⟨W, hW⟩ : ∃ W, W = ((w.alloc (.cells #[.pointer none] 25)).alloc (.cells #[.int .i64 0] 3)) := ⟨_, rfl⟩
  have hx : Bx2 w W (.pointer none) (.int .i64 0) := hW ▸ bx2 w _ _ _ _
  have HB := Lib.hid hx.bel
  have HW := Lib.hid hW
  have a2 := hx.c2
  have hmk := hmf
  clear hx hW
  go_enter Tryz.func41, Tryz.ntmps41
  go_wp2_with (go_at_call 47; rw [← HW.out]; refine (ask_nil _ _).mono ?_; rintro e w1 ⟨rfl, rfl⟩)
  go_ret
  exact ⟨rfl, HB.out⟩
end Go.Proofs.YtnpebfolmdbipaaGreatDoor.Sk

namespace Go.Proofs.YtnpebfolmdbipaaGreatDoor.Sk
set_option maxRecDepth 8000
set_option linter.unusedVariables false
set_option linter.unusedSimpArgs false
open Go.RowKit Mem Go.ChangeMaps
open Dk (cod elem cod_inj elem_mk elem_inv key key_inj wf_key keyed3 MapIs Fr ptr hmf cell_alloc cell_alloc_new zero42 IsD Dsk Lay drewN_cell Kp ref_zero newD newY)
open Fm (tab_low)
theorem own_block {w : World} {base : Nat} {v : Value} {l : List UInt8} (h : Mem.Own 5 w base v l) (hl : 0 < l.length) : ∃ g c, v = .slice (some ⟨g, 0, none⟩) l.length c ∧ base ≤ g ∧ g < w.heap.size ∧ Rd w w.heap.size (some ⟨g, 0, none⟩) c l ∧ (∀ j (hj : j < l.length), w.cell? ⟨g, j, none⟩ = some (bv l[j])) ∧ ∀ j, w.frozen? ⟨g, j, none⟩ = false := by
  have hlt := World.ownsRow.lt h
  have hf := h.form
  have hc := @Dk.own_cell
  rcases h.2 with ⟨_, h0⟩ | ⟨g, cap, cur, rfl, hb, hh, _⟩
  · omega
  · refine ⟨g, cap, rfl, hb, (hlt g rfl).2, ?_, fun j hj => hc h j hj, fun j => ?_⟩
    · obtain ⟨A, c, e, hr, _⟩ := hf
      injection e with e1 e2 e3
      rw [e1, e3]; exact hr
    · simp [World.frozen?, hh]
section
variable {B : Nat} {W w w' : World} {sb db : Nat} {y y' : SLay} {s s' : Sto} {yd yd' : Lay} {d d' : Dsk} {m m' : Nat}
/-- A store into a block that is neither the store's nor its disk's. -/
theorem Bo.poke (bo : Bo B W w sb db y yd s d m) (p : Addr) (u : Value) (hf : ¬ both y yd p.block) (hB : B ≤ p.block) : Bo B W (w.setCell p u) sb db y yd s d m :=
  ⟨bo.st.poke p u (fun e => hf (.inr e)) hB, bo.is.poke (fun e => hf (.inl e)) u, bo.good, bo.apart, bo.low, bo.nn, bo.sm, bo.tabW, bo.posB⟩
theorem Bo.fresh (bo : Bo B W w sb db y yd s d m) {k : Nat} (hk : w.heap.size ≤ k) : ¬ both y yd k := fun e => e.elim (fun e => by have := bo.is.foot _ e; omega) (fun e => by have := bo.st.is.foot _ e; omega)
end
theorem Bo.LeftGone {B : Nat} {W w : World} {sb db : Nat} {y : SLay} {s : Sto} {yd : Lay} {d : Dsk} {m : Nat} (bo : Bo B W w sb db y yd s d m) (hg : gone s d = true) :
    Calls Tryz.prog 41 #[pt sb] w fun e w' => e = .returned (.int .i64 0) ∧ Below w.heap.size w w' := by
  have h := bo.Left
  rw [if_pos hg] at h
  exact h
end Go.Proofs.YtnpebfolmdbipaaGreatDoor.Sk

namespace Go.Proofs.YtnpebfolmdbipaaGreatDoor.Sk
set_option maxRecDepth 8000
set_option linter.unusedVariables false
set_option linter.unusedSimpArgs false
open Go.RowKit Mem Go.ChangeMaps
open Dk (cod elem cod_inj elem_mk elem_inv key key_inj wf_key keyed3 MapIs Fr ptr hmf cell_alloc cell_alloc_new zero42 IsD Dsk Lay drewN_cell Kp ref_zero newD newY)
open Fm (tab_low)
def Dn : Dsk := newD 6
def h1 : Sto := doT (sto0 6) Dn [120, 121]
def Dk9 : Dsk := { Dn with dead := true }
theorem nh1 : numT (sto0 6) Dn [120, 121] = 2 ∧ ansT (sto0 6) Dn [120, 121] = 0 := by decide +kernel
theorem nh2 : ansRd h1 Dn 2 = 0 ∧ rdOf h1 Dn 2 = some [120, 121] := by decide +kernel
theorem nh3 : gone h1 Dk9 = true ∧ ansRd h1 Dk9 2 = 9 ∧ ansG { h1 with dead := true } Dk9 2 = 9 := by decide +kernel
theorem nhT (l : List UInt8) : numT h1 Dk9 l = 0 ∧ ansT h1 Dk9 l = 9 ∧ doT h1 Dk9 l = h1 := by
  have e : ansT h1 Dk9 l = 9 := if_pos nh3.1
  refine ⟨?_, e, ?_⟩
  · unfold numT; rw [e]; rfl
  · unfold doT; rw [e]; rfl
theorem nhC : ansC h1 Dk9 = 9 ∧ stoC h1 Dk9 = { h1 with dead := true } ∧ diskC h1 Dk9 = Dk9 := ⟨if_pos nh3.1, if_pos nh3.1, if_pos nh3.1⟩
theorem nhG : gone { h1 with dead := true } Dk9 = true ∧ doG { h1 with dead := true } Dk9 2 = { h1 with dead := true } := ⟨rfl, rfl⟩
section
variable {B : Nat} {W w w' : World} {sb db : Nat} {y y' : SLay} {s s' : Sto} {yd yd' : Lay} {d d' : Dsk} {m m' : Nat}
/-- Take of the literal "xy": its bytes are still there. -/
theorem nTake (bo : Bo B W w sb db y yd (sto0 6) Dn m) (hm : m < 90000000) :
    Calls Tryz.prog 12 #[pt sb, .slice (some ⟨w.heap.size, 0, none⟩) 2 2] (w.alloc (.cells #[.int .u8 120, .int .u8 121] 5 (2, 3))) fun e w' => e = .returned (.tuple #[.int .i64 2, .int .i64 0]) ∧ ∃ y', Bo B W w' sb db y' yd h1 Dn (m + 2) ∧ ¬ both y' yd w.heap.size ∧ B ≤ w.heap.size ∧ w'.cell? ⟨w.heap.size, 0, none⟩ = some (.int .u8 120) ∧ w'.frozen? ⟨w.heap.size, 0, none⟩ = false := by
  obtain ⟨V, hV⟩ : ∃ V, V = w.alloc (.cells #[.int .u8 120, .int .u8 121] 5 (2, 3)) := ⟨_, rfl⟩
  have hr : Rd V V.heap.size (some ⟨w.heap.size, 0, none⟩) 2 [120, 121] := by
    have := Rd.lit w [120, 121] 5 (w.heap.size + 1) (by omega) (by unfold maxLen; simp) (2, 3)
    rw [hV, size_alloc']
    exact this
  have hb : Below w.heap.size w V := hV ▸ (Below.refl _ w).alloc (Nat.le_refl _) _
  have hh : V.heap[w.heap.size]? = some (.cells #[.int .u8 120, .int .u8 121] 5 (2, 3)) := by rw [hV]; exact heap_alloc_new _ _
  have hs : w.heap.size < V.heap.size := by rw [hV, size_alloc']; omega
  rw [← hV]
  have hbase := bo.base
  refine ((bo.keep hb).Take _ 2 2 [120, 121] hr rfl hm).mono ?_
  rw [nh1.1, nh1.2]
  rintro e w' ⟨rfl, y1, b1, k1⟩
  have hn := bo.fresh (Nat.le_refl w.heap.size)
  have f := k1.free hs hn
  have e := f.2.trans hh
  refine ⟨rfl, y1, b1, f.1, hbase, ?_, ?_⟩
  · unfold World.cell?; rw [e]; rfl
  · simp [World.frozen?, e]
theorem nRead (bo : Bo B W w sb db y yd h1 Dn m) :
    Calls Tryz.prog 39 #[pt sb, .int .i64 2] w fun e w' => ∃ g c, e = .returned (.tuple #[.slice (some ⟨g, 0, none⟩) 2 c, .int .i64 0]) ∧ Bo B W w' sb db y yd h1 Dn m ∧ ¬ both y yd g ∧ B ≤ g ∧ (convert 36 9 (.slice (some ⟨g, 0, none⟩) 2 c)).run Tryz.prog w' = .ok (.string (str [120, 121])) w' ∧ w'.cell? ⟨g, 1, none⟩ = some (.int .u8 121) ∧ w'.frozen? ⟨g, 1, none⟩ = false := by
  refine (bo.Read 2).mono ?_
  rw [nh2.1, show rdOf h1 Dn (2 : Int).toNat = some [120, 121] from nh2.2]
  rintro e w' ⟨v, rfl, ho, _, hb⟩
  obtain ⟨l, e, ho⟩ := ho rfl
  cases e
  obtain ⟨g, c, rfl, hg, hlt, hr, hc, hf⟩ := own_block ho (by simp)
  have hbase := bo.base
  exact ⟨g, c, rfl, bo.keep hb, bo.fresh hg, by omega, run_str_rd w' hr, hc 1 (by simp), hf 1⟩
theorem nKill (bo : Bo B W w sb db y yd h1 Dn m) : Calls Tryz.prog 42 #[ptr db] w fun e w' => e = .returned (.tuple #[]) ∧ Bo B W w' sb db y yd h1 Dk9 m := by
  refine (bo.st.kill).mono ?_
  rintro e w' ⟨rfl, h2, k2⟩
  exact ⟨rfl, (bo.ofSt h2 rfl (Nat.le_refl _) k2).1⟩
end
set_option maxHeartbeats 2000000 in
theorem storeNil_walk (p : Int) (A : Option Addr) (n c : Nat) (l : List UInt8) (hl : l.length = n) (w : World) (hT : Tab w) (wp : (Lit.int .i64 p).wf = true) (wr : Rd w w.heap.size A c l) : Calls Tryz.prog 7 #[.int .i64 p, .slice A n c] w fun e w' => e = .returned (.bool true) ∧ Below w.heap.size w w' := by
  have kc := fun (w : World) (C : Array Value) (n c : Nat) => Lib.run_convert_bytes_const (P := Tryz.prog) w 36 5 C n c Tryz.underlying36 Tryz.underlying5
  have h99 : (str [120, 121]).toList = [120, 121] := str_toList _
  have HT := Lib.hid hT
  have HR := Lib.hid wr
  have HL := Lib.hid hl
  clear hT wr hl wp
  go_enter Tryz.func7, Tryz.ntmps7
  go_wp2_with (first
    | (go_at_call 30; refine (goes_any _ B16.out.tab).mono ?_; rintro e w20 ⟨rfl, b20⟩; have B20 := Lib.hid (B16.out.keep b20); clear b20)
    | (go_at_call 41; refine (B15.out.LeftGone nhG.1).mono ?_; rintro e w16 ⟨rfl, b16⟩; have B16 := Lib.hid (B15.out.keep b16); clear b16)
    | (go_at_call 29; refine (sdead_any B15.out.is B15.out.st.is).mono ?_; rw [nhG.1]; rintro e wz ⟨rfl, hwz⟩; obtain rfl := hwz.symm)
    | (go_at_call 15; refine (B14.out.Give 2 (by omega)).mono ?_; rw [nh3.2.2, nhG.2]; rintro e w15 ⟨rfl, y15, b15, k15⟩; have B15 := Lib.hid b15; clear b15 k15)
    | (go_at_call 23; refine (Commit_any B12.out (by omega)).mono ?_; rw [nhC.1, nhC.2.1, nhC.2.2]; rintro e w14 ⟨rfl, y14, yd14, b14, k14⟩; have B14 := Lib.hid b14; clear b14 k14)
    | (go_at_call 27; refine (open_dead B12.out.st.is rfl).mono ?_; rintro e wz ⟨rfl, hwz⟩; obtain rfl := hwz.symm)
    | (go_at_call 12; refine (B11.out.Take A c n l (Rd.more (HR.out.below X1.out) X1.out.size) HL.out (by omega)).mono ?_; rw [(nhT l).1, (nhT l).2.1, (nhT l).2.2]; rintro e w12 ⟨rfl, y12, b12, k12⟩; have B12 := Lib.hid b12; clear b12 k12)
    | (go_at_call 39; refine (B10.out.Read 2).mono ?_; rw [nh3.2.1]; rintro e w11 ⟨v11, rfl, _, hv11, b11⟩; obtain rfl := hv11 (by omega); have B11 := Lib.hid (B10.out.keep b11); have X1 := Lib.hid (X0.out.trans (B11.out.st.bel.mono X0.out.size)); clear b11)
    | (go_at_call 42; refine (nKill B9.out).mono ?_; rintro e w10 ⟨rfl, b10⟩; have B10 := Lib.hid b10; clear b10)
    | (go_at_call 39; refine (nRead (B8.out.poke ⟨g8, 1, none⟩ (.int .u8 122) N8.out G8.out)).mono ?_; rintro e w9 ⟨g9, c9, rfl, b9, _, _, k9, _, _⟩; have B9 := Lib.hid b9; clear b9)
    | (go_at_call 39; refine (nRead (B7.out.poke _ (.int .u8 122) N7.out G7.out)).mono ?_; rintro e w8 ⟨g8, c8, rfl, b8, n8, i8, k8, p8, q8⟩; have B8 := Lib.hid b8; have N8 := Lib.hid n8; have G8 := Lib.hid i8; clear b8 n8 i8)
    | (go_at_call 12; refine (nTake B6.out (by omega)).mono ?_; rintro e w7 ⟨rfl, y7, b7, n7, i7, p7, q7⟩; have B7 := Lib.hid b7; have N7 := Lib.hid n7; have G7 := Lib.hid i7; clear b7 n7 i7)
    | (go_at_call 10; refine (made_any 6 w5 (tab_low HT.out X0.out) (by omega) (by omega)).mono ?_; rintro e w6 ⟨sb, db, y6, yd6, rfl, b6⟩; have B6 := Lib.hid b6; clear b6)
    | (go_at_call 29; refine (Dead_nil _).mono ?_; rintro e wz ⟨rfl, hwz⟩; obtain rfl := hwz.symm)
    | (go_at_call 41; refine (Left_nil wj).mono ?_; rintro e w5 ⟨rfl, z9⟩; have X0 := Lib.hid (Z8.out.trans (z9.mono Z8.out.size)); clear z9)
    | (go_at_call 40; refine (Root_nil wi).mono ?_; rintro e wj ⟨rfl, z8⟩; have Z8 := Lib.hid (Z7.out.trans (z8.mono Z7.out.size)); clear z8)
    | (go_at_call 19; refine (Mark_nil wh).mono ?_; rintro e wi ⟨rfl, z7⟩; have Z7 := Lib.hid (Z6.out.trans (z7.mono Z6.out.size)); clear z7)
    | (go_at_call 23; refine (Commit_nil wg).mono ?_; rintro e wh ⟨rfl, z6⟩; have Z6 := Lib.hid (Z5.out.trans (z6.mono Z5.out.size)); clear z6)
    | (go_at_call 21; refine (Back_nil wf p).mono ?_; rintro e wg ⟨rfl, z5⟩; have Z5 := Lib.hid (Z4.out.trans (z5.mono Z4.out.size)); clear z5)
    | (go_at_call 17; refine (SetRoot_nil we p).mono ?_; rintro e wf ⟨rfl, z4⟩; have Z4 := Lib.hid (Z3.out.trans (z4.mono Z3.out.size)); clear z4)
    | (go_at_call 15; refine (Give_nil wd p).mono ?_; rintro e we ⟨rfl, z3⟩; have Z3 := Lib.hid (Z2.out.trans (z3.mono Z2.out.size)); clear z3)
    | (go_at_call 12; refine (Take_nil wc A n c).mono ?_; rintro e wd ⟨rfl, z2⟩; have Z2 := Lib.hid (Z1.out.trans (z2.mono Z1.out.size)); clear z2)
    | (go_at_call 39; refine (Read_nil w p).mono ?_; rintro e wc ⟨rfl, z1⟩; have Z1 := Lib.hid z1; clear z1)
    | (go_at_call 25; refine (abort_nil _).mono ?_; rintro e wz ⟨rfl, hwz⟩; obtain rfl := hwz.symm))
  go_ret
  exact ⟨rfl, X0.out.trans (B20.out.st.bel.mono X0.out.size)⟩
end Go.Proofs.YtnpebfolmdbipaaGreatDoor.Sk

