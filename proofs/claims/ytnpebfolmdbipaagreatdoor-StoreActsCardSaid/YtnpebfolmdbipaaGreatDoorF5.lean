import Derived.Test.YtnpebfolmdbipaaGreatDoorF4
import Derived.Test.YtnpebfolmdbipaaGreatDoorCrc4
namespace Go.Proofs.YtnpebfolmdbipaaGreatDoor.Fm
open Go.RowKit Mem
attribute [local go_sem] Oper.semAt_some

theorem concat_any' (A : Option Addr) (n c : Nat) (ps : List Part) (w : World) (hn : n = ps.length) (hp : Pts w w.heap.size A c ps) (h0 : 0 < ps.length) (h1 : ps.length ≤ 1000) (hs : (flat ps).length ≤ 70368744177664) :
    Calls Tryz.prog 111 #[.slice A n c] w fun e w' => ∃ v, e = .returned v ∧ Mem.Own 5 w' w.heap.size v (flat ps) ∧ Below w.heap.size w w' := by
  subst hn
  obtain ⟨b, o, rfl, hb, hc⟩ := hp.2.2.2 h0
  exact concat_any b o c ps w hb hc h1 hs
theorem make_page : ∀ W, (Instr.makeSlice 36 (.int .i64 4096) (.int .i64 4096)).run Tryz.prog W = .ok (.slice (some ⟨W.heap.size, 0, none⟩) 4096 4096) (W.alloc (.cells (bcs zpage) 5)) := by
  intro W
  have hr := run_make_row' (P := Tryz.prog) 36 5 (.int .u8 0) 1 Tryz.underlying36 u8_info rfl .i64 .i64 4096 (by omega) (by omega) W
  rw [bcs_zeros] at hr
  exact hr

theorem own_row {w : World} (g : Nat) (l : List UInt8) (base : Nat) (hb : base ≤ g) (hm : l.length ≤ maxLen) (h : w.heap[g]? = some (.cells (bcs l) 5 (0, 0))) : Mem.Own 5 w base (.slice (some ⟨g, 0, none⟩) l.length l.length) l :=
  ⟨by simp, .inr ⟨g, l.length, bcs l, rfl, hb, h, Nat.le_refl _, hm, by simp [bcs], by simp [bcs, List.take_of_length_le]⟩⟩
theorem own_of {w : World} {base : Nat} {v : Value} {l : List UInt8} (h : Mem.Own 5 w base v l) (hl : l.length = 4032) : ∃ g c, v = .slice (some ⟨g, 0, none⟩) 4032 c ∧ base ≤ g := by
  rcases h.2 with ⟨_, h0⟩ | ⟨g, cap, cur, rfl, hg, _⟩
  · omega
  · exact ⟨g, cap, by rw [hl], hg⟩
theorem box_1 (w : World) (o p : Obj) : (((w.alloc o).alloc (.cells #[.slice none 0 0] 36)).alloc p).drew.cell? ⟨w.heap.size + 1, 0, none⟩ = some (.slice none 0 0) ∧ (((w.alloc o).alloc (.cells #[.slice none 0 0] 36)).alloc p).drew.frozen? ⟨w.heap.size + 1, 0, none⟩ = false := by
  have h := cell_new (w.alloc o) (.slice none 0 0) 36
  have h1 := cell_kept_alloc p h.1
  have h2 := frozen_kept_alloc p h.1 h.2
  rw [World.size_alloc] at h1 h2
  exact ⟨h1, h2⟩
theorem box_2 (w : World) (o p : Obj) : (((w.alloc o).alloc p).alloc (.cells #[.slice none 0 0] 36)).drew.cell? ⟨w.heap.size + 1 + 1, 0, none⟩ = some (.slice none 0 0) ∧ (((w.alloc o).alloc p).alloc (.cells #[.slice none 0 0] 36)).drew.frozen? ⟨w.heap.size + 1 + 1, 0, none⟩ = false := by
  have h := cell_new ((w.alloc o).alloc p) (.slice none 0 0) 36
  rw [World.size_alloc, World.size_alloc] at h
  exact h
theorem box_3 (w : World) (o : Obj) : ((w.alloc o).alloc (.cells #[.slice none 0 0] 36)).drew.cell? ⟨w.heap.size + 1, 0, none⟩ = some (.slice none 0 0) ∧ ((w.alloc o).alloc (.cells #[.slice none 0 0] 36)).drew.frozen? ⟨w.heap.size + 1, 0, none⟩ = false := by
  have h := cell_new (w.alloc o) (.slice none 0 0) 36
  rw [World.size_alloc] at h
  exact h
/-- What is laid ahead of the loop. -/
structure LaidSt (w wc : World) (Am : Option Addr) (cm : Nat) (i : List UInt8) (gp gb bl cl : Nat) : Prop where
  left : Boxed wc bl 36 (.slice (some ⟨gb, 0, none⟩) 4032 cl)
  page : wc.heap[gp]? = some (.cells (bcs zpage) 5 (0, 0))
  own : Mem.Own 5 wc w.heap.size (.slice (some ⟨gb, 0, none⟩) 4032 cl) i
  ne : gp ≠ gb
  mark : Boxed wc w.heap.size 36 (.slice Am 8 cm)
  lt1 : w.heap.size < gp
  lt2 : w.heap.size < bl
  lt3 : w.heap.size < gb
  below : Below w.heap.size w wc

theorem laid_fin {w X w1 wc : World} {row : Option Nat} {Am : Option Addr} {cm : Nat} {i : List UInt8} {g1 c1 gp bl : Nat} (hb : Below X.heap.size X w1) (hwX : Below w.heap.size w X) (hmX : Boxed X w.heap.size 36 (.slice Am 8 cm)) (hown : Mem.Own 5 w1 X.heap.size (.slice (some ⟨g1, 0, none⟩) 4032 c1) i) (hg1 : X.heap.size ≤ g1)
    (hg : w1.grownBy wc row) (hrow : ∀ r, row = some r → w.heap.size < r ∧ r < X.heap.size) (hp : wc.heap[gp]? = some (.cells (bcs zpage) 5 (0, 0))) (hl : Boxed wc bl 36 (.slice (some ⟨g1, 0, none⟩) 4032 c1)) (hne : gp ≠ g1) (lt1 : w.heap.size < gp) (lt2 : w.heap.size < bl) : LaidSt w wc Am cm i gp g1 bl c1 :=
  ⟨hl, hp, by
    have h2 : Mem.Own 5 wc X.heap.size (.slice (some ⟨g1, 0, none⟩) 4032 c1) i := World.ownsRow.kept hown hg (.inr fun e => by
      have e2 : row = some g1 := by rw [← e]; rfl
      have := (hrow _ e2).2; omega)
    exact h2.mono hwX.size, hne, Boxed.kept (show Boxed w1 w.heap.size 36 _ from (hb.block _ hmX.lt).trans hmX) hg (fun e => by have := (hrow _ e.symm).1; omega), lt1, lt2, by have := hmX.lt; omega, (hwX.trans (hb.mono hwX.size)).grown hg (Nat.le_trans hwX.size hb.size) (fun k e => by have := (hrow _ e).1; omega)⟩
theorem heap3 (w : World) (a b c : Obj) : (((w.alloc a).alloc b).alloc c).heap[w.heap.size]? = some a ∧ (((w.alloc a).alloc b).alloc c).heap[w.heap.size + 1]? = some b ∧ (((w.alloc a).alloc b).alloc c).heap[w.heap.size + 2]? = some c := by
  refine ⟨(Below.heap_alloc _ _ _ (by simp; omega)).trans (heap_alloc2_old w a b), (Below.heap_alloc _ _ _ (by simp)).trans (heap_alloc2_new w a b), ?_⟩
  have := heap_alloc_new ((w.alloc a).alloc b) c
  rw [World.size_alloc, World.size_alloc] at this
  exact this
section
variable {w w1 : World} {Am : Option Addr} {cm : Nat} {i : List UInt8} {g1 c1 : Nat} {pg0 : Array Value}
theorem laidA (hP : bcs zpage = pg0) (hb : Below (((w.alloc (.cells #[.slice Am 8 cm] 36)).alloc (.cells pg0 5)).drew).heap.size ((w.alloc (.cells #[.slice Am 8 cm] 36)).alloc (.cells pg0 5)).drew w1) (hown : Mem.Own 5 w1 (((w.alloc (.cells #[.slice Am 8 cm] 36)).alloc (.cells pg0 5)).drew).heap.size (.slice (some ⟨g1, 0, none⟩) 4032 c1) i) (hg1 : (((w.alloc (.cells #[.slice Am 8 cm] 36)).alloc (.cells pg0 5)).drew).heap.size ≤ g1) :
    LaidSt w (w1.alloc (.cells #[.slice (some ⟨g1, 0, none⟩) 4032 c1] 36)) Am cm i (w.heap.size + 1) g1 w1.heap.size c1 := by
  subst hP
  have hs : ((w.alloc (.cells #[.slice Am 8 cm] 36)).alloc (.cells (bcs zpage) 5)).drew.heap.size = w.heap.size + 2 := by show ((w.alloc _).alloc _).heap.size = _; rw [World.size_alloc, World.size_alloc]
  have h1 := hb.size
  refine laid_fin (row := none) hb ((((Below.refl _ w).alloc (Nat.le_refl _) _).alloc (by simp) _).drew) (heap_alloc2_old w _ _) hown hg1 (World.grownBy_alloc _ _ none) (fun r e => by cases e) ?_ (Boxed.new _ _ _) (by omega) (by omega) (by omega)
  exact (Below.heap_alloc _ _ _ (by omega)).trans ((hb.block _ (by omega)).trans (heap_alloc2_new w _ _))
theorem laidB (hP : bcs zpage = pg0) (hb : Below ((((w.alloc (.cells #[.slice Am 8 cm] 36)).alloc (.cells pg0 5)).alloc (.cells #[.slice none 0 0] 36)).drew).heap.size (((w.alloc (.cells #[.slice Am 8 cm] 36)).alloc (.cells pg0 5)).alloc (.cells #[.slice none 0 0] 36)).drew w1) (hown : Mem.Own 5 w1 ((((w.alloc (.cells #[.slice Am 8 cm] 36)).alloc (.cells pg0 5)).alloc (.cells #[.slice none 0 0] 36)).drew).heap.size (.slice (some ⟨g1, 0, none⟩) 4032 c1) i) (hg1 : ((((w.alloc (.cells #[.slice Am 8 cm] 36)).alloc (.cells pg0 5)).alloc (.cells #[.slice none 0 0] 36)).drew).heap.size ≤ g1) :
    LaidSt w (w1.setCell ⟨w.heap.size + 1 + 1, 0, none⟩ (.slice (some ⟨g1, 0, none⟩) 4032 c1)) Am cm i (w.heap.size + 1) g1 (w.heap.size + 1 + 1) c1 := by
  subst hP
  have hs : (((w.alloc (.cells #[.slice Am 8 cm] 36)).alloc (.cells (bcs zpage) 5)).alloc (.cells #[.slice none 0 0] 36)).drew.heap.size = w.heap.size + 3 := by show (((w.alloc _).alloc _).alloc _).heap.size = _; rw [World.size_alloc, World.size_alloc, World.size_alloc]
  have h1 := hb.size
  obtain ⟨k1, k2, k3⟩ := heap3 w (.cells #[.slice Am 8 cm] 36) (.cells (bcs zpage) 5) (.cells #[.slice none 0 0] 36)
  have hx : Boxed w1 (w.heap.size + 1 + 1) 36 (.slice none 0 0) := (hb.block _ (by omega)).trans k3
  refine laid_fin (row := some (w.heap.size + 1 + 1)) hb (((((Below.refl _ w).alloc (Nat.le_refl _) _).alloc (by simp) _).alloc (by simp; omega) _).drew) k1 hown hg1 (grownBy_setCell' _ _ _) (fun r e => by cases e; omega) ?_ (hx.set _) (by omega) (by omega) (by omega)
  exact (Below.heap_setCell _ _ _ _ (by show w.heap.size + 1 ≠ w.heap.size + 1 + 1; omega)).trans ((hb.block _ (by omega)).trans k2)
theorem laidC (hP : bcs zpage = pg0) (hb : Below ((w.alloc (.cells #[.slice Am 8 cm] 36)).drew).heap.size (w.alloc (.cells #[.slice Am 8 cm] 36)).drew w1) (hown : Mem.Own 5 w1 ((w.alloc (.cells #[.slice Am 8 cm] 36)).drew).heap.size (.slice (some ⟨g1, 0, none⟩) 4032 c1) i) (hg1 : ((w.alloc (.cells #[.slice Am 8 cm] 36)).drew).heap.size ≤ g1) (hlt : g1 < w1.heap.size) :
    LaidSt w ((w1.alloc (.cells pg0 5)).alloc (.cells #[.slice (some ⟨g1, 0, none⟩) 4032 c1] 36)) Am cm i w1.heap.size g1 (w1.heap.size + 1) c1 ∧
    LaidSt w ((w1.alloc (.cells #[.slice (some ⟨g1, 0, none⟩) 4032 c1] 36)).alloc (.cells pg0 5)) Am cm i (w1.heap.size + 1) g1 w1.heap.size c1 := by
  subst hP
  have hs : (w.alloc (.cells #[.slice Am 8 cm] 36)).drew.heap.size = w.heap.size + 1 := by show (w.alloc _).heap.size = _; rw [World.size_alloc]
  have h1 := hb.size
  constructor
  · exact laid_fin (row := none) hb (((Below.refl _ w).alloc (Nat.le_refl _) _).drew) (heap_alloc_new w _) hown hg1 (grownBy_trans (World.grownBy_alloc _ _ none) (World.grownBy_alloc _ _ none)) (fun r e => by cases e) (heap_alloc2_old w1 _ _) (heap_alloc2_new w1 _ _) (by omega) (by omega) (by omega)
  · exact laid_fin (row := none) hb (((Below.refl _ w).alloc (Nat.le_refl _) _).drew) (heap_alloc_new w _) hown hg1 (grownBy_trans (World.grownBy_alloc _ _ none) (World.grownBy_alloc _ _ none)) (fun r e => by cases e) (heap_alloc2_new w1 _ _) (heap_alloc2_old w1 _ _) (by omega) (by omega) (by omega)
theorem laidE (hP : bcs zpage = pg0) (hb : Below ((((w.alloc (.cells #[.slice Am 8 cm] 36)).alloc (.cells #[.slice none 0 0] 36)).alloc (.cells pg0 5)).drew).heap.size (((w.alloc (.cells #[.slice Am 8 cm] 36)).alloc (.cells #[.slice none 0 0] 36)).alloc (.cells pg0 5)).drew w1) (hown : Mem.Own 5 w1 ((((w.alloc (.cells #[.slice Am 8 cm] 36)).alloc (.cells #[.slice none 0 0] 36)).alloc (.cells pg0 5)).drew).heap.size (.slice (some ⟨g1, 0, none⟩) 4032 c1) i) (hg1 : ((((w.alloc (.cells #[.slice Am 8 cm] 36)).alloc (.cells #[.slice none 0 0] 36)).alloc (.cells pg0 5)).drew).heap.size ≤ g1) :
    LaidSt w (w1.setCell ⟨w.heap.size + 1, 0, none⟩ (.slice (some ⟨g1, 0, none⟩) 4032 c1)) Am cm i (w.heap.size + 1 + 1) g1 (w.heap.size + 1) c1 := by
  subst hP
  have hs : (((w.alloc (.cells #[.slice Am 8 cm] 36)).alloc (.cells #[.slice none 0 0] 36)).alloc (.cells (bcs zpage) 5)).drew.heap.size = w.heap.size + 3 := by show (((w.alloc _).alloc _).alloc _).heap.size = _; rw [World.size_alloc, World.size_alloc, World.size_alloc]
  have h1 := hb.size
  obtain ⟨k1, k2, k3⟩ := heap3 w (.cells #[.slice Am 8 cm] 36) (.cells #[.slice none 0 0] 36) (.cells (bcs zpage) 5)
  have hx : Boxed w1 (w.heap.size + 1) 36 (.slice none 0 0) := (hb.block _ (by omega)).trans k2
  refine laid_fin (row := some (w.heap.size + 1)) hb (((((Below.refl _ w).alloc (Nat.le_refl _) _).alloc (by simp) _).alloc (by simp; omega) _).drew) k1 hown hg1 (grownBy_setCell' _ _ _) (fun r e => by cases e; omega) ?_ (hx.set _) (by omega) (by omega) (by omega)
  exact (Below.heap_setCell _ _ _ _ (by show w.heap.size + 1 + 1 ≠ w.heap.size + 1; omega)).trans ((hb.block _ (by omega)).trans k3)
theorem laidF (hP : bcs zpage = pg0) (hb : Below (((w.alloc (.cells #[.slice Am 8 cm] 36)).alloc (.cells #[.slice none 0 0] 36)).drew).heap.size ((w.alloc (.cells #[.slice Am 8 cm] 36)).alloc (.cells #[.slice none 0 0] 36)).drew w1) (hown : Mem.Own 5 w1 (((w.alloc (.cells #[.slice Am 8 cm] 36)).alloc (.cells #[.slice none 0 0] 36)).drew).heap.size (.slice (some ⟨g1, 0, none⟩) 4032 c1) i) (hg1 : (((w.alloc (.cells #[.slice Am 8 cm] 36)).alloc (.cells #[.slice none 0 0] 36)).drew).heap.size ≤ g1) (hlt : g1 < w1.heap.size) :
    LaidSt w ((w1.alloc (.cells pg0 5)).setCell ⟨w.heap.size + 1, 0, none⟩ (.slice (some ⟨g1, 0, none⟩) 4032 c1)) Am cm i w1.heap.size g1 (w.heap.size + 1) c1 := by
  subst hP
  have hs : ((w.alloc (.cells #[.slice Am 8 cm] 36)).alloc (.cells #[.slice none 0 0] 36)).drew.heap.size = w.heap.size + 2 := by show ((w.alloc _).alloc _).heap.size = _; rw [World.size_alloc, World.size_alloc]
  have h1 := hb.size
  have hx : Boxed w1 (w.heap.size + 1) 36 (.slice none 0 0) := (hb.block _ (by omega)).trans (heap_alloc2_new w _ _)
  refine laid_fin (row := some (w.heap.size + 1)) hb ((((Below.refl _ w).alloc (Nat.le_refl _) _).alloc (by simp) _).drew) (heap_alloc2_old w _ _) hown hg1 (grownBy_trans (World.grownBy_alloc w1 (.cells (bcs zpage) 5) _) (grownBy_setCell' _ _ _)) (fun r e => by cases e; omega) ?_ ((hx.alloc _).set _) (by omega) (by omega) (by omega)
  exact (Below.heap_setCell _ _ _ _ (by show w1.heap.size ≠ w.heap.size + 1; omega)).trans (heap_alloc_new w1 _)
end

set_option maxRecDepth 100000 in
set_option maxHeartbeats 2000000 in
theorem laid_any (Am Ap : Option Addr) (cm cp np : Nat) (m : List UInt8) (ps : List Part) (w : World) (hm : Rd w w.heap.size Am cm m) (hm8 : m.length = 8) (hp : Pts w w.heap.size Ap cp ps) (hnp : np = ps.length) (h0 : 0 < ps.length) (h1 : ps.length ≤ 1000) (hi : (flat ps).length = 4032) :
    Calls Tryz.prog 84 #[.slice Am 8 cm, .slice Ap np cp] w fun e w' => ∃ v, e = .returned v ∧ Mem.Own 5 w' w.heap.size v (Frm.pageTo m (flat ps) 8) ∧ Below w.heap.size w w' := by
  have hmk0 := make_page
  obtain ⟨pg0, hpg0⟩ : ∃ p, bcs zpage = p := ⟨_, rfl⟩
  have hmk : ∀ W, (Instr.makeSlice 36 (.int .i64 4096) (.int .i64 4096)).run Tryz.prog W = .ok (.slice (some ⟨W.heap.size, 0, none⟩) 4096 4096) (W.alloc (.cells pg0 5)) := by
    rw [← hpg0]; exact hmk0
  have HP := Lib.hid hpg0
  clear hmk0 hpg0
  have hC : ∀ W : World, Below w.heap.size w W → Calls Tryz.prog 111 #[.slice Ap np cp] W fun e w' => ∃ v, e = .returned v ∧ Mem.Own 5 w' W.heap.size v (flat ps) ∧ Below W.heap.size W w' := fun W h =>
    concat_any' Ap np cp ps W hnp ((hp.below h).more h.size) h0 h1 (by omega)
  obtain ⟨mb, mo, rfl, _⟩ := hm.2.2.2 (by omega)
  have HC := Lib.hid hC
  have HM := Lib.hid hm
  clear hC hm hnp h0 h1 hp
  refine (callsIn_wide (n := 5)).1 ?_
  refine callsIn_of_wp_marks Tryz.func84 rfl trivial ?_ rfl
  simp only [Tryz.ntmps84, List.size_toArray, List.length_cons, List.length_nil, Nat.reduceAdd, Nat.reduceSub, Array.replicate_succ, Array.replicate_zero, List.push_toArray, List.append_toArray, List.nil_append, List.cons_append]
  gi_upto_region 1 with fail
  gi_cut [5, 6] from 9 (fun s5 s6 wc => ∃ gp gb bl cl, s5 = .slice (some ⟨gp, 0, none⟩) 4096 4096 ∧ s6 = .pointer (some ⟨bl, 0, none⟩) ∧ LaidSt w wc (some ⟨mb, mo, none⟩) cm (flat ps) gp gb bl cl)
  case first =>
    rename_i J K' hJ hK'
    have HJ := Lib.hid hJ
    clear hJ
    have HX := Lib.hid (box_1 w (.cells #[.slice (some ⟨mb, mo, none⟩) 8 cm] 36) (.cells pg0 5))
    have HY := Lib.hid (box_2 w (.cells #[.slice (some ⟨mb, mo, none⟩) 8 cm] 36) (.cells pg0 5))
    have HZ := Lib.hid (box_3 w (.cells #[.slice (some ⟨mb, mo, none⟩) 8 cm] 36))
    first | (gi_region_with (refine ⟨trivial, ?_⟩; gi_at_call 111; (with_reducible refine (callsIn_wide.2 (HC.out _ ?_)).mono ?_); (repeat (first | with_reducible exact Below.refl _ _ | with_reducible apply Below.drew | (with_reducible refine Below.alloc ?_ (by first | (simp; done) | (simp; omega)) _))); rintro e w1 ⟨v1, rfl, hown, hb⟩; obtain ⟨g1, c1, rfl, hg1⟩ := own_of hown hi; (try with_reducible have hx1 := (Eq.trans (hb.cell (p := ⟨w.heap.size + 1, 0, none⟩) (by first | (simp; done) | (simp; omega))) HX.out.1)); (try with_reducible have hx2 := (Eq.trans (hb.frozen (p := ⟨w.heap.size + 1, 0, none⟩) (by first | (simp; done) | (simp; omega))) HX.out.2)); (try with_reducible have hx1 := (Eq.trans (hb.cell (p := ⟨w.heap.size + 1 + 1, 0, none⟩) (by first | (simp; done) | (simp; omega))) HY.out.1)); (try with_reducible have hx2 := (Eq.trans (hb.frozen (p := ⟨w.heap.size + 1 + 1, 0, none⟩) (by first | (simp; done) | (simp; omega))) HY.out.2)); (try with_reducible have hx1 := (Eq.trans (hb.cell (p := ⟨w.heap.size + 1, 0, none⟩) (by first | (simp; done) | (simp; omega))) HZ.out.1)); (try with_reducible have hx2 := (Eq.trans (hb.frozen (p := ⟨w.heap.size + 1, 0, none⟩) (by first | (simp; done) | (simp; omega))) HZ.out.2)); (try have hx3 := fun o => cell_kept_alloc o hx1); (try have hx4 := fun o => frozen_kept_alloc o hx1 hx2); have H1 := Lib.hid hown; have H2 := Lib.hid hb; have H3 := Lib.hid hg1; clear hown hb hg1)) | fail
    all_goals
      refine hK' _ _ ?_
      have hJ := HJ.out
      gi_meet
    all_goals
      have hlt := (own_lt H1.out).2
      first
        | with_reducible exact ⟨_, _, _, _, rfl, rfl, laidA HP.out H2.out H1.out H3.out⟩
        | with_reducible exact ⟨_, _, _, _, rfl, rfl, laidB HP.out H2.out H1.out H3.out⟩
        | with_reducible exact ⟨_, _, _, _, rfl, rfl, (laidC HP.out H2.out H1.out H3.out hlt).1⟩
        | with_reducible exact ⟨_, _, _, _, rfl, rfl, (laidC HP.out H2.out H1.out H3.out hlt).2⟩
        | with_reducible exact ⟨_, _, _, _, rfl, rfl, laidE HP.out H2.out H1.out H3.out⟩
        | with_reducible exact ⟨_, _, _, _, rfl, rfl, laidF HP.out H2.out H1.out H3.out hlt⟩
  obtain ⟨gp, gb, bl, cl, rfl, rfl, hS⟩ := hcut
  clear hmk HP HC
  obtain ⟨cur, hh, hcl0, hcl1, hcs, hcu⟩ : ∃ cur, wc.heap[gb]? = some (.cells cur 5 (0, 0)) ∧ 4032 ≤ cl ∧ cl ≤ maxLen ∧ cur.size = cl ∧ cur.toList.take 4032 = (flat ps).map bv := by
    rcases hS.own.2 with ⟨e, _⟩ | ⟨g, cap, cur, e, _, h1, h2, h3, h4, h5⟩
    · cases e
    · injection e with e1 e2 e3
      injection e1 with e1
      injection e1 with e1
      subst e1 e3
      rw [hi] at h2 h5
      exact ⟨cur, h1, h2, h3, by omega, h5⟩
  obtain ⟨W9, hW9⟩ : ∃ W9, wc.alloc (.cells #[.slice (some ⟨gp, 0, none⟩) 4096 4096] 36) = W9 := ⟨_, rfl⟩
  have hx2 : Boxed W9 wc.heap.size 36 (.slice (some ⟨gp, 0, none⟩) 4096 4096) := by rw [← hW9]; exact Boxed.new _ _ _
  have hsz : W9.heap.size = wc.heap.size + 1 := by rw [← hW9]; simp
  have hg9 : wc.grownBy W9 none := by rw [← hW9]; exact World.grownBy_alloc _ _ none
  have k1 : W9.heap[gp]? = some (.cells (bcs (layTo m (flat ps) []).1) 5 (0, 0)) := (hg9.block gp (Array.getElem?_eq_some_iff.1 hS.page).1 (by simp)).trans hS.page
  have k2 : W9.heap[gb]? = some (.cells cur 5 (0, 0)) := (hg9.block gb (Array.getElem?_eq_some_iff.1 hh).1 (by simp)).trans hh
  have k3 : Boxed W9 bl 36 (.slice (some ⟨gb, 0, none⟩) 4032 cl) := hS.left.kept hg9 (by simp)
  have k4 := hS.mark.kept hg9 (by simp)
  have hB9 : Below w.heap.size w W9 := hS.below.grown hg9 hS.below.size (fun k e => by cases e)
  have hne := hS.ne
  have l1 := hS.lt1
  have l2 := hS.lt2
  have l3 := hS.lt3
  have hlb : bl < wc.heap.size := hS.left.lt
  have hlg : gp < wc.heap.size := (Array.getElem?_eq_some_iff.1 hS.page).1
  have HS := Lib.hid hS
  clear hS
  gi_wp2_with (refine ⟨trivial, ?_⟩; gi_at_call 104; refine (callsIn_wide.2 (sectors_any _ _ _ _)).mono ?_; rintro e w' ⟨rfl, rfl⟩)
  refine wpIn_rangeFunc_ownF rfl (by omega) (gf := 120) (lb := #[.pointer (some ⟨wc.heap.size, 0, none⟩)]) rfl trivial (enters_of Tryz.func120 (by kernel_rfl) rfl)
    (sectors_stops (5 - 1) (by omega) wc.heap.size gp 0 4096 (Nat.le_refl _) (by omega) _ (by omega) hx2.cell) Box.t (Box.b (by omega)) (Below.refl _ _) (fun _ => rfl)
    (fun pre W => (W.heap[gp]? = some (.cells (bcs (layTo m (flat ps) pre).1) 5 (0, 0)) ∧ W.heap[gb]? = some (.cells cur 5 (0, 0)) ∧ (∃ ad : Addr, Boxed W bl 36 (.slice (some ad) (4032 - 504 * pre.length) (cl - 504 * pre.length)) ∧ (pre.length < 8 → ad = ⟨gb, 504 * pre.length, none⟩)) ∧ Boxed W w.heap.size 36 (.slice (some ⟨mb, mo, none⟩) 8 cm) ∧ Boxed W wc.heap.size 36 (.slice (some ⟨gp, 0, none⟩) 4096 4096)) ∧ Below w.heap.size w W)
    (fun _ _ _ => False)
    (OwnFrom.and (Own.from (fun s A B row hs hg hr => ⟨heap_own gp (fun pre => .cells (bcs (layTo m (flat ps) pre).1) 5 (0, 0)) (fun _ => rfl) s A B row hs.1 hg hr, heap_own gb (fun _ => .cells cur 5 (0, 0)) (fun _ => rfl) s A B row hs.2.1 hg hr, (by obtain ⟨ad, h1, h2⟩ := hs.2.2.1; exact ⟨ad, boxed_own bl 36 (fun (s : List (Fin 8)) => .slice (some ad) (4032 - 504 * s.length) (cl - 504 * s.length)) s A B row h1 hg hr, h2⟩), boxed_own w.heap.size 36 (fun _ => .slice (some ⟨mb, mo, none⟩) 8 cm) s A B row hs.2.2.2.1 hg hr, boxed_own wc.heap.size 36 (fun _ => .slice (some ⟨gp, 0, none⟩) 4096 4096) s A B row hs.2.2.2.2 hg hr⟩) _) (ownFrom_below (Nat.le_refl _) (by omega)))
    (fun _ _ _ _ _ hs _ _ => hs)
    ⟨⟨k1, k2, ⟨_, k3, fun _ => rfl⟩, k4, hx2⟩, hB9⟩
    (fun x => { tmps := #[.slice (some ⟨mb, mo, none⟩) 8 cm, .slice Ap np cp, .pointer (some ⟨w.heap.size, 0, none⟩), undef, .slice none 0 0, .slice (some ⟨gp, 0, none⟩) 4096 4096, .pointer (some ⟨bl, 0, none⟩), .slice (some ⟨gp, x.1 * 512, none⟩) 8 (4096 - x.1 * 512), .slice (some ⟨gp, x.1 * 512 + 8, none⟩) 504 (4096 - x.1 * 512 - 8), u9, u10, u11, .slice (some ⟨gp, 0, none⟩) 4096 4096, .func (.func 120) #[] #[.pointer (some ⟨wc.heap.size, 0, none⟩)],
      .slice (some ⟨gp, x.1 * 512, none⟩) 8 (4096 - x.1 * 512), .slice (some ⟨gp, x.1 * 512 + 8, none⟩) 504 (4096 - x.1 * 512 - 8), u16, u17, u18, u19, u20, u21, u22, u23, u24], defers := [] }) ?assign ?body ?done ?stop
  case assign =>
    intro l x W K hK
    dsimp only [encs]
    simp only [Nat.zero_add]
    gi_wp2
    exact hK
  case body =>
    rintro lp pre x W ⟨⟨p1, p2, ⟨ad0, p3, hla⟩, p4, p5⟩, hB⟩ hlen
    obtain rfl := hla hlen
    clear hla
    have hx8 := x.2
    have hq0 : 504 * pre.length + 504 ≤ 4032 := by omega
    have hP4 := length_layTo m (flat ps) pre hm8
    have hsn := layTo_snoc m (flat ps) pre x
    have hs2 := layTo_snd m (flat ps) pre
    have hrm := HM.out.below hB
    have hri : Rd W.drew (gb + 1) (some ⟨gb, 0, none⟩) cl (flat ps) := rd_row (W := W) p2 (by omega) hcl1 (by rw [hi]; exact hcu) (gb + 1) (by omega)
    have hcp1 := run_copy_rd W 3 gp (x.1 * 512) 8 (4096 - x.1 * 512) _ m _ 8 cm _ p1 hrm hm8.symm 8 (by omega) (by omega)
    rw [List.take_of_length_le (by omega)] at hcp1
    obtain ⟨W1, hW1⟩ : ∃ W1, W.setRow gp (bcs (splice (layTo m (flat ps) pre).1 (x.1 * 512) m)) = W1 := ⟨_, rfl⟩
    rw [hW1] at hcp1
    have hcp1 : (Builtin.copy_ #[36, 36] 3 #[.slice (some ⟨gp, x.1 * 512, none⟩) 8 (4096 - x.1 * 512), .slice (some ⟨mb, mo, none⟩) 8 cm]).run Tryz.prog W = .ok (.int .i64 8) W1 := hcp1
    have g1 : W.grownBy W1 (some gp) := by rw [← hW1]; exact grown_setRow _ _ _
    have r1 : W1.heap[gp]? = some (.cells (bcs (splice (layTo m (flat ps) pre).1 (x.1 * 512) m)) 5 (0, 0)) := by rw [← hW1]; exact setRow_heap' _ _ _ _ _ _ p1
    have r2 : W1.heap[gb]? = some (.cells cur 5 (0, 0)) := (g1.block gb (Array.getElem?_eq_some_iff.1 p2).1 (by simp; omega)).trans p2
    have tp : bl ≠ gp := fun e => by
      have h : W.heap[gp]? = some (.cells #[.slice (some ⟨gb, 504 * pre.length, none⟩) (4032 - 504 * pre.length) (cl - 504 * pre.length)] 36 (0, 0)) := by rw [← e]; exact p3
      have h2 := Option.some.inj (h.symm.trans p1)
      injection h2 with _ h3
      exact absurd h3 (by decide)
    have tb : bl ≠ gb := fun e => by
      have h : W.heap[bl]? = some (.cells #[.slice (some ⟨gb, 504 * pre.length, none⟩) (4032 - 504 * pre.length) (cl - 504 * pre.length)] 36 (0, 0)) := p3
      rw [e] at h
      have h2 := Option.some.inj (h.symm.trans p2)
      injection h2 with _ h3
      exact absurd h3 (by decide)
    have tm : w.heap.size ≠ gp := by omega
    have ts : wc.heap.size ≠ gp := by omega
    have r3 := p3.kept g1 (by simp; exact tp)
    have r4 := p4.kept g1 (by simp; exact tm)
    have r5 := p5.kept g1 (by simp; exact ts)
    obtain ⟨q, hq⟩ : ∃ q, q = 504 * pre.length := ⟨_, rfl⟩
    rw [← hq] at p3 r3 hq0
    have hri : Rd W1.drew (gb + 1) (some ⟨gb, 0 + q, none⟩) (cl - q) ((flat ps).drop q) := (rd_row (W := W1.drew) r2 (by omega) hcl1 (by rw [hi]; exact hcu) (gb + 1) (by omega)).drop q (by omega)
    rw [Nat.zero_add] at hri
    have hcp2 := run_copy_rd W1.drew 3 gp (x.1 * 512 + 8) 504 (4096 - x.1 * 512 - 8) _ _ _ (4032 - q) (cl - q) _ r1 hri (by rw [List.length_drop, hi]) 504 (by rw [List.length_drop, hi]; omega) (by rw [length_splice _ _ _ (by omega)]; omega)
    obtain ⟨W2, hW2⟩ : ∃ W2, W1.drew.setRow gp (bcs (splice (splice (layTo m (flat ps) pre).1 (x.1 * 512) m) (x.1 * 512 + 8) (((flat ps).drop q).take 504))) = W2 := ⟨_, rfl⟩
    rw [hW2] at hcp2
    have hcp2 : (Builtin.copy_ #[36, 36] 3 #[.slice (some ⟨gp, x.1 * 512 + 8, none⟩) 504 (4096 - x.1 * 512 - 8), .slice (some ⟨gb, q, none⟩) (4032 - q) (cl - q)]).run Tryz.prog W1.drew = .ok (.int .i64 504) W2 := hcp2
    have g2 : W1.grownBy W2 (some gp) := by rw [← hW2]; exact grownBy_trans (grownBy_below _ ((Below.refl _ W1).drew)) (grown_setRow _ _ _)
    have s1 : W2.heap[gp]? = some (.cells (bcs (layTo m (flat ps) (pre ++ [x])).1) 5 (0, 0)) := by
      rw [hsn, lay1, hs2, Frm.seg, ← hq, ← hW2]; exact setRow_heap' _ _ _ _ _ _ r1
    have s2 : W2.heap[gb]? = some (.cells cur 5 (0, 0)) := (g2.block gb (Array.getElem?_eq_some_iff.1 r2).1 (by simp; omega)).trans r2
    have s3 := r3.kept g2 (by simp; exact tp)
    have s4 := r4.kept g2 (by simp; exact tm)
    have s5 := r5.kept g2 (by simp; exact ts)
    have c4 := p4.cell
    have c1 := r3.cell
    have f1 := r3.frozen
    have c2 := s3.cell
    have f2 := s3.frozen
    have R1 := Lib.hid r1
    have HQ := Lib.hid hq
    have HB := Lib.hid hB
    have G1 := Lib.hid g1
    have G2 := Lib.hid g2
    have P1 := Lib.hid p1
    have S1 := Lib.hid s1
    have S2 := Lib.hid s2
    have S3 := Lib.hid s3
    have S4 := Lib.hid s4
    have S5 := Lib.hid s5
    have P5 := Lib.hid p5
    clear hq hB g1 g2 s1 s2 s3 s4 s5 p5 r1 r2 r3 r4 r5 p1 p2 p3 p4 hW1 hW2 hsn hs2 hri hrm hP4
    obtain ⟨ad, hif, had⟩ : ∃ ad : Addr, (if cl - q = 504 then some (⟨gb, q, none⟩ : Addr) else some ⟨gb, q + 504, none⟩) = some ad ∧ ((pre ++ [x]).length < 8 → ad = ⟨gb, 504 * (pre ++ [x]).length, none⟩) := by
      by_cases hz : cl - q = 504
      · exact ⟨_, if_pos hz, fun h => by have := HQ.out; rw [List.length_append, List.length_singleton] at h; omega⟩
      · exact ⟨_, if_neg hz, fun _ => by rw [List.length_append, List.length_singleton, HQ.out, Nat.mul_add]⟩
    have HA := Lib.hid had
    clear had
    have b1 : (504 : Int) ≤ ((4032 - q : Nat) : Int) := by omega
    have b2 : ((4032 - q : Nat) : Int) ≤ ((cl - q : Nat) : Int) := by omega
    have b3 : 504 ≤ 4032 - q := by omega
    have b4 : 4032 - q ≤ cl - q := by omega
    gi_wp2
    first | (gi_region_with (fail)) | fail
    all_goals gi_wp2
    all_goals
      have hl1 : 4032 - q - 504 = 4032 - 504 * (pre ++ [x]).length := by rw [List.length_append, List.length_singleton, HQ.out]; omega
      have hl2 : cl - q - 504 = cl - 504 * (pre ++ [x]).length := by rw [List.length_append, List.length_singleton, HQ.out]; omega
      rw [hl1, hl2]
      have g3 := grownBy_setCell' W2 bl (.slice (some ad) (4032 - 504 * (pre ++ [x]).length) (cl - 504 * (pre ++ [x]).length))
      have hW : Below w.heap.size w W2 := (HB.out.grown G1.out HB.out.size (fun k e => by cases e; omega)).grown G2.out (Nat.le_trans HB.out.size G1.out.size) (fun k e => by cases e; omega)
      have e5 := S5.out.kept g3 (by simp; omega)
      refine ⟨?_, e5.cell.trans P5.out.cell.symm, ⟨(g3.block gp (Array.getElem?_eq_some_iff.1 S1.out).1 (by simp; exact fun e => tp e.symm)).trans S1.out, (g3.block gb (Array.getElem?_eq_some_iff.1 S2.out).1 (by simp; exact fun e => tb e.symm)).trans S2.out, ⟨ad, S3.out.set _, HA.out⟩, S4.out.kept g3 (by simp; omega), e5⟩, hW.grown g3 hW.size (fun k e => by cases e; omega)⟩
      exact ((KeepsOthers.of_grownBy G1.out (fun j ob ej hj => by cases ej; rw [P1.out] at hj; cases hj; rfl)).trans (KeepsOthers.of_grownBy G2.out (fun j ob ej hj => by cases ej; rw [R1.out] at hj; cases hj; rfl))).trans (KeepsOthers.setCell _ _ _)
  case done =>
    rintro D ys W hD rfl ⟨⟨p1, _, _, _, _⟩, hB⟩ hK
    rw [layTo_all m (flat ps) hm8 hi] at p1
    have hO : Mem.Own 5 W w.heap.size (.slice (some ⟨gp, 0, none⟩) 4096 4096) (Frm.pageTo m (flat ps) 8) := by
      have h := own_row gp (Frm.pageTo m (flat ps) 8) w.heap.size (by omega) (by rw [Frm.length_pageTo m (flat ps) 8 hm8 (by omega)]; unfold maxLen; omega) p1
      rw [Frm.length_pageTo m (flat ps) 8 hm8 (by omega)] at h
      exact h
    have HO := Lib.hid hO
    clear hO p1
    gi_wp2
    refine ⟨by simp, .inl ⟨_, _, rfl, run_takeDeferred hK, ?_⟩⟩
    have hO2 : Mem.Own 5 (W.putObj D (.deferred none)) w.heap.size (.slice (some ⟨gp, 0, none⟩) 4096 4096) (Frm.pageTo m (flat ps) 8) := ownsRow_putObj HO.out _ hK rfl
    exact ⟨_, results_tmp rfl _ _ _, .slice (some ⟨gp, 0, none⟩) 4096 4096, rfl, hO2, hB.trans (belowK_b (w := w) (Nat.le_refl _) W D _ _ (by omega) hK rfl rfl)⟩
  case stop =>
    rintro D c pre W _ _ h _
    exact h.elim
end Go.Proofs.YtnpebfolmdbipaaGreatDoor.Fm
