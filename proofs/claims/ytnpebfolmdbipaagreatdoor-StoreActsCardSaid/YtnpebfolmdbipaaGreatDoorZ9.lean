import Derived.Test.YtnpebfolmdbipaaGreatDoorZ8
import Derived.BigRegion
import Derived.Deep.RegionHeld3
namespace Go.Proofs.YtnpebfolmdbipaaGreatDoor.Sk
set_option maxRecDepth 8000
set_option linter.unusedVariables false
set_option linter.unusedSimpArgs false
open Go.RowKit Mem Go.ChangeMaps
open Dk (cod elem cod_inj elem_mk elem_inv key key_inj wf_key keyed3 MapIs Fr ptr hmf cell_alloc cell_alloc_new zero42 IsD Dsk Lay drewN_cell Kp ref_zero newD newY)
/-! ### A new one -/
def rv0 : Rv := ⟨0, fun _ => [], fun _ => false, fun _ => false, fun _ => false, false⟩
structure NewV (w wz : World) (g n : Nat) (h : Vh) : Prop where
  row : wz.rowIs g 73 6 (vcell n rv0 h)
  rows : RowsAt wz n h rv0
  lo : ∀ i, i < 4 → w.heap.size ≤ h.b i
  inj : ∀ i j, i < 4 → j < 4 → h.b i = h.b j → i = j
  bel : Below w.heap.size w wz
theorem newV_of {w wz : World} {g n p1 p2 p3 p4 : Nat} {R1 R2 : Array Value} (e1 : R1 = madeCells #[.string ByteArray.empty] n) (e2 : R2 = madeCells #[.bool false] n) (hn : n ≤ 4096)
    (hg : wz.heap[g]? = some (.cells #[.int .i64 0, .slice (some ⟨p1, 0, none⟩) n n, .slice (some ⟨p2, 0, none⟩) n n, .slice (some ⟨p3, 0, none⟩) n n, .slice (some ⟨p4, 0, none⟩) n n, .bool false] 73 (0, 0)))
    (h1 : wz.heap[p1]? = some (.cells R1 9 (0, 0))) (h2 : wz.heap[p2]? = some (.cells R2 4 (0, 0))) (h3 : wz.heap[p3]? = some (.cells R2 4 (0, 0))) (h4 : wz.heap[p4]? = some (.cells R2 4 (0, 0)))
    (hb : Below w.heap.size w wz) (lo : w.heap.size ≤ p1 ∧ w.heap.size ≤ p2 ∧ w.heap.size ≤ p3 ∧ w.heap.size ≤ p4) (ne : p1 ≠ p2 ∧ p1 ≠ p3 ∧ p1 ≠ p4 ∧ p2 ≠ p3 ∧ p2 ≠ p4 ∧ p3 ≠ p4) :
    ∃ g' h, (Value.pointer (some ⟨g, 0, none⟩) = .pointer (some ⟨g', 0, none⟩)) ∧ NewV w wz g' n h := by
  subst e1; subst e2
  have sz : ∀ z : Value, (madeCells #[z] n).size = n := fun z => by have := size_madeCells #[z] n; simpa using this
  have at' : ∀ (z : Value) (j : Nat), j < n → (madeCells #[z] n)[j]? = some z := fun z j hj => by simp [madeCells, hj, Nat.mod_one]
  refine ⟨g, ⟨fun i => if i = 0 then p1 else if i = 1 then p2 else if i = 2 then p3 else p4, fun _ => n⟩, rfl, ⟨⟨_, hg, rfl, fun i hi => ?_⟩, fun i hi => ?_, fun i hi => ?_, fun i j hi hj e => ?_, hb⟩⟩
  · rcases (by omega : i = 0 ∨ i = 1 ∨ i = 2 ∨ i = 3 ∨ i = 4 ∨ i = 5) with rfl | rfl | rfl | rfl | rfl | rfl <;> rfl
  · rcases (by omega : i = 0 ∨ i = 1 ∨ i = 2 ∨ i = 3) with rfl | rfl | rfl | rfl
    · exact RowAt.of _ h1 (Nat.le_refl _) (by show n ≤ maxLen; unfold maxLen; omega) (sz _) fun j hj => (at' _ j hj).trans (by rfl)
    · exact RowAt.of _ h2 (Nat.le_refl _) (by show n ≤ maxLen; unfold maxLen; omega) (sz _) fun j hj => at' _ j hj
    · exact RowAt.of _ h3 (Nat.le_refl _) (by show n ≤ maxLen; unfold maxLen; omega) (sz _) fun j hj => at' _ j hj
    · exact RowAt.of _ h4 (Nat.le_refl _) (by show n ≤ maxLen; unfold maxLen; omega) (sz _) fun j hj => at' _ j hj
  · rcases (by omega : i = 0 ∨ i = 1 ∨ i = 2 ∨ i = 3) with rfl | rfl | rfl | rfl
    · exact lo.1
    · exact lo.2.1
    · exact lo.2.2.1
    · exact lo.2.2.2
  · have e' : (if i = 0 then p1 else if i = 1 then p2 else if i = 2 then p3 else p4) = (if j = 0 then p1 else if j = 1 then p2 else if j = 2 then p3 else p4) := e
    rcases (by omega : i = 0 ∨ i = 1 ∨ i = 2 ∨ i = 3) with rfl | rfl | rfl | rfl <;> rcases (by omega : j = 0 ∨ j = 1 ∨ j = 2 ∨ j = 3) with rfl | rfl | rfl | rfl <;> first | rfl | (simp at e'; omega)
theorem NewV.drew {w wz : World} {v : Value} {n : Nat} (h : ∃ g h, v = .pointer (some ⟨g, 0, none⟩) ∧ NewV w wz g n h) : ∃ g h, v = .pointer (some ⟨g, 0, none⟩) ∧ NewV w wz.drew g n h := by
  obtain ⟨g, h, e, N⟩ := h
  exact ⟨g, h, e, N.row, N.rows.keep fun _ _ => rfl, N.lo, N.inj, N.bel.drew⟩
theorem alloc_at (w : World) (o : Obj) {k : Nat} (hk : k = w.heap.size) : (w.alloc o).heap[k]? = some o := by subst hk; exact heap_alloc_new w o
theorem alloc_old (w : World) (o : Obj) {k : Nat} (hk : k < w.heap.size) : (w.alloc o).heap[k]? = w.heap[k]? := Below.heap_alloc _ _ _ hk
end Go.Proofs.YtnpebfolmdbipaaGreatDoor.Sk

namespace Go.Proofs.YtnpebfolmdbipaaGreatDoor.Sk
set_option maxRecDepth 8000
set_option linter.unusedVariables false
set_option linter.unusedSimpArgs false
open Go.RowKit Mem Go.ChangeMaps
open Dk (cod elem cod_inj elem_mk elem_inv key key_inj wf_key keyed3 MapIs Fr ptr hmf cell_alloc cell_alloc_new zero42 IsD Dsk Lay drewN_cell Kp ref_zero newD newY)
def Rst.zero : Rst := ⟨rv0, rv0, []⟩
def newRole (rb : Nat) (h' h : Vh) (k : Nat) : Option RRole := if k = rb then some .store else nowRole (constRole (fun _ => none) h) h' k
def newLay (rb : Nat) (h' h : Vh) : RLay := ⟨h', h, .slice none 0 0, [], newRole rb h' h⟩
theorem new_is {w wz w1 : World} {g n : Nat} {h h' : Vh} (N : NewV w wz g n h) (hr : RowsAt w1 n h' rv0) (lo : ∀ i, i < 4 → wz.heap.size ≤ h'.b i) (inj : ∀ i j, i < 4 → j < 4 → h'.b i = h'.b j → i = j) (hb : Below wz.heap.size wz w1) (h4 : 4 ≤ n) (h5 : n ≤ 4096) :
    IsR (w1.alloc (.cells ((vcs n (h', rv0) ++ vcs n (h, rv0)) ++ [Value.slice none 0 0]).toArray 77)) w1.heap.size n (newLay w1.heap.size h' h) Rst.zero ∧ Below w.heap.size w (w1.alloc (.cells ((vcs n (h', rv0) ++ vcs n (h, rv0)) ++ [Value.slice none 0 0]).toArray 77)) ∧ ∀ k, (newLay w1.heap.size h' h).foot k → w.heap.size ≤ k := by
  have hz := N.bel.size
  have h1 : ∀ i, i < 4 → h.b i < wz.heap.size := fun i hi => (N.rows i hi).lt
  have h2 : ∀ i, i < 4 → h'.b i < w1.heap.size := fun i hi => (hr i hi).lt
  have hs := hb.size
  have hfoot : ∀ k, (newLay w1.heap.size h' h).foot k → k = w1.heap.size ∨ (∃ i, i < 4 ∧ k = h'.b i) ∨ ∃ i, i < 4 ∧ k = h.b i := fun k e => by
    by_cases e1 : k = w1.heap.size
    · exact .inl e1
    · have e3 : newRole w1.heap.size h' h k ≠ none := e
      unfold newRole at e3; rw [if_neg e1] at e3
      rcases nowRole_foot e3 with e4 | e4
      · exact .inr (.inl e4)
      · refine .inr (.inr ?_)
        by_cases e2 : k = h.b 0 ∨ k = h.b 1 ∨ k = h.b 2 ∨ k = h.b 3
        · exact e2.elim (fun e2 => ⟨0, by omega, e2⟩) fun e2 => e2.elim (fun e2 => ⟨1, by omega, e2⟩) fun e2 => e2.elim (fun e2 => ⟨2, by omega, e2⟩) (fun e2 => ⟨3, by omega, e2⟩)
        · unfold constRole at e4; rw [if_neg e2] at e4; exact absurd rfl e4
  refine ⟨{
    row := ?_
    now := fun i hi => (hr i hi).of_block (Below.heap_alloc _ _ _ (h2 i hi))
    was := fun i hi => ((N.rows i hi).of_block (hb.block _ (h1 i hi))).of_block (Below.heap_alloc _ _ _ (by have := h1 i hi; omega))
    mks := World.ownsRow_nil _ _ _ _
    mm := rfl
    mr := fun x hx => by cases hx
    rs := if_pos rfl
    rn := fun i hi => by
      show newRole w1.heap.size h' h (h'.b i) = _
      unfold newRole; rw [if_neg (by have := h2 i hi; omega)]; exact nowRole_new inj i hi
    rws := fun i hi => by
      show newRole w1.heap.size h' h (h.b i) = _
      unfold newRole; rw [if_neg (by have := h1 i hi; omega)]
      exact nowRole_old (fun j hj e => by have := h1 i hi; have := lo j hj; omega) (constRole_new _ h i hi) (by simp)
    rm := fun x hx => by cases hx
    ro := fun k e => by cases e
    foot := fun k e => ?_
    n0 := by omega, n2 := h5 }, ?_, fun k e => ?_⟩
  · have := World.rowIs_alloc w1 ((vcs n (h', rv0) ++ vcs n (h, rv0)) ++ [Value.slice none 0 0]).toArray 77 (rcells n (newLay w1.heap.size h' h) Rst.zero) (fun i hi => by
      have hi : i < 13 := hi
      rcases (by omega : i = 0 ∨ i = 1 ∨ i = 2 ∨ i = 3 ∨ i = 4 ∨ i = 5 ∨ i = 6 ∨ i = 7 ∨ i = 8 ∨ i = 9 ∨ i = 10 ∨ i = 11 ∨ i = 12) with rfl | rfl | rfl | rfl | rfl | rfl | rfl | rfl | rfl | rfl | rfl | rfl | rfl <;> rfl)
    exact this
  · rw [World.size_alloc]
    rcases hfoot k e with e | ⟨i, hi, e⟩ | ⟨i, hi, e⟩
    · omega
    · have := h2 i hi; omega
    · have := h1 i hi; omega
  · exact (N.bel.trans (hb.mono hz)).alloc (by omega) _
  · rcases hfoot k e with e | ⟨i, hi, e⟩ | ⟨i, hi, e⟩
    · omega
    · have := lo i hi; omega
    · have := N.lo i hi; omega
set_option maxHeartbeats 40000000 in
theorem rnew_any (n : Nat) (w : World) (h1 : 4 ≤ n) (h2 : n ≤ 4096) :
    Calls Tryz.prog 11 #[.int .i64 (n : Int)] w fun e w' => ∃ rb yr, e = .returned (.pointer (some ⟨rb, 0, none⟩)) ∧ IsR w' rb n yr Rst.zero ∧ Below w.heap.size w w' ∧ ∀ k, yr.foot k → w.heap.size ≤ k := by
  have mk59 : ∀ W, (Instr.makeSlice 59 (.int .i64 (n : Int)) (.int .i64 (n : Int))).run Tryz.prog W = .ok (.slice (some ⟨W.heap.size, 0, none⟩) n n) (W.alloc (.cells (madeCells #[.string ByteArray.empty] n) 9)) := fun W => run_make_row' 59 9 _ 16 Tryz.underlying59 info9 rfl .i64 .i64 n (by omega) (by omega) W
  have mk71 : ∀ W, (Instr.makeSlice 71 (.int .i64 (n : Int)) (.int .i64 (n : Int))).run Tryz.prog W = .ok (.slice (some ⟨W.heap.size, 0, none⟩) n n) (W.alloc (.cells (madeCells #[.bool false] n) 4)) := fun W => run_make_row' 71 4 _ 1 Tryz.underlying71 info4b rfl .i64 .i64 n (by omega) (by omega) W
  obtain ⟨R1, e1⟩ : ∃ R1, R1 = madeCells #[.string ByteArray.empty] n := ⟨_, rfl⟩
  obtain ⟨R2, e2⟩ : ∃ R2, R2 = madeCells #[.bool false] n := ⟨_, rfl⟩
  rw [← e1] at mk59
  rw [← e2] at mk71
  have E1 := Lib.hid e1
  have E2 := Lib.hid e2
  clear e1 e2
  go_enter Tryz.func11, Tryz.ntmps11
  go_wp2
  go_cut [3] (fun v wz => Hid (∃ g h, v = .pointer (some ⟨g, 0, none⟩) ∧ NewV w wz g n h))
  case first =>
    go_region
    all_goals
      go_wp2_with fail
      go_meet
      refine Lib.hid (NewV.drew ?_)
      apply newV_of E1.out E2.out h2
      · iterate 6 first | done | (refine alloc_at _ _ ?_; (first | rfl | (simp only [World.size_alloc]; done))) | (refine (alloc_old _ _ ?_).trans ?_; ((try simp only [World.size_alloc]); omega))
      · iterate 6 first | done | (refine alloc_at _ _ ?_; (first | rfl | (simp only [World.size_alloc]; done))) | (refine (alloc_old _ _ ?_).trans ?_; ((try simp only [World.size_alloc]); omega))
      · iterate 6 first | done | (refine alloc_at _ _ ?_; (first | rfl | (simp only [World.size_alloc]; done))) | (refine (alloc_old _ _ ?_).trans ?_; ((try simp only [World.size_alloc]); omega))
      · iterate 6 first | done | (refine alloc_at _ _ ?_; (first | rfl | (simp only [World.size_alloc]; done))) | (refine (alloc_old _ _ ?_).trans ?_; ((try simp only [World.size_alloc]); omega))
      · iterate 6 first | done | (refine alloc_at _ _ ?_; (first | rfl | (simp only [World.size_alloc]; done))) | (refine (alloc_old _ _ ?_).trans ?_; ((try simp only [World.size_alloc]); omega))
      · iterate 6 first | done | exact Below.refl _ _ | (refine Below.alloc ?_ ?_ _; rotate_left; ((try simp only [World.size_alloc]); omega))
      · omega
      · omega
  case rest =>
    obtain ⟨g, h, rfl, hN⟩ := hcut.out
    have N := Lib.hid hN
    have CP := Lib.hid (copy_any wc.drew n rv0 h (hN.rows.keep fun _ _ => rfl) (by omega) h2)
    have f0 : wc.cell? ⟨g, 0, none⟩ = some (.int .i64 0) := hN.row.cell (i := 0) (by omega)
    have f1 : wc.cell? ⟨g, 1, none⟩ = some (.slice (some ⟨h.b 0, 0, none⟩) n (h.c 0)) := hN.row.cell (i := 1) (by omega)
    have f2 : wc.cell? ⟨g, 2, none⟩ = some (.slice (some ⟨h.b 1, 0, none⟩) n (h.c 1)) := hN.row.cell (i := 2) (by omega)
    have f3 : wc.cell? ⟨g, 3, none⟩ = some (.slice (some ⟨h.b 2, 0, none⟩) n (h.c 2)) := hN.row.cell (i := 3) (by omega)
    have f4 : wc.cell? ⟨g, 4, none⟩ = some (.slice (some ⟨h.b 3, 0, none⟩) n (h.c 3)) := hN.row.cell (i := 4) (by omega)
    have f5 : wc.cell? ⟨g, 5, none⟩ = some (.bool false) := hN.row.cell (i := 5) (by omega)
    have HK := Lib.hid (fun (w1 : World) (hb : Below wc.drew.heap.size wc.drew w1) => show (w1.cell? ⟨g, 0, none⟩ = some (.int .i64 0) ∧ w1.cell? ⟨g, 1, none⟩ = some (.slice (some ⟨h.b 0, 0, none⟩) n (h.c 0)) ∧ w1.cell? ⟨g, 2, none⟩ = some (.slice (some ⟨h.b 1, 0, none⟩) n (h.c 1)) ∧ w1.cell? ⟨g, 3, none⟩ = some (.slice (some ⟨h.b 2, 0, none⟩) n (h.c 2)) ∧ w1.cell? ⟨g, 4, none⟩ = some (.slice (some ⟨h.b 3, 0, none⟩) n (h.c 3)) ∧ w1.cell? ⟨g, 5, none⟩ = some (.bool false)) from by
      have hlt : g < wc.drew.heap.size := hN.row.lt
      have e : ∀ j, w1.cell? ⟨g, j, none⟩ = wc.cell? ⟨g, j, none⟩ := fun j => World.cell?_of_block (hb.block g hlt)
      rw [e 0, e 1, e 2, e 3, e 4, e 5]
      exact ⟨f0, f1, f2, f3, f4, f5⟩)
    clear hN hcut
    go_wp2
    go_region_held3 (fun w' => w'.cell? ⟨g, 0, none⟩ = some (.int .i64 0) ∧ w'.cell? ⟨g, 1, none⟩ = some (.slice (some ⟨h.b 0, 0, none⟩) n (h.c 0)) ∧ w'.cell? ⟨g, 2, none⟩ = some (.slice (some ⟨h.b 1, 0, none⟩) n (h.c 1)) ∧ w'.cell? ⟨g, 3, none⟩ = some (.slice (some ⟨h.b 2, 0, none⟩) n (h.c 2)) ∧ w'.cell? ⟨g, 4, none⟩ = some (.slice (some ⟨h.b 3, 0, none⟩) n (h.c 3)) ∧ w'.cell? ⟨g, 5, none⟩ = some (.bool false))
      (first | exact HK.out _ (HB1.out.alloc HB1.out.size _) | exact HK.out _ HB1.out | exact HK.out _ (Below.refl _ _))
      (first | (go_at_call 46; refine CP.out.mono ?_; rintro e w1 ⟨h', rfl, hr, lo, inj, hb⟩; have HB1 := Lib.hid hb; have HX := Lib.hid (And.intro hr (And.intro lo inj)); clear hr lo inj hb))
    go_wp2
    go_ret
    have hI := new_is (w := w) N.out HX.out.1 HX.out.2.1 HX.out.2.2 ((Below.refl _ wc).drew.trans HB1.out) h1 h2
    exact ⟨w1.heap.size, _, rfl, hI.1, hI.2.1, hI.2.2⟩
end Go.Proofs.YtnpebfolmdbipaaGreatDoor.Sk

