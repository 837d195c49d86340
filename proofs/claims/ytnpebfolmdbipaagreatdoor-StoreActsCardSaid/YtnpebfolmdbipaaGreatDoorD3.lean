import Derived.Test.YtnpebfolmdbipaaGreatDoorD2
import Derived.WalkKit
import Derived.Outline
import Derived.ProofKit
import Derived.LoopTactic
namespace Go.Proofs.YtnpebfolmdbipaaGreatDoor.Dk
set_option linter.unusedVariables false
set_option linter.unusedSimpArgs false
open Go.RowKit Mem Go.ChangeMaps
variable {w : World} {db : Nat} {y : Lay} {d : Dsk}

abbrev ptr (db : Nat) : Value := .pointer (some ⟨db, 0, none⟩)
def Dsk.has (d : Dsk) (i : Int) : Bool := decide (0 ≤ i ∧ i < d.n)

theorem IsD.c0 (h : IsD w db y d) : w.cell? ⟨db, 0, none⟩ = some (.slice (some ⟨y.lb, 0, none⟩) d.n d.n) := h.cell 0 (by omega)
theorem IsD.c1 (h : IsD w db y d) : w.cell? ⟨db, 1, none⟩ = some (.map (some y.mb)) := h.cell 1 (by omega)
theorem IsD.c2 (h : IsD w db y d) : w.cell? ⟨db, 2, none⟩ = some y.ov := h.cell 2 (by omega)
theorem IsD.c3 (h : IsD w db y d) : w.cell? ⟨db, 3, none⟩ = some (.bool d.dead) := h.cell 3 (by omega)
theorem IsD.c4 (h : IsD w db y d) : w.cell? ⟨db, 4, none⟩ = some (.bool d.fuse.isSome) := h.cell 4 (by omega)
theorem IsD.c5 (h : IsD w db y d) : w.cell? ⟨db, 5, none⟩ = some (.int .i64 ((d.fuse.getD 0 : Nat) : Int)) := h.cell 5 (by omega)

theorem has_any (h : IsD w db y d) (i : Int) : Calls Tryz.prog 72 #[ptr db, .int .i64 i] w fun e w' => e = .returned (.bool (d.has i)) ∧ w' = w := by
  have h0 := h.c0
  by_cases hi : 0 ≤ i
  · by_cases hn : i < d.n
    · have e : d.has i = true := by simp [Dsk.has, hi, hn]
      rw [e]
      go_enter Tryz.func72, Tryz.ntmps72
      go_wp2
      go_ret
      exact ⟨rfl, rfl⟩
    · have e : d.has i = false := by simp [Dsk.has, hn]
      rw [e]
      go_enter Tryz.func72, Tryz.ntmps72
      go_wp2
      go_ret
      exact ⟨rfl, rfl⟩
  · have e : d.has i = false := by simp [Dsk.has, hi]
    rw [e]
    go_enter Tryz.func72, Tryz.ntmps72
    go_wp2
    go_ret
    exact ⟨rfl, rfl⟩

theorem dead_any (h : IsD w db y d) : Calls Tryz.prog 34 #[ptr db] w fun e w' => e = .returned (.bool d.dead) ∧ w' = w := by
  have h0 := h.c3
  go_enter Tryz.func34, Tryz.ntmps34
  go_wp2
  go_ret
  exact ⟨rfl, rfl⟩
theorem dead_nil (w : World) : Calls Tryz.prog 34 #[.pointer none] w fun e w' => e = .returned (.bool false) ∧ w' = w := by
  go_enter Tryz.func34, Tryz.ntmps34
  go_wp2
  go_ret
  exact ⟨rfl, rfl⟩
theorem size_any (h : IsD w db y d) : Calls Tryz.prog 50 #[ptr db] w fun e w' => e = .returned (.int .i64 d.n) ∧ w' = w := by
  have h0 := h.c0
  go_enter Tryz.func50, Tryz.ntmps50
  go_wp2
  go_ret
  exact ⟨rfl, rfl⟩
theorem size_nil (w : World) : Calls Tryz.prog 50 #[.pointer none] w fun e w' => e = .returned (.int .i64 0) ∧ w' = w := by
  go_enter Tryz.func50, Tryz.ntmps50
  go_wp2
  go_ret
  exact ⟨rfl, rfl⟩

theorem IsD.setDead (h : IsD w db y d) (b : Bool) : IsD (w.setCell ⟨db, 3, none⟩ (.bool b)) db y { d with dead := b } :=
  h.set 3 _ _ (fun j hj => by match j, hj with | 0, _ | 1, _ | 2, _ | 3, _ | 4, _ | 5, _ => rfl) rfl rfl rfl rfl h.fuseOk
theorem IsD.setFr (h : IsD w db y d) (i : Nat) (v : Value) : Fr y.foot w (w.setCell ⟨db, i, none⟩ v) := Fr.setCell _ _ (fun _ => h.fdb) _

theorem kill_any (h : IsD w db y d) : Calls Tryz.prog 42 #[ptr db] w fun e w' => e = .returned (.tuple #[]) ∧ IsD w' db y { d with dead := true } ∧ Kp w y w' y := by
  have h0 := h.c3
  have f0 := h.frozen 3
  have H := Lib.hid h
  clear h
  go_enter Tryz.func42, Tryz.ntmps42
  go_wp2
  first | go_end0 | (simp only [Exit.inBlock, Exit.then]; refine bodyPost_ret (results_none rfl _ _ _) rfl ?_) | refine bodyPost_ret (results_none rfl _ _ _) rfl ?_
  exact ⟨rfl, H.out.setDead true, Kp.same (H.out.setFr _ _)⟩
theorem kill_nil (w : World) : Calls Tryz.prog 42 #[.pointer none] w fun e w' => e = .returned (.tuple #[]) ∧ w' = w := by
  go_enter Tryz.func42, Tryz.ntmps42
  go_wp2
  first | go_end0 | (simp only [Exit.inBlock, Exit.then]; refine bodyPost_ret (results_none rfl _ _ _) rfl ?_) | refine bodyPost_ret (results_none rfl _ _ _) rfl ?_
  exact ⟨rfl, rfl⟩

/-- The fuse behind Fuse(n). -/
def fuseOf (n : Int) : Option Nat := if 0 ≤ n then some n.toNat else none
theorem fuse_row (h : IsD w db y d) (f : Option Nat) (hf : f.getD 0 < 9223372036854775808) : IsD ((w.setCell ⟨db, 4, none⟩ (.bool f.isSome)).setCell ⟨db, 5, none⟩ (.int .i64 ((f.getD 0 : Nat) : Int))) db y { d with fuse := f } := by
  have h1 := h.row.set 4 (.bool f.isSome)
  have h2 := h1.set 5 (.int .i64 ((f.getD 0 : Nat) : Int))
  have ho : ∀ k, k ≠ db → ((w.setCell ⟨db, 4, none⟩ (.bool f.isSome)).setCell ⟨db, 5, none⟩ (.int .i64 ((f.getD 0 : Nat) : Int))).heap[k]? = w.heap[k]? := fun k hk => (Below.heap_setCell _ _ _ _ hk).trans (Below.heap_setCell _ _ _ _ hk)
  have hn : ∀ {k r}, y.role k = some r → r ≠ .disk → k ≠ db := fun e hr e2 => hr (by rw [e2, h.rdb] at e; cases e; rfl)
  exact { h with
    row := h2.congr fun j hj => by match j, hj with | 0, _ | 1, _ | 2, _ | 3, _ | 4, _ | 5, _ => rfl
    lasts := h.lasts.of_block (ho _ (Ne.symm h.ne_lb))
    waits := h.waits.of_block (ho _ (Ne.symm h.ne_mb))
    ord := owns_of_block h.ord fun k e => ho k (hn (h.rob k e) (by simp))
    lastOk := fun j hj => (h.lastOk j hj).of_block fun k e => ho k (hn e (by simp))
    waitOk := fun j hj => (h.waitOk j hj).of_block fun k e => ho k (hn e (by simp))
    foot := fun k hk => by have := h.foot k hk; simpa [World.setCell] using this
    fuseOk := hf }
theorem two_fr (h : IsD w db y d) (i j : Nat) (u v : Value) : Fr y.foot w ((w.setCell ⟨db, i, none⟩ u).setCell ⟨db, j, none⟩ v) :=
  (h.setFr i u).trans (Fr.setCell _ _ (F := y.foot) (fun _ => h.fdb) _) fun _ _ h => h

theorem fuse_nil (w : World) (n : Int) : Calls Tryz.prog 33 #[.pointer none, .int .i64 n] w fun e w' => e = .returned (.tuple #[]) ∧ w' = w := by
  go_enter Tryz.func33, Tryz.ntmps33
  go_wp2
  first | go_end0 | (simp only [Exit.inBlock, Exit.then]; refine bodyPost_ret (results_none rfl _ _ _) rfl ?_) | refine bodyPost_ret (results_none rfl _ _ _) rfl ?_
  exact ⟨rfl, rfl⟩
def Dsk.fuseTo (d : Dsk) (n : Int) : Dsk := if d.dead then d else { d with fuse := fuseOf n }
theorem fuse_any (h : IsD w db y d) (n : Int) (hn : n < 9223372036854775808) : Calls Tryz.prog 33 #[ptr db, .int .i64 n] w fun e w' => e = .returned (.tuple #[]) ∧ IsD w' db y (d.fuseTo n) ∧ Kp w y w' y := by
  have h3 := h.c3
  have h4 := h.c4
  have h5 := h.c5
  have f4 := h.frozen 4
  have f5 := h.frozen 5
  have H := Lib.hid h
  clear h
  by_cases hd : d.dead = true
  · rw [hd] at h3
    have e : d.fuseTo n = d := by simp [Dsk.fuseTo, hd]
    rw [e]
    go_enter Tryz.func33, Tryz.ntmps33
    go_wp2
    first | go_end0 | (simp only [Exit.inBlock, Exit.then]; refine bodyPost_ret (results_none rfl _ _ _) rfl ?_) | refine bodyPost_ret (results_none rfl _ _ _) rfl ?_
    exact ⟨rfl, H.out, Kp.refl _ _⟩
  · have hd' : d.dead = false := by simpa using hd
    rw [hd'] at h3
    by_cases hn0 : 0 ≤ n
    · have e : d.fuseTo n = { d with fuse := some n.toNat } := by simp [Dsk.fuseTo, hd', fuseOf, hn0]
      have em : max n 0 = n := by omega
      rw [e]
      have K := Lib.hid (fuse_row H.out (some n.toNat) (by simp; omega))
      have H2 := Lib.hid hn0
      go_enter Tryz.func33, Tryz.ntmps33
      go_wp2
      first | go_end0 | (simp only [Exit.inBlock, Exit.then]; refine bodyPost_ret (results_none rfl _ _ _) rfl ?_) | refine bodyPost_ret (results_none rfl _ _ _) rfl ?_
      refine ⟨rfl, ?_, ?_⟩
      · have := K.out
        simp only [Option.isSome_some, Option.getD_some, Int.toNat_of_nonneg H2.out] at this
        simpa [*] using this
      · exact Kp.same (two_fr H.out _ _ _ _)
    · have e : d.fuseTo n = { d with fuse := none } := by simp [Dsk.fuseTo, hd', fuseOf, hn0]
      have em : max n 0 = 0 := by omega
      rw [e]
      have K := Lib.hid (fuse_row H.out none (by simp))
      go_enter Tryz.func33, Tryz.ntmps33
      go_wp2
      first | go_end0 | (simp only [Exit.inBlock, Exit.then]; refine bodyPost_ret (results_none rfl _ _ _) rfl ?_) | refine bodyPost_ret (results_none rfl _ _ _) rfl ?_
      refine ⟨rfl, ?_, ?_⟩
      · have := K.out
        simpa [*] using this
      · exact Kp.same (two_fr H.out _ _ _ _)
end Go.Proofs.YtnpebfolmdbipaaGreatDoor.Dk
