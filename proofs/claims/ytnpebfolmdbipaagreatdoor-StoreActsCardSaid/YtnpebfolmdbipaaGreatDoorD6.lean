import Derived.Test.YtnpebfolmdbipaaGreatDoorD5
import Derived.WalkSmall
import Derived.ChangeAlike
import Derived.BigQuiet
import Derived.Deep.QuietTactic
import Derived.RegionTactic
namespace Go.Proofs.YtnpebfolmdbipaaGreatDoor.Dk
set_option linter.unusedVariables false
set_option linter.unusedSimpArgs false
open Go.RowKit Mem Go.ChangeMaps
variable {w : World} {db : Nat} {y : Lay} {d : Dsk}

/-- A new disk. -/
def newD (n : Nat) : Dsk := ⟨n, fun _ => zpage, fun _ => none, [], false, none⟩
def newY (N : Nat) : Lay := ⟨N, N + 1, .slice none 0 0, fun _ => none, fun _ => none, 0, fun k => if k = N then some .lasts else if k = N + 1 then some .waits else if k = N + 2 then some .disk else none⟩
theorem newY_low (N k : Nat) (h : (newY N).foot k) : N ≤ k ∧ k < N + 3 := by
  unfold Lay.foot newY at h
  simp only at h
  split at h
  · omega
  · split at h
    · omega
    · split at h
      · omega
      · exact absurd rfl h

theorem madeAt (w : World) (n : Nat) (h1 : 1 ≤ n) (h2 : n ≤ 4096) :
    IsD (((w.alloc (.cells (madeCells #[.slice none 0 0] n) 36)).alloc (.map #[] 0)).alloc (.cells #[.slice (some ⟨w.heap.size, 0, none⟩) n n, .map (some (w.heap.size + 1)), .slice none 0 0, .bool false, .bool false, .int .i64 0] 98)) (w.heap.size + 2) (newY w.heap.size) (newD n) := by
  have a1 := World.rowIs_made w (.slice none 0 0) n 36
  have a2 := (a1.alloc (.map #[] 0)).alloc (.cells #[.slice (some ⟨w.heap.size, 0, none⟩) n n, .map (some (w.heap.size + 1)), .slice none 0 0, .bool false, .bool false, .int .i64 0] 98)
  have b1 := MapIs.made (w.alloc (.cells (madeCells #[.slice none 0 0] n) 36)) (.slice none 0 0) (zd := .nil) rfl
  have b2 := b1.of_block (w' := ((w.alloc (.cells (madeCells #[.slice none 0 0] n) 36)).alloc (.map #[] 0)).alloc (.cells #[.slice (some ⟨w.heap.size, 0, none⟩) n n, .map (some (w.heap.size + 1)), .slice none 0 0, .bool false, .bool false, .int .i64 0] 98)) (Below.heap_alloc _ _ _ (by simp))
  rw [size_alloc'] at b2
  have c1 := World.rowIs_alloc ((w.alloc (.cells (madeCells #[.slice none 0 0] n) 36)).alloc (.map #[] 0)) #[.slice (some ⟨w.heap.size, 0, none⟩) n n, .map (some (w.heap.size + 1)), .slice none 0 0, .bool false, .bool false, .int .i64 0] 98 (cells (newY w.heap.size) (newD n))
    (fun i hi => by match i, hi with | 0, _ | 1, _ | 2, _ | 3, _ | 4, _ | 5, _ => rfl)
  rw [size_alloc', size_alloc'] at c1
  exact { n1 := h1, n2 := h2, row := c1, lasts := a2, waits := b2, ord := OwnI.nil _ _
          lastOk := fun i _ => rfl, waitOk := fun i _ => trivial, apart := fun i b c b' c' e => by cases e
          rdb := by simp [newY], rlb := by simp [newY], rmb := by simp [newY]
          rob := fun k e => by cases e
          foot := fun k hk => by have := (newY_low _ _ hk).2; simp; omega
          ordLen := Nat.zero_le _, fuseOk := by simp [newD]
          lastLen := fun i _ => zpage_len, waitLen := fun i l _ e => by cases e }

theorem newD_good (n : Nat) : Good (newD n) := ⟨fun i => by simp [newD], List.nodup_nil⟩
/-- disk.New of a number that may be. -/
theorem new_any (n : Nat) (w : World) (h1 : 1 ≤ n) (h2 : n ≤ 4096) :
    Calls Tryz.prog 43 #[.int .i64 n] w fun e w' => e = .returned (.tuple #[ptr (w.heap.size + 2), .int .i64 0]) ∧ IsD w' (w.heap.size + 2) (newY w.heap.size) (newD n) ∧ Below w.heap.size w w' := by
  have hmk := run_make_row' (P := Tryz.prog) 96 36 (.slice none 0 0) 24 Tryz.underlying96 row_info rfl .i64 .i64 n (by omega) (by omega)
  have hmm := @run_makeMap Tryz.prog
  have g1 : ¬ ((n : Int) < 1) := by omega
  have g2 : ¬ ((4096 : Int) < n) := by omega
  have H := Lib.hid (madeAt w n h1 h2)
  clear h1 h2
  go_enter Tryz.func43, Tryz.ntmps43
  go_wp2
  go_ret2
  refine ⟨rfl, H.out, ?_⟩
  exact (((Below.refl _ w).alloc (Nat.le_refl _) _).alloc (by simp) _).alloc (by simp; omega) _
theorem new_bad (n : Int) (w : World) (h : n < 1 ∨ 4096 < n) :
    Calls Tryz.prog 43 #[.int .i64 n] w fun e w' => e = .returned (.tuple #[.pointer none, .int .i64 1]) ∧ w' = w := by
  by_cases g1 : n < 1
  · clear h
    go_enter Tryz.func43, Tryz.ntmps43
    go_wp2
    go_ret2
    exact ⟨rfl, rfl⟩
  · have g2 : 4096 < n := by omega
    clear h
    go_enter Tryz.func43, Tryz.ntmps43
    go_wp2
    go_ret2
    exact ⟨rfl, rfl⟩
end Go.Proofs.YtnpebfolmdbipaaGreatDoor.Dk
