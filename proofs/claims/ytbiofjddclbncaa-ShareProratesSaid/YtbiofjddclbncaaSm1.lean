import Derived.Test.YtbiofjddclbncaaSm0
import Derived.Test.YtbiofjddclbncaaMo5
import Derived.Test.YtbiofjddclbncaaProg
import Derived.Deep.QuietTactic
import Derived.BigQuiet
import Derived.BigRegion
namespace Go.Proofs.Ytbiofjddclbncaa.Sr
set_option linter.unusedVariables false
set_option linter.unusedSimpArgs false
open Go.RowKit Mem Mo

/-- How two numbers stand to each other. -/
def cv (a b : Int) : Int := if a < b then -1 else if b < a then 1 else 0
theorem cv_neg (a b : Int) : cv a b < 0 ↔ a < b := by unfold cv; split; omega; split <;> omega
theorem isNaN_any (a : Int) (w : World) : Calls Try.prog 43 #[.int .i64 a] w fun e w' => e = .returned (.bool false) ∧ w' = w := by
  go_enter Try.func43, Try.ntmps43
  go_wp2_with fail
  go_ret
  exact ⟨by simp, rfl⟩
theorem cmp_any (a b : Int) (w : World) : Calls Try.prog 33 #[.int .i64 a, .int .i64 b] w fun e w' => e = .returned (.int .i64 (cv a b)) ∧ w' = w := by
  have C := Lib.hid (fun x W => isNaN_any x W)
  unfold cv
  by_cases h1 : a < b
  · rw [if_pos h1]
    go_enter Try.func33, Try.ntmps33
    go_wp2_with fail
    refine (C.out _ _).mono ?_
    rintro e w1 ⟨rfl, rfl⟩
    go_wp2_with fail
    refine (C.out _ _).mono ?_
    rintro e w1 ⟨rfl, rfl⟩
    go_wp2_with fail
    go_ret
    exact ⟨rfl, rfl⟩
  · rw [if_neg h1]
    by_cases h2 : b < a
    · rw [if_pos h2]
      go_enter Try.func33, Try.ntmps33
      go_wp2_with fail
      refine (C.out _ _).mono ?_
      rintro e w1 ⟨rfl, rfl⟩
      go_wp2_with fail
      refine (C.out _ _).mono ?_
      rintro e w1 ⟨rfl, rfl⟩
      go_wp2_with fail
      go_ret
      exact ⟨rfl, rfl⟩
    · rw [if_neg h2]
      go_enter Try.func33, Try.ntmps33
      go_wp2_with fail
      refine (C.out _ _).mono ?_
      rintro e w1 ⟨rfl, rfl⟩
      go_wp2_with fail
      refine (C.out _ _).mono ?_
      rintro e w1 ⟨rfl, rfl⟩
      go_wp2_with fail
      go_ret
      exact ⟨rfl, rfl⟩

/-- What the comparison reads: the rests, in a variable. -/
structure Cm (W : World) (bx rb ro n c : Nat) (r : Nat → Int) : Prop where
  x : W.cell? ⟨bx, 0, none⟩ = some (.slice (some ⟨rb, ro, none⟩) n c)
  k : ∀ k, k < n → W.cell? ⟨rb, ro + k, none⟩ = some (.int .i64 (r k))
theorem less_any {bx rb ro n c : Nat} {r : Nat → Int} {W : World} (h : Cm W bx rb ro n c r) {x y : Nat} (hx : x < n) (hy : y < n) :
    Calls Try.prog 32 #[.int .i64 x, .int .i64 y, .pointer (some ⟨bx, 0, none⟩)] W fun e w' => e = .returned (.int .i64 (cv (r y) (r x))) ∧ ∃ m, w' = W.drewN m := by
  have C := Lib.hid (fun a b V => cmp_any a b V)
  have h0 := h.x
  have h1 := h.k x hx
  have h2 := h.k y hy
  clear h
  generalize r x = a at *
  generalize r y = b at *
  have i1 : (x : Int) < (n : Int) := by omega
  have i2 : (y : Int) < (n : Int) := by omega
  go_enter Try.func32, Try.ntmps32
  go_wp2_with fail
  go_quiet (first | (go_at_call 33; refine Calls.quiet_of_same (C.out _ _ _)))
  rename_i nq
  go_wp2_with fail
  go_ret
  exact ⟨rfl, nq, rfl⟩

/-- The row that is sorted: S k at place k. -/
structure RowAt (W : World) (g n : Nat) (S : Nat → Nat) : Prop where
  lt : g < W.heap.size
  c : ∀ k, k < n → W.cell? ⟨g, k, none⟩ = some (.int .i64 (S k : Nat))
  z : ∀ i, W.frozen? ⟨g, i, none⟩ = false
/-- All but block g is as it was. -/
structure Ex (g : Nat) (w W : World) : Prop where
  os : W.os = w.os
  tape : W.tape = w.tape
  out : W.output = w.output
  size : w.heap.size ≤ W.heap.size
  blk : ∀ k, k < w.heap.size → k ≠ g → W.heap[k]? = w.heap[k]?
theorem Ex.refl (g : Nat) (w : World) : Ex g w w := ⟨rfl, rfl, rfl, Nat.le_refl _, fun _ _ _ => rfl⟩
theorem Ex.trans {g : Nat} {u v w : World} (h : Ex g u v) (k : Ex g v w) : Ex g u w :=
  ⟨k.os.trans h.os, k.tape.trans h.tape, k.out.trans h.out, Nat.le_trans h.size k.size, fun i hi hne => (k.blk i (Nat.lt_of_lt_of_le hi h.size) hne).trans (h.blk i hi hne)⟩
theorem Ex.set {g : Nat} {w W : World} (h : Ex g w W) (i : Nat) (u : Value) : Ex g w (W.setCell ⟨g, i, none⟩ u) :=
  ⟨h.os, h.tape, h.out, by rw [size_setCell]; exact h.size, fun k hk hne => (Below.heap_setCell _ _ _ k hne).trans (h.blk k hk hne)⟩
theorem Ex.drewN {g : Nat} {w W : World} (h : Ex g w W) (n : Nat) : Ex g w (W.drewN n) := ⟨h.os, h.tape, h.out, h.size, h.blk⟩
theorem Ex.drew {g : Nat} {w W : World} (h : Ex g w W) : Ex g w W.drew := ⟨h.os, h.tape, h.out, h.size, h.blk⟩
theorem Ex.cell {g : Nat} {w W : World} (h : Ex g w W) {p : Addr} (hp : p.block < w.heap.size) (hne : p.block ≠ g) : W.cell? p = w.cell? p := World.cell?_of_block (h.blk _ hp hne)
theorem RowAt.drewN {W : World} {g n : Nat} {S : Nat → Nat} (h : RowAt W g n S) (m : Nat) : RowAt (W.drewN m) g n S := ⟨h.lt, h.c, h.z⟩
theorem RowAt.drew {W : World} {g n : Nat} {S : Nat → Nat} (h : RowAt W g n S) : RowAt W.drew g n S := ⟨h.lt, h.c, h.z⟩
theorem RowAt.swap {W : World} {g n : Nat} {S : Nat → Nat} (h : RowAt W g n S) {i j : Nat} (hi : i < n) (hj : j < n) (hij : i ≠ j) : RowAt ((W.setCell ⟨g, i, none⟩ (.int .i64 (S j : Nat))).setCell ⟨g, j, none⟩ (.int .i64 (S i : Nat))) g n (swp S i j) := by
  have z1 : ∀ a : Nat, (W.setCell ⟨g, i, none⟩ (.int .i64 (S j : Nat))).frozen? ⟨g, a, none⟩ = false := fun a => (World.frozen?_setCell _ _ _ _).trans (h.z a)
  refine ⟨by rw [size_setCell, size_setCell]; exact h.lt, fun k hk => ?_, fun a => (World.frozen?_setCell _ _ _ _).trans (z1 a)⟩
  unfold swp
  by_cases e1 : k = i
  · subst e1
    rw [if_pos rfl]
    exact (World.cell?_setCell_other _ _ _ _ (fun e => hij (by injection e with _ e3 _; exact e3.symm))).trans (World.cell?_setCell_same _ _ _ (h.c k hk))
  · rw [if_neg e1]
    have o1 : (W.setCell ⟨g, i, none⟩ (.int .i64 (S j : Nat))).cell? ⟨g, k, none⟩ = some (.int .i64 (S k : Nat)) := (World.cell?_setCell_other _ _ _ _ (fun e => e1 (by injection e with _ e3 _; exact e3.symm))).trans (h.c k hk)
    by_cases e2 : k = j
    · subst e2
      rw [if_pos rfl]
      exact World.cell?_setCell_same _ _ _ o1
    · rw [if_neg e2]
      exact (World.cell?_setCell_other _ _ _ _ (fun e => e2 (by injection e with _ e3 _; exact e3.symm))).trans o1
theorem Cm.ex {g bx rb ro n c : Nat} {r : Nat → Int} {w W : World} (h : Cm w bx rb ro n c r) (e : Ex g w W) (h1 : bx < w.heap.size ∧ bx ≠ g) (h2 : rb < w.heap.size ∧ rb ≠ g) : Cm W bx rb ro n c r :=
  ⟨(e.cell (p := ⟨bx, 0, none⟩) h1.1 h1.2).trans h.x, fun k hk => (e.cell (p := ⟨rb, ro + k, none⟩) h2.1 h2.2).trans (h.k k hk)⟩
theorem w64 {n : Nat} (h : n < 4611686018427387904) : IntKind.i64.wrap (n : Int) = n := by rw [IntKind.wrap_i64]; omega

set_option maxHeartbeats 1000000 in
theorem swapRange_any (f : Value) (g n c p q m : Nat) (S : Nat → Nat) (W : World) (hR : RowAt W g n S) (hpq : p + m ≤ q) (hq : q + m ≤ n) (hn : n ≤ c) (hn1 : n ≤ 1000) :
    Calls Try.prog 48 #[.slice (some ⟨g, 0, none⟩) n c, .int .i64 p, .int .i64 q, .int .i64 m, f] W fun e w' => e = .returned (.tuple #[]) ∧ RowAt w' g n (swr S p q m) ∧ Ex g W w' := by
  have HR := Lib.hid hR
  have HB := Lib.hid (show p + m ≤ q ∧ q + m ≤ n from ⟨hpq, hq⟩)
  clear hR hpq hq
  go_enter Try.func48, Try.ntmps48
  go_wp2_with fail
  go_loopw [10] (fun v wr => ∃ k : Nat, k ≤ m ∧ v = .int .i64 k ∧ Hid (RowAt wr g n (swr S p q k)) ∧ Hid (Ex g W wr)) (fun v _ => m - (intOf v).toNat)
  · exact ⟨0, by omega, rfl, Lib.hid (by rw [swr_zero]; exact HR.out), Lib.hid (Ex.refl _ _)⟩
  · obtain ⟨k, hk, rfl, HX, HE⟩ := hrel
    by_cases hkm : k < m
    · have hb := HB.out
      have c1 := HX.out.c (p + k) (by omega)
      have c2 := HX.out.c (q + k) (by omega)
      have z1 := HX.out.z (p + k)
      have z2 := HX.out.z (q + k)
      have w1 : IntKind.i64.wrap ((p : Int) + (k : Int)) = ((p + k : Nat) : Int) := by rw [IntKind.wrap_i64]; omega
      have w2 : IntKind.i64.wrap ((q : Int) + (k : Int)) = ((q + k : Nat) : Int) := by rw [IntKind.wrap_i64]; omega
      have HS := Lib.hid (HX.out.swap (i := p + k) (j := q + k) (by omega) (by omega) (by omega))
      rw [swr_step S (by omega)] at HS
      have i1 : p + k < n := by omega
      have i2 : q + k < n := by omega
      obtain ⟨x, hx⟩ := named (p + k)
      obtain ⟨y, hy⟩ := named (q + k)
      have hxy : x ≠ y := by omega
      rw [hx] at c1 z1 w1 HS i1
      rw [hy] at c2 z2 w2 HS i2
      have j1 : (x : Int) < (n : Int) := by omega
      have j2 : (y : Int) < (n : Int) := by omega
      have hkb : k < 1000 := by omega
      clear hb hx hy
      generalize swr S p q k x = vx at *
      generalize swr S p q k y = vy at *
      go_wp2_with fail
      go_region
      all_goals
        go_wp2_with fail
        go_roundw
        case rel => exact ⟨k + 1, by omega, by go_num, Lib.hid HS.out.drew, Lib.hid (((HE.out.drew).set _ _).set _ _)⟩
        case measure => simp [intOf]; omega
    · obtain rfl : k = m := by omega
      go_wp2_with fail
      go_end0
      exact ⟨rfl, HX.out, HE.out⟩
end Go.Proofs.Ytbiofjddclbncaa.Sr
