import Derived.Test.YthaleikmdoijbaaTi2
namespace Go.Proofs.Ythaleikmdoijbaa.Ti
set_option linter.unusedVariables false
set_option linter.unusedSimpArgs false
open Go.RowKit Mem Mo
attribute [local go_sem] Oper.semAt_some

/-- The price of n units, and what comes beside it. -/
def pca (ok : Bool) (n : Int) (u p : Nat → Int) (m : Nat) : Int := if ok && decide (0 ≤ n) then na (cst n u p m) else 0
def pce (ok : Bool) (n : Int) (u p : Nat → Int) (m : Nat) : Int := if ok && decide (0 ≤ n) then ne (cst n u p m) else 1

set_option maxHeartbeats 1000000 in
theorem Price_no (A : Option Addr) (c m : Nat) (u p : Nat → Int) (n : Int) (w : World) (B : Nat) (hr : RdT w B A c u p m) (hB : B ≤ w.heap.size) (h : n < 0 ∨ (0 ≤ n ∧ okB u p m = false)) :
    Calls Try.prog 8 #[.slice A m c, .int .i64 n] w fun e w' => e = .returned (.tuple #[.int .i64 0, .int .i64 1]) ∧ Below w.heap.size w w' := by
  have C := Lib.hid (fun W (h : Below w.heap.size w W) => Check_any A c m u p W B (hr.below (h.mono hB)) (Nat.le_trans hB h.size))
  clear hr hB
  have HV : Hid (VN ((w.alloc (.cells #[.int .i64 0] 2)).alloc (.cells #[.int .i64 0] 23)) w.heap.size [.int .i64 0] ∧ VN ((w.alloc (.cells #[.int .i64 0] 2)).alloc (.cells #[.int .i64 0] 23)) (w.heap.size + 1) [.int .i64 0]) :=
    Lib.hid ⟨(VN.new w #[.int .i64 0] 2).alloc _, by have := VN.new (w.alloc (.cells #[.int .i64 0] 2)) #[.int .i64 0] 23; rwa [World.size_alloc] at this⟩
  have HB := Lib.hid (show Below w.heap.size w ((w.alloc (.cells #[.int .i64 0] 2)).alloc (.cells #[.int .i64 0] 23)) from ((Below.refl _ _).alloc (Nat.le_refl _) _).alloc (by simp) _)
  rcases h with h | ⟨h, ho⟩
  · have z1 : (n < 0) = True := by simp [h]
    clear h C
    go_enter Try.func8, Try.ntmps8
    go_wp2_with fail
    have v1 := (VN.new w #[.int .i64 0] 2).alloc (.cells #[.int .i64 1] 23)
    have v2 := VN.new (w.alloc (.cells #[.int .i64 0] 2)) #[.int .i64 1] 23
    rw [World.size_alloc] at v2
    exact bodyPost_ret (results_price _ _ w.heap.size (w.heap.size + 1) (.int .i64 0) (.int .i64 1) rfl rfl (v1.c 0 _ rfl) (v2.c 0 _ rfl)) rfl ⟨rfl, ((Below.refl _ _).alloc (Nat.le_refl _) _).alloc (by simp) _⟩
  · have z1 : (n < 0) = False := by simp; omega
    rw [ho] at C
    clear h ho
    go_enter Try.func8, Try.ntmps8
    go_wp2_with fail
    refine (C.out _ HB.out).mono ?_
    rintro e w1 ⟨rfl, hb⟩
    have V1 := Lib.hid (HV.out.1.bel hb)
    have V2 := Lib.hid (HV.out.2.bel hb)
    have B1 := Lib.hid (HB.out.trans (hb.mono HB.out.size))
    clear hb
    have c4 := V1.out.c 0 _ rfl
    have c5 := V2.out.c 0 _ rfl
    have z4 := V1.out.z 0
    have z5 := V2.out.z 0
    go_wp2_with fail
    refine bodyPost_ret (results_price _ _ w.heap.size (w.heap.size + 1) (.int .i64 0) (.int .i64 1) rfl rfl ?_ ?_) rfl ⟨rfl, (B1.out.setCell (p := ⟨w.heap.size, 0, none⟩) (by simp) _).setCell (p := ⟨w.heap.size + 1, 0, none⟩) (by simp) _⟩
    · exact ((V1.out.set 0 (by simp) _).other (by simp) _).c 0 _ rfl
    · exact ((V2.out.other (by simp) _).set 0 (by simp) _).c 0 _ rfl
end Go.Proofs.Ythaleikmdoijbaa.Ti
