import Derived.Test.YtnaoodaadeimbaaPn1
namespace Go.Proofs.Ytnaoodaadeimbaa.Pl
set_option linter.unusedVariables false
set_option linter.unusedSimpArgs false
open Go.RowKit Mem Ti Mo
theorem box7 (w : World) (v0 v1 v2 v3 v4 v5 v6 : Value) (t : TypeId) :
    (w.alloc (.cells #[v0, v1, v2, v3, v4, v5, v6] t)).cell? ⟨w.heap.size, 0, none⟩ = some v0 ∧ (w.alloc (.cells #[v0, v1, v2, v3, v4, v5, v6] t)).cell? ⟨w.heap.size, 1, none⟩ = some v1 ∧
    (w.alloc (.cells #[v0, v1, v2, v3, v4, v5, v6] t)).cell? ⟨w.heap.size, 2, none⟩ = some v2 ∧ (w.alloc (.cells #[v0, v1, v2, v3, v4, v5, v6] t)).cell? ⟨w.heap.size, 3, none⟩ = some v3 ∧
    (w.alloc (.cells #[v0, v1, v2, v3, v4, v5, v6] t)).cell? ⟨w.heap.size, 4, none⟩ = some v4 ∧ (w.alloc (.cells #[v0, v1, v2, v3, v4, v5, v6] t)).cell? ⟨w.heap.size, 5, none⟩ = some v5 ∧
    (w.alloc (.cells #[v0, v1, v2, v3, v4, v5, v6] t)).cell? ⟨w.heap.size, 6, none⟩ = some v6 := by
  have h := VN.new w #[v0, v1, v2, v3, v4, v5, v6] t
  exact ⟨h.c 0 _ rfl, h.c 1 _ rfl, h.c 2 _ rfl, h.c 3 _ rfl, h.c 4 _ rfl, h.c 5 _ rfl, h.c 6 _ rfl⟩
/-- What is carried on. -/
def car (mo free : Int) : Int := if free < 0 then mo else if mo ≤ free then 0 else mo - free
set_option maxHeartbeats 1000000 in
theorem Carry_any (P : Pln) (A : Option Addr) (c : Nat) (free : Int) (w : World) (h1 : -9223372036854775808 ≤ P.mo ∧ P.mo ≤ 9223372036854775807) (h2 : -9223372036854775808 ≤ free ∧ free ≤ 9223372036854775807) :
    Calls Try.prog 17 #[plv P A c, .int .i64 free] w fun e w' => e = .returned (.int .i64 (car P.mo free)) ∧ Below w.heap.size w w' := by
  unfold plv car
  obtain ⟨i, dy, mo, ov, ro, ba, n, u, p⟩ := P
  simp only at h1 ⊢
  by_cases a : free < 0
  · have z1 : (free < 0) = True := by simp [a]
    rw [if_pos a]
    clear h1 h2 a
    go_enter Try.func17, Try.ntmps17
    go_wp2_with fail
    go_ret
    exact ⟨rfl, (Below.refl _ _).alloc (Nat.le_refl _) _⟩
  · have z1 : (free < 0) = False := by simp; omega
    rw [if_neg a]
    by_cases b : mo ≤ free
    · have z2 : (mo ≤ free) = True := by simp [b]
      rw [if_pos b]
      clear h1 h2 a b
      go_enter Try.func17, Try.ntmps17
      go_wp2_with fail
      go_ret
      exact ⟨rfl, (Below.refl _ _).alloc (Nat.le_refl _) _⟩
    · have z2 : (mo ≤ free) = False := by simp; omega
      have k : wrap64 (mo - free) = mo - free := by unfold wrap64; omega
      rw [if_neg b]
      clear h1 h2 a b
      go_enter Try.func17, Try.ntmps17
      go_wp2_with fail
      go_ret
      exact ⟨by rw [k]; rfl, (Below.refl _ _).alloc (Nat.le_refl _) _⟩
/-- Whether there is room. -/
def isR (P : Pln) (roll : Int) : Bool := may P && decide (0 ≤ roll ∧ roll ≤ 1099511627776)
def rom (P : Pln) (roll : Int) : Int := if isR P roll then P.mo + min P.ro roll else 0
def rer (P : Pln) (roll : Int) : Int := if isR P roll then 0 else 1
set_option maxRecDepth 100000 in
set_option maxHeartbeats 2000000 in
theorem Room_any (P : Pln) (A : Option Addr) (c : Nat) (roll : Int) (w : World) (B : Nat) (hr : RdT w B A c P.u P.p P.n) (hB : B ≤ w.heap.size) (hi : 0 ≤ P.i) :
    Calls Try.prog 18 #[plv P A c, .int .i64 roll] w fun e w' => e = .returned (.tuple #[.int .i64 (rom P roll), .int .i64 (rer P roll)]) ∧ Below w.heap.size w w' := by
  have C := Lib.hid (fun W (h : Below w.heap.size w W) => Check_any P A c W B (hr.below (h.mono hB)) (Nat.le_trans hB h.size) hi)
  have C1 := Lib.hid (fun (W : World) (N : Nat) (e : W.heap.size = N) => (show Calls Try.prog 25 #[.int .i64 1099511627776, .slice (some ⟨N, 0, none⟩) 1 1] (W.alloc (.cells #[.int .i64 roll] 2)) _ from by subst e; exact within_any 1099511627776 (some ⟨W.heap.size, 0, none⟩) 1 [roll] 1 rfl _ (W.heap.size + 1) (RdI.lit W [roll] 2 (by unfold maxLen; simp))))
  rw [inB_one] at C1
  have hmay := may_iff P
  unfold rom rer isR
  generalize hr1 : decide (0 ≤ roll ∧ roll ≤ 1099511627776) = r1 at *
  generalize hm : may P = r0 at *
  clear hr hB hi
  unfold plv at C ⊢
  obtain ⟨i, dy, mo, ov, ro, ba, n, u, p⟩ := P
  simp only at C ⊢
  obtain ⟨g0, g1, g2, g3, g4, g5, g6⟩ := box7 w (.int .u32 i) (.int .i64 dy) (.int .i64 mo) (.int .i64 ov) (.int .i64 ro) (.int .i64 ba) (.slice A n c) 25
  cases r0 with
  | false =>
    clear hmay C1 hr1
    go_enter Try.func18, Try.ntmps18
    go_wp2_with fail
    refine (C.out _ ((Below.refl w.heap.size w).alloc (Nat.le_refl _) _)).mono ?_
    rintro e w1 ⟨rfl, hb⟩
    have B1 := Lib.hid (((Below.refl w.heap.size w).alloc (Nat.le_refl _) _).trans (hb.mono (by simp)))
    clear hb
    go_wp2_with fail
    go_ret2
    exact ⟨rfl, B1.out⟩
  | true =>
    have M := hmay.1 rfl
    have m1 := M.mo
    have m2 := M.ro
    clear hmay M
    cases r1 with
    | false =>
      clear m1 m2 hr1
      go_enter Try.func18, Try.ntmps18
      go_wp2_with fail
      refine (C.out _ ((Below.refl w.heap.size w).alloc (Nat.le_refl _) _)).mono ?_
      rintro e w1 ⟨rfl, hb⟩
      have B1 := Lib.hid (((Below.refl w.heap.size w).alloc (Nat.le_refl _) _).trans (hb.mono (by simp)))
      clear hb
      go_wp2_with fail
      refine (C1.out _ _ rfl).mono ?_
      rintro e w2 ⟨rfl, rfl⟩
      go_wp2_with fail
      go_ret2
      exact ⟨rfl, B1.out.alloc B1.out.size _⟩
    | true =>
      have hrl : 0 ≤ roll := by
        have := hr1.symm
        simp at this
        omega
      simp only at m1 m2
      by_cases hle : roll < ro
      · have z5 : (roll < ro) = True := by simp [hle]
        have z6 : min ro roll = roll := by omega
        have k : wrap64 (mo + roll) = mo + roll := by unfold wrap64; omega
        clear m1 m2 hrl hr1 hle
        go_enter Try.func18, Try.ntmps18
        go_wp2_with fail
        refine (C.out _ ((Below.refl w.heap.size w).alloc (Nat.le_refl _) _)).mono ?_
        rintro e w1 ⟨rfl, hb⟩
        have B1 := Lib.hid (((Below.refl w.heap.size w).alloc (Nat.le_refl _) _).trans (hb.mono (by simp)))
        have e2 := (hb.cell (p := ⟨w.heap.size, 2, none⟩) (by simp)).trans g2
        have e4 := (hb.cell (p := ⟨w.heap.size, 4, none⟩) (by simp)).trans g4
        have hs := hb.size
        clear hb
        go_wp2_with fail
        refine (C1.out _ _ rfl).mono ?_
        rintro e w2 ⟨rfl, rfl⟩
        have hs2 : w.heap.size < w1.heap.size := by simp at hs; omega
        have f2 := ((Below.refl w1.heap.size w1).alloc (Nat.le_refl _) (.cells #[.int .i64 roll] 2) |>.cell (p := ⟨w.heap.size, 2, none⟩) hs2).trans e2
        have f4 := ((Below.refl w1.heap.size w1).alloc (Nat.le_refl _) (.cells #[.int .i64 roll] 2) |>.cell (p := ⟨w.heap.size, 4, none⟩) hs2).trans e4
        clear e2 e4 hs hs2
        go_wp2_with fail
        go_ret2
        exact ⟨rfl, B1.out.alloc B1.out.size _⟩
      · have z5 : (roll < ro) = False := by simp; omega
        have z6 : min ro roll = ro := by omega
        have k : wrap64 (mo + ro) = mo + ro := by unfold wrap64; omega
        clear m1 m2 hrl hr1 hle
        go_enter Try.func18, Try.ntmps18
        go_wp2_with fail
        refine (C.out _ ((Below.refl w.heap.size w).alloc (Nat.le_refl _) _)).mono ?_
        rintro e w1 ⟨rfl, hb⟩
        have B1 := Lib.hid (((Below.refl w.heap.size w).alloc (Nat.le_refl _) _).trans (hb.mono (by simp)))
        have e2 := (hb.cell (p := ⟨w.heap.size, 2, none⟩) (by simp)).trans g2
        have e4 := (hb.cell (p := ⟨w.heap.size, 4, none⟩) (by simp)).trans g4
        have hs := hb.size
        clear hb
        go_wp2_with fail
        refine (C1.out _ _ rfl).mono ?_
        rintro e w2 ⟨rfl, rfl⟩
        have hs2 : w.heap.size < w1.heap.size := by simp at hs; omega
        have f2 := ((Below.refl w1.heap.size w1).alloc (Nat.le_refl _) (.cells #[.int .i64 roll] 2) |>.cell (p := ⟨w.heap.size, 2, none⟩) hs2).trans e2
        have f4 := ((Below.refl w1.heap.size w1).alloc (Nat.le_refl _) (.cells #[.int .i64 roll] 2) |>.cell (p := ⟨w.heap.size, 4, none⟩) hs2).trans e4
        clear e2 e4 hs hs2
        go_wp2_with fail
        go_ret2
        exact ⟨rfl, B1.out.alloc B1.out.size _⟩
end Go.Proofs.Ytnaoodaadeimbaa.Pl
