import Derived.Test.YtlfkafcmdndlgaaDoorCi9
namespace Go.Proofs.YtlfkafcmdndlgaaDoor.Ci
open Go.RowKit Mem

def dec : ByteArray := ⟨#[48, 49, 50, 51, 52, 53, 54, 55, 56, 57]⟩
theorem dec_cut (k : Nat) (h : k < 10) (W : World) : (Instr.slice 9 (.string ⟨#[48, 49, 50, 51, 52, 53, 54, 55, 56, 57]⟩) (some (.int .i64 k)) (some (.int .i64 (k + 1))) none).run Tryd.prog W = .ok (.string (st [dg k])) W := by
  have hs : (⟨#[48, 49, 50, 51, 52, 53, 54, 55, 56, 57]⟩ : ByteArray).size = 10 := rfl
  rw [run_slice_string W 9 _ .i64 .i64 k (k + 1) Tryd.underlying9 (by omega) (by omega) (by rw [hs]; omega)]
  have e1 : ((k : Int)).toNat = k := by omega
  have e2 : ((k : Int) + 1).toNat = k + 1 := by omega
  rw [e1, e2]
  have key : ∀ j : Fin 10, (⟨#[48, 49, 50, 51, 52, 53, 54, 55, 56, 57]⟩ : ByteArray).extract j.val (j.val + 1) = st [dg j.val] := by decide +kernel
  rw [key ⟨k, h⟩]
set_option maxHeartbeats 1000000 in
theorem two_any (n : Nat) (w : World) (h : n < 100) :
    Calls Tryd.prog 32 #[.int .i64 n] w fun e w' => e = .returned (.string (st (d2 n))) ∧ ∃ q, w' = w.drewN q := by
  have c1 := dec_cut (n / 10 % 10) (by omega)
  have c2 := dec_cut (n % 10) (by omega)
  have d1 : dg (n % 10) = dg n := by unfold dg; rw [Nat.mod_mod]
  have d2' : dg (n / 10 % 10) = dg (n / 10) := by unfold dg; rw [Nat.mod_mod]
  rw [d2', show ((n / 10 % 10 : Nat) : Int) = (n : Int) / 10 % 10 by omega] at c1
  rw [d1, show ((n % 10 : Nat) : Int) = (n : Int) % 10 by omega] at c2
  clear d1 d2'
  have T := Lib.hid (st_append [dg (n / 10)] [dg n])
  have s1 : (st [dg (n / 10)]).size = 1 := rfl
  have s2 : (st [dg n]).size = 1 := rfl
  have a1 : (n : Int).tdiv 10 = n / 10 := Int.tdiv_eq_ediv_of_nonneg (by omega)
  have a2 : ((n : Int) / 10).tmod 10 = n / 10 % 10 := Int.tmod_eq_emod_of_nonneg (by omega)
  have a3 : (n : Int).tmod 10 = n % 10 := Int.tmod_eq_emod_of_nonneg (by omega)
  have a4 : IntKind.i64.wrap ((n : Int) / 10) = n / 10 := IntWalk.i64_in _ (by omega)
  have a5 : IntKind.i64.wrap ((n : Int) / 10 % 10 + 1) = n / 10 % 10 + 1 := IntWalk.i64_in _ (by omega)
  have a6 : IntKind.i64.wrap ((n : Int) % 10 + 1) = n % 10 + 1 := IntWalk.i64_in _ (by omega)
  have a7 : IntKind.i64.wrap ((n : Int) / 10 % 10) = n / 10 % 10 := IntWalk.i64_in _ (by omega)
  have a8 : IntKind.i64.wrap ((n : Int) % 10) = n % 10 := IntWalk.i64_in _ (by omega)
  go_enter Tryd.func32, Tryd.ntmps32
  go_wp2_with fail
  go_quiet (fail)
  go_wp2
  go_ret
  exact ⟨by rw [show d2 n = [dg (n / 10)] ++ [dg n] from rfl, ← T.out]; rfl, _, rfl⟩

theorem d4_d2 (y : Nat) : d2 (y / 100) ++ d2 (y % 100) = d4 y := by
  have e1 : dg (y / 100 / 10) = dg (y / 1000) := by unfold dg; rw [Nat.div_div_eq_div_mul]
  have e2 : dg (y % 100 / 10) = dg (y / 10) := by unfold dg; congr 2; omega
  have e3 : dg (y % 100) = dg y := by unfold dg; congr 2; omega
  simp only [d2, d4, e1, e2, e3]; rfl
set_option maxHeartbeats 1000000 in
theorem rtext_nat (y m d : Nat) (w : World) (h : vldB y m d = true) :
    Calls Tryd.prog 16 #[.agg #[.int .i64 y, .int .i64 m, .int .i64 d]] w fun e w' => e = .returned (.string (st (txt y m d))) ∧ Below w.heap.size w w' := by
  obtain ⟨h1, h2, h3, h4, h5, h6⟩ := vld_of h
  have lb := long_bd y m
  have c1 := fun W => two_any (y / 100) W (by omega)
  have c2 := fun W => two_any (y % 100) W (by omega)
  have c3 := fun W => two_any m W (by omega)
  have c4 := fun W => two_any d W (by omega)
  rw [show ((y / 100 : Nat) : Int) = (y : Int) / 100 by omega] at c1
  rw [show ((y % 100 : Nat) : Int) = (y : Int) % 100 by omega] at c2
  have C1 := Lib.hid c1; have C2 := Lib.hid c2; have C3 := Lib.hid c3; have C4 := Lib.hid c4
  clear c1 c2 c3 c4
  have H := Lib.hid h; clear h lb
  have V := Lib.hid (fun W => rvalid_any y m d W)
  go_enter Tryd.func16, Tryd.ntmps16
  go_wp2_with fail
  refine (V.out _).mono ?_
  rintro e w1 ⟨rfl, hb⟩
  rw [H.out]
  have B1 := Lib.hid (((Below.refl _ _).alloc (Nat.le_refl _) _).trans (hb.mono (by simp)) : Below w.heap.size w w1)
  have q0 : w1.cell? ⟨w.heap.size, 0, none⟩ = some (.int .i64 y) := by rw [(bcell hb).1 _ _ (by simp)]; simp
  have q1 : w1.cell? ⟨w.heap.size, 1, none⟩ = some (.int .i64 m) := by rw [(bcell hb).1 _ _ (by simp)]; simp
  have q2 : w1.cell? ⟨w.heap.size, 2, none⟩ = some (.int .i64 d) := by rw [(bcell hb).1 _ _ (by simp)]; simp
  clear hb
  have T := Lib.hid (show ((((st (d2 (y / 100)) ++ st (d2 (y % 100))) ++ st [45]) ++ st (d2 m)) ++ st [45]) ++ st (d2 d) = st (txt y m d) by simp only [st_append, d4_d2]; congr 1)
  have s1 : (st (d2 (y / 100))).size = 2 := by rw [st_size]; rfl
  have s2 : (st (d2 (y % 100))).size = 2 := by rw [st_size]; rfl
  have s3 : (st (d2 m)).size = 2 := by rw [st_size]; rfl
  have s4 : (st (d2 d)).size = 2 := by rw [st_size]; rfl
  have a1 : (y : Int).tdiv 100 = y / 100 := Int.tdiv_eq_ediv_of_nonneg (by omega)
  have a2 : (y : Int).tmod 100 = y % 100 := Int.tmod_eq_emod_of_nonneg (by omega)
  have a3 : IntKind.i64.wrap ((y : Int) / 100) = y / 100 := IntWalk.i64_in _ (by omega)
  have a4 : IntKind.i64.wrap ((y : Int) % 100) = y % 100 := IntWalk.i64_in _ (by omega)
  go_wp2_with fail
  go_quiet ((go_at_call 32; first
    | (with_reducible exact Calls.quiet_of (C1.out _)) | (with_reducible exact Calls.quiet_of (C2.out _)) | (with_reducible exact Calls.quiet_of (C3.out _)) | (with_reducible exact Calls.quiet_of (C4.out _))))

  go_wp2
  go_ret
  exact ⟨by rw [← T.out]; rfl, below_drewN B1.out _⟩
theorem rtext_yes {y m d : Int} (w : World) (h : vldB y m d = true) :
    Calls Tryd.prog 16 #[.agg #[.int .i64 y, .int .i64 m, .int .i64 d]] w fun e w' => e = .returned (.string (st (txt y m d))) ∧ Below w.heap.size w w' := by
  obtain ⟨h1, h2, h3, h4, h5, h6⟩ := vld_of h
  obtain ⟨y, rfl⟩ := Int.eq_ofNat_of_zero_le (show 0 ≤ y by omega)
  obtain ⟨m, rfl⟩ := Int.eq_ofNat_of_zero_le (show 0 ≤ m by omega)
  obtain ⟨d, rfl⟩ := Int.eq_ofNat_of_zero_le (show 0 ≤ d by omega)
  exact rtext_nat y m d w h
theorem rtext_no {y m d : Int} (w : World) (h : vldB y m d = false) :
    Calls Tryd.prog 16 #[.agg #[.int .i64 y, .int .i64 m, .int .i64 d]] w fun e w' => e = .returned (.string ⟨#[]⟩) ∧ Below w.heap.size w w' := by
  have H := Lib.hid h; clear h
  have V := Lib.hid (fun W => rvalid_any y m d W)
  go_enter Tryd.func16, Tryd.ntmps16
  go_wp2_with fail
  refine (V.out _).mono ?_
  rintro e w1 ⟨rfl, hb⟩
  rw [H.out]
  go_wp2_with fail
  go_ret
  exact ⟨rfl, ((Below.refl _ _).alloc (Nat.le_refl _) _).trans (hb.mono (by simp))⟩
end Go.Proofs.YtlfkafcmdndlgaaDoor.Ci
