import Derived.Test.YtakjgimnmobngaaDoorCi2
import Derived.Deep.RegionHeld3
namespace Go.Proofs.YtakjgimnmobngaaDoor.Ci
open Go.RowKit Mem

theorem bcell {W w1 : World} (hb : Below W.heap.size W w1) : (∀ b o, b < W.heap.size → w1.cell? ⟨b, o, none⟩ = W.cell? ⟨b, o, none⟩) ∧ (∀ b o, b < W.heap.size → w1.frozen? ⟨b, o, none⟩ = W.frozen? ⟨b, o, none⟩) :=
  ⟨fun b o h => hb.cell (p := ⟨b, o, none⟩) h, fun b o h => hb.frozen (p := ⟨b, o, none⟩) h⟩
theorem below_drewN {B : Nat} {a w : World} (h : Below B a w) (n : Nat) : Below B a (w.drewN n) := ⟨h.os, h.tape, h.output, h.size, h.block⟩
/-- A date as a value. -/
abbrev dv (y m d : Int) : Value := .agg #[.int .i64 y, .int .i64 m, .int .i64 d]

set_option maxHeartbeats 400000 in
theorem monthOf_any (y m d : Int) (w : World) (h1 : 1 ≤ y) (h2 : y ≤ 9999) (h3 : 1 ≤ m) (h4 : m ≤ 12) :
    Calls Tryd.prog 36 #[.agg #[.int .i64 y, .int .i64 m, .int .i64 d]] w fun e w' => e = .returned (.int .i64 (12 * y + m - 1)) ∧ Below w.heap.size w w' := by
  go_enter Tryd.func36, Tryd.ntmps36
  go_wp2
  go_ret
  exact ⟨rfl, (Below.refl _ _).alloc (Nat.le_refl _) _⟩

theorem keep3 {W w1 : World} {b : Nat} {x y z : Value} (hb : Below W.heap.size W w1) (h : b < W.heap.size) (k : W.cell? ⟨b, 0, none⟩ = some x ∧ W.cell? ⟨b, 1, none⟩ = some y ∧ W.cell? ⟨b, 2, none⟩ = some z) :
    w1.cell? ⟨b, 0, none⟩ = some x ∧ w1.cell? ⟨b, 1, none⟩ = some y ∧ w1.cell? ⟨b, 2, none⟩ = some z :=
  ⟨((bcell hb).1 _ _ h).trans k.1, ((bcell hb).1 _ _ h).trans k.2.1, ((bcell hb).1 _ _ h).trans k.2.2⟩

set_option maxHeartbeats 1000000 in
theorem valid_any (y m d : Int) (w : World) (hw : Lens w) (hs : 0 < w.heap.size) :
    Calls Tryd.prog 35 #[.agg #[.int .i64 y, .int .i64 m, .int .i64 d]] w fun e w' => e = .returned (.bool (vldB y m d)) ∧ Below w.heap.size w w' := by
  by_cases h : 1 ≤ y ∧ y ≤ 9999 ∧ 1 ≤ m ∧ m ≤ 12
  · obtain ⟨h1, h2, h3, h4⟩ := h
    have HM := Lib.hid (lenM_ym h1 h2 h3 h4)
    have HL := Lib.hid (fun W (h : Below (w.heap.size) w W) => hw.below h hs)
    clear hw
    by_cases hd : 1 ≤ d
    · have hg : decide (1 ≤ d) = true := by simpa using hd
      go_enter Tryd.func35, Tryd.ntmps35
      go_wp2_with fail
      go_region_held3 (fun w' => w'.cell? ⟨w.heap.size, 0, none⟩ = some (.int .i64 y) ∧ w'.cell? ⟨w.heap.size, 1, none⟩ = some (.int .i64 m) ∧ w'.cell? ⟨w.heap.size, 2, none⟩ = some (.int .i64 d))
        (first | go_keep | exact keep3 hb (by simp) ‹_›)
        (first | (go_at_call 36; refine (monthOf_any y m d _ h1 h2 h3 h4).mono ?_; rintro e w1 ⟨rfl, hb⟩)
               | (go_at_call 33; refine (length_any (12 * y + m - 1) _ (HL.out _ ((((Below.refl _ _).alloc (Nat.le_refl _) _).drew).trans (hb.mono (by simp))))).mono ?_; rintro e w2 ⟨rfl, rfl⟩))
      go_wp2
      go_ret
      refine ⟨ret_bool ?_, (((Below.refl _ _).alloc (Nat.le_refl _) _).drew).trans (hb.mono (by simp))⟩
      rw [HM.out, Bool.eq_iff_iff]; simp [vldB, h1, h2, h3, h4, hd]
    · have hg : decide (1 ≤ d) = false := by simpa using hd
      go_enter Tryd.func35, Tryd.ntmps35
      go_wp2_with fail
      go_quiet (fail)
      go_wp2
      go_ret
      refine ⟨ret_bool ?_, below_drewN ((Below.refl _ _).alloc (Nat.le_refl _) _) _⟩
      rw [Bool.eq_iff_iff]; simp [vldB]; omega
  · have HF := Lib.hid (show vldB y m d = false by rw [Bool.eq_false_iff]; intro k; have := vld_of k; omega)
    have hb4 : y < 1 ∨ (1 ≤ y ∧ 9999 < y) ∨ (1 ≤ y ∧ y ≤ 9999 ∧ m < 1) ∨ (1 ≤ y ∧ y ≤ 9999 ∧ 1 ≤ m ∧ 12 < m) := by omega
    clear h hw
    rcases hb4 with g | ⟨g1, g⟩ | ⟨g1, g2, g⟩ | ⟨g1, g2, g3, g⟩ <;>
    ( go_enter Tryd.func35, Tryd.ntmps35
      go_wp2_with fail
      go_ret
      exact ⟨ret_bool HF.out.symm, (Below.refl _ _).alloc (Nat.le_refl _) _⟩)
theorem valid_yes {y m d : Int} (w : World) (hw : Lens w) (hs : 0 < w.heap.size) (h : vldB y m d = true) :
    Calls Tryd.prog 35 #[.agg #[.int .i64 y, .int .i64 m, .int .i64 d]] w fun e w' => e = .returned (.bool true) ∧ Below w.heap.size w w' :=
  (valid_any y m d w hw hs).mono fun _ _ ⟨a, b⟩ => ⟨by rw [a, h], b⟩
theorem valid_not {y m d : Int} (w : World) (hw : Lens w) (hs : 0 < w.heap.size) (h : vldB y m d = false) :
    Calls Tryd.prog 35 #[.agg #[.int .i64 y, .int .i64 m, .int .i64 d]] w fun e w' => e = .returned (.bool false) ∧ Below w.heap.size w w' :=
  (valid_any y m d w hw hs).mono fun _ _ ⟨a, b⟩ => ⟨by rw [a, h], b⟩

/-- A date's month's number; 0, if it is none. -/
def monB (y m d : Int) : Int := if vldB y m d = true then 12 * y + m - 1 else 0
set_option maxHeartbeats 1000000 in
theorem month_any (y m d : Int) (w : World) (hw : Lens w) (hs : 0 < w.heap.size) :
    Calls Tryd.prog 20 #[.agg #[.int .i64 y, .int .i64 m, .int .i64 d]] w fun e w' => e = .returned (.int .i64 (monB y m d)) ∧ Below w.heap.size w w' := by
  have HL := Lib.hid (fun W (h : Below (w.heap.size) w W) => hw.below h hs)
  clear hw
  cases h : vldB y m d with
  | true =>
    have H := Lib.hid h; clear h
    go_enter Tryd.func20, Tryd.ntmps20
    go_wp2_with fail
    refine (valid_yes _ (HL.out _ ((Below.refl _ _).alloc (Nat.le_refl _) _)) (by simp) H.out).mono ?_
    rintro e w1 ⟨rfl, hb⟩
    obtain ⟨hc, hf⟩ := bcell hb
    go_wp2_with fail
    obtain ⟨h1, h2, h3, h4, _, _⟩ := vld_of H.out
    refine (monthOf_any y m d _ h1 h2 h3 h4).mono ?_
    rintro e w2 ⟨rfl, hb2⟩
    go_wp2_with fail
    go_ret
    exact ⟨ret_int (by unfold monB; rw [if_pos H.out]), (((Below.refl _ _).alloc (Nat.le_refl _) _).trans (hb.mono (by simp))).trans (hb2.mono (by have := hb.size; simp at this; omega))⟩
  | false =>
    have H := Lib.hid h; clear h
    go_enter Tryd.func20, Tryd.ntmps20
    go_wp2_with fail
    refine (valid_not _ (HL.out _ ((Below.refl _ _).alloc (Nat.le_refl _) _)) (by simp) H.out).mono ?_
    rintro e w1 ⟨rfl, hb⟩
    go_wp2_with fail
    go_ret
    exact ⟨ret_int (by unfold monB; rw [H.out]; rfl), ((Below.refl _ _).alloc (Nat.le_refl _) _).trans (hb.mono (by simp))⟩
end Go.Proofs.YtakjgimnmobngaaDoor.Ci
