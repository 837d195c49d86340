import Derived.Test.YtpnnakjffcohoaaL3
namespace Go.Proofs.Ytpnnakjffcohoaa
set_option linter.unusedVariables false
set_option linter.unusedSimpArgs false
open Go.RowKit Mem Go.ChangeMaps
variable {w : World}

/-- Numbers that were just laid. -/
theorem RdI.lit (w : World) (l : List Int) (h : l.length ≤ maxLen) : RdI (w.alloc (.cells (l.map (Value.int .i64)).toArray 3)) (w.alloc (.cells (l.map (Value.int .i64)).toArray 3)).heap.size (some ⟨w.heap.size, 0, none⟩) l.length l :=
  ⟨Nat.le_refl _, h, (fun e => by cases e), fun _ => ⟨w.heap.size, 0, rfl, by simp, fun i hi => by
    rw [cell_of_row _ _ _ _ _ _ (heap_alloc_new w _), Nat.zero_add]
    simp [hi]⟩⟩
theorem fresh_not {w : World} {db : Nat} {y : Lay} {d : Dsk} (h : IsD w db y d) (k : Nat) (hk : w.heap.size ≤ k) : ¬ y.foot k := fun hf => by have := h.foot k hf; omega
theorem St.more {B : Nat} {W w : World} {db : Nat} {y : Lay} {d : Dsk} {m m' : Nat} (s : St B W w db y d m) (h : m ≤ m') : St B W w db y d m' := ⟨s.is, s.good, Nat.le_trans s.le h, s.bel, s.low, s.base⟩
/-- A page at hand, opened: a byte of it. -/
theorem Own.byte {w : World} {base : Nat} {v : Value} {l : List UInt8} (h : Own 5 w base v l) (hl : l.length = 4096) : ∃ g c, v = .slice (some ⟨g, 0, none⟩) 4096 c ∧ base ≤ g ∧ g < w.heap.size ∧ ∀ i, i < 4096 → w.cell? ⟨g, i, none⟩ = some (bv (l.getD i 0)) := by
  obtain ⟨g, c, rfl, h1, h2⟩ := Own.page h hl
  refine ⟨g, c, rfl, h1, h2, fun i hi => ?_⟩
  rw [own_cell h i (by omega), List.getD_eq_getElem?_getD, List.getElem?_eq_getElem (by omega)]; rfl

set_option maxRecDepth 20000 in
set_option maxHeartbeats 2000000 in
theorem goes_any (w : World) : Calls Try.prog 11 #[] w fun e w' => e = .returned (.bool true) ∧ Below w.heap.size w w' := by
  go_enter Try.func11, Try.ntmps11
  go_wp2_with fail
  refine (St.new 2 w (by omega) (by omega)).mono ?_
  rintro e w1 ⟨rfl, s1⟩
  have S1 := Lib.hid s1
  clear s1
  go_wp2_with fail
  refine (S1.out.fuse 1 (by omega)).mono ?_
  rintro e w2 ⟨rfl, s2, _⟩
  have S2 := Lib.hid (show St _ _ _ _ _ g1 _ from s2)
  clear s2 S1
  go_wp2_with fail
  refine (page_any 97 97 0 (by omega) (by omega) (by omega) (by omega) (by omega) (by omega) w2).mono ?_
  rintro e w3 ⟨rfl, rfl⟩
  obtain ⟨pa, hpa⟩ : ∃ pa, pa = pageOf (u8 97) (u8 97) ((0 : Int).toNat % 8) := ⟨_, rfl⟩
  have HA := Lib.hid (show pa.length = 4096 by rw [hpa]; exact pageOf_len _ _ _)
  rw [← hpa]
  clear hpa
  go_wp2_with fail
  refine (S2.out.write 0 pa HA.out (by omega)).mono ?_
  rintro e w4 ⟨rfl, y4, s4, _⟩
  have S4 := Lib.hid (show St _ _ _ _ _ (g2 pa) _ from s4)
  clear s4 S2
  rw [g1_ans]
  go_wp2_with fail
  refine (page_any 98 98 0 (by omega) (by omega) (by omega) (by omega) (by omega) (by omega) w4).mono ?_
  rintro e w5 ⟨rfl, rfl⟩
  obtain ⟨pb, hpb⟩ : ∃ pb, pb = pageOf (u8 98) (u8 98) ((0 : Int).toNat % 8) := ⟨_, rfl⟩
  have HPB := Lib.hid hpb
  have HB := Lib.hid (show pb.length = 4096 by rw [hpb]; exact pageOf_len _ _ _)
  rw [← hpb]
  clear hpb
  go_wp2_with fail
  refine (S4.out.write 1 pb HB.out (by omega)).mono ?_
  rintro e w6 ⟨rfl, y6, s6, _⟩
  have S6 := Lib.hid (show St _ _ _ _ _ (g3 pa pb) _ from s6)
  clear s6 S4
  rw [g2_ans]
  go_wp2_with fail
  refine (dead_any S6.out.is).mono ?_
  rintro e w7 ⟨rfl, rfl⟩
  rw [g3_dead]
  go_wp2_with fail
  have hf := RdI.lit w7 [0, 255] (by decide)
  refine ((S6.out.alloc (.cells #[.int .i64 0, .int .i64 255] 3)).restart (by omega) _ 2 2 [0, 255] hf rfl (fun _ a e hx => by
    injection e with e; subst e
    exact fresh_not S6.out.is _ (Nat.le_refl _) hx)).mono ?_
  rintro e w8 ⟨rfl, y8, s8, _⟩
  have S8 := Lib.hid (show St _ _ _ _ _ (g4 pa pb) _ from s8)
  clear s8 S6 hf
  go_wp2_with fail
  refine (S8.out.read 0).mono ?_
  rintro e w9 ⟨v0, rfl, ho, _, s9, hb9⟩
  rw [(g4_ref pa pb).1] at ho ⊢
  have ho := ho rfl
  have e0 : (g4 pa pb).page (0 : Int).toNat = torn 0 zpage pa := (g4_page pa pb).1
  rw [e0] at ho
  obtain ⟨ga, ca, rfl, _, hga, hc⟩ := Own.byte ho (torn_len _ _ _ zpage_len HA.out)
  have hx0 := hc 0 (by omega)
  rw [torn_at _ _ _ zpage_len HA.out 0 (by omega), bit_zero, if_neg (by decide), zpage_at] at hx0
  have HX := Lib.hid (And.intro hga hx0)
  have S9 := Lib.hid s9
  clear ho hc hx0 s9 hb9 S8 e0 hga
  go_wp2_with fail
  refine (S9.out.read 1).mono ?_
  rintro e w10 ⟨v1, rfl, ho, _, s10, hb10⟩
  rw [(g4_ref pa pb).2] at ho ⊢
  have ho := ho rfl
  have e0 : (g4 pa pb).page (1 : Int).toNat = torn 255 zpage pb := (g4_page pa pb).2
  rw [e0] at ho
  obtain ⟨gb, cb, rfl, _, hgb, hc⟩ := Own.byte ho (torn_len _ _ _ zpage_len HB.out)
  have hy := hc 4095 (by omega)
  rw [torn_at _ _ _ zpage_len HB.out 4095 (by omega), bit_full _ (by omega), if_pos rfl, HPB.out, pageOf_at _ _ _ _ (by omega)] at hy
  have hy' : w10.cell? ⟨gb, 4095, none⟩ = some (.int .u8 98) := hy
  have hx' : w10.cell? ⟨ga, 0, none⟩ = some (.int .u8 0) := (hb10.cell HX.out.1).trans HX.out.2
  have HZ := Lib.hid s10.bel
  clear ho hc hy s10 hb10 S9 e0 hgb HX
  go_wp2_with fail
  go_ret
  exact ⟨rfl, HZ.out⟩
end Go.Proofs.Ytpnnakjffcohoaa
