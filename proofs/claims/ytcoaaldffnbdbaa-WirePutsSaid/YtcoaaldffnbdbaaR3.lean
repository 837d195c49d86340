import Derived.Test.YtcoaaldffnbdbaaR2
namespace Go.Proofs.Ytcoaaldffnbdbaa
open Go.RowKit Mem

theorem rdr_keep {w w' : World} {g g' : Nat} {s : St} (h : RdrS w g s) (hl : w.grownBy w' (some g')) (hlt : g < g') : RdrS w' g s := by
  have hw := h.lt
  have hk : ∀ p : Addr, p.block < g + 1 → w'.cell? p = w.cell? p := fun p hp => World.cell?_of_block (hl.block p.block (by omega) (by simp; omega))
  obtain ⟨A, c, hh, hr, hs⟩ := h
  exact ⟨A, c, (hl.block g hw (by simp; omega)).trans hh, hr.keep fun p hp => hk p (by omega), hs⟩
theorem ref_keep {w w' : World} {g g' B : Nat} {s : St} (h : RefS w g B s) (hl : w.grownBy w' (some g')) (hne : g ≠ g') (hB : B ≤ g') : RefS w' g B s := by
  have hm := h.more
  obtain ⟨hB', A, c, l0, p, hh, hp, hl', hr, hmax⟩ := h
  exact ⟨hB', A, c, l0, p, (hl.block g (lt_of_block hh) (by simpa using hne)).trans hh, hp, hl', hr.keep fun q hq => World.cell?_of_block (hl.block q.block (by omega) (by simp; omega)), hmax⟩
theorem ref_drewN {w : World} {g B : Nat} {s : St} (h : RefS w g B s) (n : Nat) : RefS (w.drewN n) g B s := h
theorem below_only {w w' : World} {g B : Nat} (h : w.grownBy w' (some g)) (hB : B ≤ g) (hw : B ≤ w.heap.size) : Below B w w' :=
  ⟨h.os, h.tape, h.output, h.size, fun k hk => h.block k (by omega) (by simp; omega)⟩
theorem ref_len {w : World} {g B : Nat} {s : St} (h : RefS w g B s) : s.l.length ≤ 1000000 := by
  obtain ⟨_, _, _, l0, p, _, _, hl, _, hm⟩ := h
  rw [hl]; simp; omega
theorem ref_below {w w' : World} {g B C : Nat} {s : St} (h : RefS w g B s) (hb : Below C w w') (hg : g < C) : RefS w' g B s := by
  obtain ⟨hB', A, c, l0, p, hh, hp, hl', hr, hmax⟩ := h
  exact ⟨hB', A, c, l0, p, (hb.block g hg).trans hh, hp, hl', hr.below (hb.mono (by omega)), hmax⟩

/-- The two readers, side by side: both are as s says. -/
def Both (w : World) (g gr B : Nat) (s : St) : Prop := RdrS w g s ∧ RefS w gr B s
/-- What a pair of takes leaves. -/
def Next (w w' : World) (g gr B : Nat) : Prop := ∃ s, Both w' g gr B s ∧ Below B w w'

theorem own_keep {e : TypeId} {w w' : World} {base g : Nat} {v : Value} {l : List UInt8} (h : Own e w base v l) (hg : w.grownBy w' (some g)) (hlt : g < base) : Own e w' base v l :=
  World.ownsRow.kept h hg (by
    rcases hv : v.ownBlock with _ | k
    · exact .inl rfl
    · refine .inr (fun e => ?_)
      have := (World.ownsRow.lt h k hv).1
      injection e with e
      omega)
theorem left_drew {w w' : World} {g : Nat} {s : St} (h : Left w.drew w' g s) : Left w w' g s := ⟨h.1, grownBy_drew h.2⟩
theorem next_of {w W w1 w2 : World} {g gr B : Nat} {s' : St} (h0 : Below B w W) (hl : Left W w1 g s') (hs : RefS w2 gr B s') (hg : w1.grownBy w2 (some gr)) (hB : B ≤ g) (hlt : g < gr) (hW : B ≤ W.heap.size) : Next w w2 g gr B :=
  ⟨s', ⟨rdr_keep hl.1 hg hlt, hs⟩, (h0.trans (below_only hl.2 hB hW)).trans (below_only hg (by omega) (Nat.le_trans hW hl.2.size))⟩

theorem both_drewN {w : World} {g gr B : Nat} {s : St} (h : Both w g gr B s) (n : Nat) : Both (w.drewN n) g gr B s := ⟨h.1, h.2⟩
theorem below_drewN' {B : Nat} {a w : World} (h : Below B a w) (n : Nat) : Below B a (w.drewN n) := ⟨h.os, h.tape, h.output, h.size, h.block⟩
set_option maxRecDepth 100000 in
set_option maxHeartbeats 8000000 in
theorem same_any (g gr B : Nat) (s : St) (x y : Int) (w : World) (h : Both w g gr B s) (hB : B ≤ g) (hlt : g < gr) (x0 : 0 ≤ x) (x1 : x ≤ 255) (y0 : -9223372036854775808 ≤ y) (y1 : y ≤ 9223372036854775807) :
    Calls Try.prog 18 #[.pointer (some ⟨g, 0, none⟩), .pointer (some ⟨gr, 0, none⟩), .agg #[.int .u8 x, .int .i64 y]] w fun e w' => e = .returned (.bool true) ∧ Next w w' g gr B := by
  have hgr := lt_of_block h.2.2.choose_spec.choose_spec.choose_spec.choose_spec.1
  have hb0 : Below (gr + 1) w (w.alloc (.cells #[.int .u8 x, .int .i64 y] 40)) := (Below.refl _ _).alloc (by omega) _
  have H : Hid (Both (w.alloc (.cells #[.int .u8 x, .int .i64 y] 40)) g gr B s) := Lib.hid ⟨Rdr.below h.1 hb0 (by omega), ref_below h.2 hb0 (by omega)⟩
  have HB0 := Lib.hid (hb0.mono (show B ≤ gr + 1 by omega))
  have hlen := ref_len h.2
  have HW2 : Hid (gr < (w.alloc (.cells #[.int .u8 x, .int .i64 y] 40)).heap.size) := Lib.hid (by rw [size_alloc']; omega)
  have HW : Hid (B ≤ (w.alloc (.cells #[.int .u8 x, .int .i64 y] 40)).heap.size) := Lib.hid (by rw [size_alloc']; omega)
  clear h hb0
  rcases (show x % 7 = 0 ∨ x % 7 = 1 ∨ x % 7 = 2 ∨ x % 7 = 3 ∨ x % 7 = 4 ∨ x % 7 = 5 ∨ x % 7 = 6 by omega) with kk | kk | kk | kk | kk | kk | kk
  · have e0 : (x % 7 == 0) = true := by rw [beq_iff_eq]; omega
    clear kk
    go_enter Try.func18, Try.ntmps18
    go_wp2_with fail
    refine (RByte_any g s _ H.out.1).mono ?_
    rintro e w1 ⟨rfl, hl⟩
    have HL := Lib.hid hl; have HR := Lib.hid (ref_keep H.out.2 hl.2 (by omega) hB); clear hl
    go_wp2_with fail
    refine (refTake_any gr B 1 s w1 HR.out (by omega)).mono ?_
    rintro e w2 ⟨A, c, rfl, hr, hs, hg⟩
    have HS := Lib.hid hs; have HG := Lib.hid hg; have HRd := Lib.hid hr; clear hr hs hg
    go_wp2_with fail
    refine (Value_any A c _ _ w2 (HRd.out.more HS.out.more) rfl (Nat.le_trans (bytes_le s 1) (by omega))).mono ?_
    rintro e w3 ⟨rfl, rfl⟩
    rw [← num_bytes]
    have hn := num_lt s 1
    have hn2 : (s.num 1 : Int) ≤ 255 := by omega
    clear hn
    go_wp2_with fail
    go_ret
    exact ⟨by first | rfl | simp, next_of HB0.out HL.out HS.out HG.out hB hlt HW.out⟩
  · have e0 : (x % 7 == 0) = false := by rw [beq_eq_false_iff_ne]; omega
    have e1 : (x % 7 == 1) = true := by rw [beq_iff_eq]; omega
    clear kk
    go_enter Try.func18, Try.ntmps18
    go_wp2_with fail
    refine (RUint_any g s _ H.out.1).mono ?_
    rintro e w1 ⟨rfl, hl⟩
    have HL := Lib.hid hl; have HR := Lib.hid (ref_keep H.out.2 hl.2 (by omega) hB); clear hl
    go_wp2_with fail
    refine (refUint_any gr B s w1 HR.out).mono ?_
    rintro e w2 ⟨rfl, hs, hg⟩
    have HS := Lib.hid hs; have HG := Lib.hid hg; clear hs hg
    go_wp2_with fail
    go_ret
    exact ⟨by first | rfl | simp, next_of HB0.out HL.out HS.out HG.out hB hlt HW.out⟩
  · have e0 : (x % 7 == 0) = false := by rw [beq_eq_false_iff_ne]; omega
    have e1 : (x % 7 == 1) = false := by rw [beq_eq_false_iff_ne]; omega
    have e2 : (x % 7 == 2) = true := by rw [beq_iff_eq]; omega
    clear kk
    go_enter Try.func18, Try.ntmps18
    go_wp2_with fail
    refine (RInt_any g s _ H.out.1).mono ?_
    rintro e w1 ⟨rfl, hl⟩
    have HL := Lib.hid hl; have HR := Lib.hid (ref_keep H.out.2 hl.2 (by omega) hB); clear hl
    go_wp2_with fail
    refine (refUint_any gr B s w1 HR.out).mono ?_
    rintro e w2 ⟨rfl, hs, hg⟩
    have HS := Lib.hid hs; have HG := Lib.hid hg; clear hs hg
    go_wp2_with fail
    go_ret
    exact ⟨by first | rfl | simp, next_of HB0.out HL.out HS.out HG.out hB hlt HW.out⟩
  · have e0 : (x % 7 == 0) = false := by rw [beq_eq_false_iff_ne]; omega
    have e1 : (x % 7 == 1) = false := by rw [beq_eq_false_iff_ne]; omega
    have e2 : (x % 7 == 2) = false := by rw [beq_eq_false_iff_ne]; omega
    have e3 : (x % 7 == 3) = true := by rw [beq_iff_eq]; omega
    clear kk
    go_enter Try.func18, Try.ntmps18
    go_wp2_with fail
    first | (go_region_with (first
      | (go_at_call 26; refine (RText_any g s _ (by exact H.out.1) (by omega)).mono ?_; rintro e w1 ⟨v1, rfl, hown, hl⟩; have HL := Lib.hid (left_drew hl); have HR := Lib.hid (ref_keep (by exact H.out.2) hl.2 (by omega) hB); have HO := Lib.hid hown; have hcv1 := run_str_own w1 hown; clear hl hown)
      | (go_at_call 34; refine (refText_any gr B s w1 HR.out).mono ?_; rintro e w2 ⟨A, c, rfl, hr, hs, hg⟩; have HS := Lib.hid hs; have HG := Lib.hid hg; have hcv2 := run_str_rd w2 hr; have hcv3 := run_str_own w2 (own_keep HO.out hg HW2.out); clear hr hs hg))) | fail
    all_goals
      go_wp2_with fail
      go_ret
      exact ⟨by first | rfl | simp, next_of HB0.out HL.out HS.out HG.out hB hlt HW.out⟩
  · have e0 : (x % 7 == 0) = false := by rw [beq_eq_false_iff_ne]; omega
    have e1 : (x % 7 == 1) = false := by rw [beq_eq_false_iff_ne]; omega
    have e2 : (x % 7 == 2) = false := by rw [beq_eq_false_iff_ne]; omega
    have e3 : (x % 7 == 3) = false := by rw [beq_eq_false_iff_ne]; omega
    have e4 : (x % 7 == 4) = true := by rw [beq_iff_eq]; omega
    have hbox : (w.alloc (.cells #[.int .u8 x, .int .i64 y] 40)).cell? ⟨w.heap.size, 1, none⟩ = some (.int .i64 y) := by rw [cell_of_row _ _ _ _ _ _ (heap_alloc_new w _)]; rfl
    have HX := Lib.hid hbox
    clear kk hbox
    go_enter Try.func18, Try.ntmps18
    go_wp2_with fail
    first | (go_region_with (first
      | (go_at_call 27; refine (RCount_any g s _ y (by exact H.out.1) y0 y1).mono ?_; rintro e w1 ⟨rfl, hl⟩; have HL := Lib.hid (left_drew hl); have HR := Lib.hid (ref_keep (by exact H.out.2) hl.2 (by omega) hB); have hx1 := cell_kept (by exact HX.out) hl.2 (by omega); clear hl)
      | (go_at_call 35; refine (refCount_any gr B s y w1 HR.out y0 y1).mono ?_; rintro e w2 ⟨rfl, hs, hg⟩; have HS := Lib.hid hs; have HG := Lib.hid hg; have hx2 := cell_kept hx1 hg (by omega); clear hs hg))) | fail
    all_goals
      go_wp2_with fail
      go_ret
      exact ⟨by first | rfl | simp, next_of HB0.out HL.out HS.out HG.out hB hlt HW.out⟩
  · have e0 : (x % 7 == 0) = false := by rw [beq_eq_false_iff_ne]; omega
    have e1 : (x % 7 == 1) = false := by rw [beq_eq_false_iff_ne]; omega
    have e2 : (x % 7 == 2) = false := by rw [beq_eq_false_iff_ne]; omega
    have e3 : (x % 7 == 3) = false := by rw [beq_eq_false_iff_ne]; omega
    have e4 : (x % 7 == 4) = false := by rw [beq_eq_false_iff_ne]; omega
    have e5 : (x % 7 == 5) = true := by rw [beq_iff_eq]; omega
    clear kk
    go_enter Try.func18, Try.ntmps18
    go_wp2_with fail
    refine (RBad_any g s _ H.out.1).mono ?_
    rintro e w1 ⟨rfl, hl⟩
    have HL := Lib.hid hl
    have hr1 := ref_keep H.out.2 hl.2 (by omega) hB
    obtain ⟨bb, sc, sf⟩ := hr1.spoilt
    obtain ⟨sl, sb⟩ := s
    have HR := Lib.hid (hr1.set2 true)
    clear hl hr1
    go_wp2_with fail
    refine (RDone_bad g sl _ (rdr_keep HL.out.1 (only_set gr 2 _) hlt)).mono ?_
    rintro e w2 ⟨rfl, rfl⟩
    go_wp2_with fail
    refine (refDone_any gr B _ _ HR.out).mono ?_
    rintro e w2 ⟨rfl, nn, rfl⟩
    rw [done_bad]
    go_wp2_with fail
    go_ret
    exact ⟨by first | rfl | simp, next_of HB0.out HL.out (ref_drewN HR.out nn) (grownBy_trans (only_set gr 2 _) (grownBy_drewN _ nn _)) hB hlt HW.out⟩
  · have e0 : (x % 7 == 0) = false := by rw [beq_eq_false_iff_ne]; omega
    have e1 : (x % 7 == 1) = false := by rw [beq_eq_false_iff_ne]; omega
    have e2 : (x % 7 == 2) = false := by rw [beq_eq_false_iff_ne]; omega
    have e3 : (x % 7 == 3) = false := by rw [beq_eq_false_iff_ne]; omega
    have e4 : (x % 7 == 4) = false := by rw [beq_eq_false_iff_ne]; omega
    have e5 : (x % 7 == 5) = false := by rw [beq_eq_false_iff_ne]; omega
    clear kk
    go_enter Try.func18, Try.ntmps18
    go_wp2_with fail
    refine (RDone_any g s _ H.out.1).mono ?_
    rintro e w2 ⟨rfl, rfl⟩
    go_wp2_with fail
    refine (refDone_any gr B s _ H.out.2).mono ?_
    rintro e w2 ⟨rfl, nn, rfl⟩
    go_wp2_with fail
    go_ret
    exact ⟨by first | rfl | simp, s, both_drewN H.out nn, below_drewN' HB0.out nn⟩
end Go.Proofs.Ytcoaaldffnbdbaa
