import Derived.Test.YtcoaaldffnbdbaaR1
namespace Go.Proofs.Ytcoaaldffnbdbaa
open Go.RowKit Mem

theorem num_bytes (s : St) (n : Nat) : s.num n = val (s.bytes n) := by
  unfold St.num St.bytes
  split
  · rfl
  · split <;> rfl
theorem bytes_le (s : St) (n : Nat) : (s.bytes n).length ≤ n := by
  unfold St.bytes
  split
  · simp
  · split
    · simp
    · simp; omega
theorem RefS.more {w : World} {g B : Nat} {s : St} (h : RefS w g B s) : B ≤ w.heap.size := by
  obtain ⟨hB, _, _, _, _, hh, _⟩ := h
  have := lt_of_block hh
  omega
theorem refUint_any (g B : Nat) (s : St) (w : World) (h : RefS w g B s) :
    Calls Try.prog 33 #[.pointer (some ⟨g, 0, none⟩)] w fun e w' => e = .returned (.int .u64 (s.num 8 : Int)) ∧ RefS w' g B (s.after 8) ∧ w.grownBy w' (some g) := by
  have H := Lib.hid h
  clear h
  go_enter Try.func33, Try.ntmps33
  go_wp2_with fail
  refine (refTake_any g B 8 s w H.out (by omega)).mono ?_
  rintro e w1 ⟨A, c, rfl, hr, hs, hg⟩
  have HR := Lib.hid hr; have HS := Lib.hid hs; have HG := Lib.hid hg; clear hr hs hg
  go_wp2_with fail
  refine (Value_any A c _ _ w1 (HR.out.more HS.out.more) rfl (bytes_le s 8)).mono ?_
  rintro e w2 ⟨rfl, rfl⟩
  go_wp2_with fail
  go_ret
  exact ⟨by rw [num_bytes]; rfl, HS.out, HG.out⟩
theorem refText_any (g B : Nat) (s : St) (w : World) (h : RefS w g B s) :
    Calls Try.prog 34 #[.pointer (some ⟨g, 0, none⟩)] w fun e w' => ∃ A c, e = .returned (.slice A s.text.length c) ∧ Rd w' B A c s.text ∧ RefS w' g B s.textAfter ∧ w.grownBy w' (some g) := by
  have H := Lib.hid h
  clear h
  go_enter Try.func34, Try.ntmps34
  go_wp2_with fail
  refine (refTake_any g B 4 s w H.out (by omega)).mono ?_
  rintro e w1 ⟨A, c, rfl, hr, hs, hg⟩
  have HR := Lib.hid hr; have HS := Lib.hid hs; have HG := Lib.hid hg; clear hr hs hg
  go_wp2_with fail
  refine (Value_any A c _ _ w1 (HR.out.more HS.out.more) rfl (Nat.le_trans (bytes_le s 4) (by omega))).mono ?_
  rintro e w2 ⟨rfl, rfl⟩
  rw [← num_bytes]
  go_wp2_with fail
  refine (refTake_any g B (s.num 4) (s.after 4) w1 HS.out (num_lt s 4)).mono ?_
  rintro e w2 ⟨A2, c2, rfl, hr, hs, hg⟩
  have HR2 := Lib.hid hr; have HS2 := Lib.hid hs; have HG2 := Lib.hid hg; clear hr hs hg
  go_wp2_with fail
  go_ret
  exact ⟨A2, c2, rfl, HR2.out, HS2.out, grownBy_trans HG.out HG2.out⟩
theorem RefS.set2 {w : World} {g B : Nat} {l : List UInt8} {b : Bool} (h : RefS w g B ⟨l, b⟩) (u : Bool) : RefS (w.setCell ⟨g, 2, none⟩ (.bool u)) g B ⟨l, u⟩ := by
  obtain ⟨hB, A, c, l0, p, hh, hp, hl, hr, hm⟩ := h
  exact ⟨hB, A, c, l0, p, blk_set hh 2 _, hp, hl, hr.keep fun q hq => World.cell?_setCell_other _ _ q _ (fun e => by subst e; simp at hq; omega), hm⟩
theorem RefS.spoilt {w : World} {g B : Nat} {s : St} (h : RefS w g B s) : ∃ b, w.cell? ⟨g, 2, none⟩ = some (.bool b) ∧ w.frozen? ⟨g, 2, none⟩ = false := by
  obtain ⟨_, _, _, _, _, hh, _⟩ := h
  exact ⟨_, blk_cell hh 2, blk_free hh 2⟩
set_option maxRecDepth 100000 in
set_option maxHeartbeats 2000000 in
theorem refCount_any (g B : Nat) (s : St) (m : Int) (w : World) (h : RefS w g B s) (hm0 : -9223372036854775808 ≤ m) (hm1 : m ≤ 9223372036854775807) :
    Calls Try.prog 35 #[.pointer (some ⟨g, 0, none⟩), .int .i64 m] w fun e w' => e = .returned (.int .i64 (s.count m)) ∧ RefS w' g B (s.countAfter m) ∧ w.grownBy w' (some g) := by
  have H := Lib.hid h
  clear h
  have hv : (s.num 8 : Int) < 18446744073709551616 := by have := num_lt s 8; omega
  by_cases hm : m < 0 ∨ m < (s.num 8 : Int)
  · have hc : Hid (s.count m = 0) := Lib.hid (by unfold St.count; rw [if_pos hm])
    have ha : Hid (s.countAfter m = ⟨(s.after 8).l, true⟩) := Lib.hid (by unfold St.countAfter; rw [if_pos (.inr (.inr hm))])
    rw [hc.out, ha.out]
    by_cases hneg : m < 0
    · clear hm hv
      go_enter Try.func35, Try.ntmps35
      go_wp2_with (go_at_call 33; refine (refUint_any g B s w H.out).mono ?_; rintro e w1 ⟨rfl, hs, hg⟩; obtain ⟨bb, sc, sf⟩ := hs.spoilt; have HS := Lib.hid hs; have HG := Lib.hid hg; clear hs hg)
      go_ret
      exact ⟨rfl, HS.out.set2 true, grownBy_trans HG.out (only_set g 2 _)⟩
    · have hlt : m < (s.num 8 : Int) := by omega
      clear hm
      go_enter Try.func35, Try.ntmps35
      go_wp2_with (go_at_call 33; refine (refUint_any g B s w H.out).mono ?_; rintro e w1 ⟨rfl, hs, hg⟩; obtain ⟨bb, sc, sf⟩ := hs.spoilt; have HS := Lib.hid hs; have HG := Lib.hid hg; clear hs hg)
      go_ret
      exact ⟨rfl, HS.out.set2 true, grownBy_trans HG.out (only_set g 2 _)⟩
  · have hm' : 0 ≤ m ∧ (s.num 8 : Int) ≤ m := by omega
    obtain ⟨q1, q2⟩ := hm'
    have hc : Hid (s.count m = (s.num 8 : Int)) := Lib.hid (by unfold St.count; rw [if_neg hm])
    have ha : Hid (s.countAfter m = s.after 8) := Lib.hid (by
      unfold St.countAfter
      obtain ⟨l, b⟩ := s
      cases b
      · by_cases hn : l.length < 8
        · rw [if_pos (.inr (.inl hn))]; simp [St.after, hn]
        · rw [if_neg (by rintro (h | h | h); · cases h
                         · exact hn h
                         · exact hm h)]
      · rw [if_pos (.inl rfl)]; simp [after_bad])
    rw [hc.out, ha.out]
    have hv2 : (s.num 8 : Int) ≤ 9223372036854775807 := by omega
    clear hm hv
    go_enter Try.func35, Try.ntmps35
    go_wp2_with (go_at_call 33; refine (refUint_any g B s w H.out).mono ?_; rintro e w1 ⟨rfl, hs, hg⟩; have HS := Lib.hid hs; have HG := Lib.hid hg; clear hs hg)
    go_ret
    exact ⟨rfl, HS.out, HG.out⟩
theorem refDone_any (g B : Nat) (s : St) (w : World) (h : RefS w g B s) :
    Calls Try.prog 20 #[.pointer (some ⟨g, 0, none⟩)] w fun e w' => e = .returned (.bool (s.done == 0)) ∧ ∃ n, w' = w.drewN n := by
  obtain ⟨l, bad⟩ := s
  obtain ⟨hB, A, c, l0, p, hh, hp, hl, hr, hmax⟩ := h
  have c0 := blk_cell hh 0
  have c1 := blk_cell hh 1
  have c2 := blk_cell hh 2
  simp only [List.getElem?_toArray, List.getElem?_cons_zero, List.getElem?_cons_succ] at c0 c1 c2
  have hd : ((⟨l, bad⟩ : St).done == 0) = (!bad && decide (p = l0.length)) := by
    have hl' : l = l0.drop p := hl
    subst hl'
    cases bad
    · by_cases e : p = l0.length
      · subst e; simp [St.done]
      · simp [St.done, e]; omega
    · simp [St.done]
  rw [hd]
  clear hh hr hl hd
  cases bad
  · by_cases e : p = l0.length
    · have he : ((p : Int) == (l0.length : Int)) = true := by rw [beq_iff_eq]; omega
      have hx : Hid ((!false && decide (p = l0.length)) = true) := Lib.hid (by simp [e])
      clear e
      rw [hx.out]
      go_enter Try.func20, Try.ntmps20
      go_wp2_with fail
      go_quiet (fail)
      go_wp2_with fail
      go_ret
      exact ⟨rfl, _, rfl⟩
    · have he : ((p : Int) == (l0.length : Int)) = false := by rw [beq_eq_false_iff_ne]; omega
      have hx : Hid ((!false && decide (p = l0.length)) = false) := Lib.hid (by simp [e])
      clear e
      rw [hx.out]
      go_enter Try.func20, Try.ntmps20
      go_wp2_with fail
      go_quiet (fail)
      go_wp2_with fail
      go_ret
      exact ⟨rfl, _, rfl⟩
  · have hnot : ∀ (x : Bool) (w : World), (Op.unary .not (.bool x)).run Try.prog w = .ok (.bool (!x)) w := fun _ _ => rfl
    rw [show (!true && decide (p = l0.length)) = false from rfl]
    go_enter Try.func20, Try.ntmps20
    go_wp2_with fail
    go_quiet (fail)
    go_wp2_with fail
    go_ret
    exact ⟨rfl, _, rfl⟩
end Go.Proofs.Ytcoaaldffnbdbaa
