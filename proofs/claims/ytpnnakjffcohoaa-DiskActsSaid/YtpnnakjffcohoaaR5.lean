import Derived.Test.YtpnnakjffcohoaaR4
namespace Go.Proofs.Ytpnnakjffcohoaa
set_option linter.unusedVariables false
set_option linter.unusedSimpArgs false
open Go.RowKit Mem Go.ChangeMaps
variable {w : World} {rb : Nat} {lv sv : Value} {r : Rfd}

theorem ownI_keep {w w' : World} {base : Nat} {v : Value} {l : List Int} (h : OwnI w base v l) (e : w'.heap = w.heap) : OwnI w' base v l := owns_of_block h fun k _ => by rw [e]
/-- The pages that were written, each at its first place. -/
def firsts (l : List (Nat × List UInt8)) : List Nat := l.foldl (fun o p => if p.1 ∈ o then o else o ++ [p.1]) []
theorem firsts_snoc (l : List (Nat × List UInt8)) (p : Nat × List UInt8) : firsts (l ++ [p]) = if p.1 ∈ firsts l then firsts l else firsts l ++ [p.1] := by
  unfold firsts
  rw [List.foldl_append]
  rfl
theorem firsts_len (l : List (Nat × List UInt8)) : (firsts l).length ≤ l.length := by
  suffices h : ∀ o : List Nat, (l.foldl (fun o p => if p.1 ∈ o then o else o ++ [p.1]) o).length ≤ o.length + l.length by
    have := h []; simpa [firsts] using this
  induction l with
  | nil => intro o; simp
  | cons p l ih =>
    intro o
    simp only [List.foldl_cons, List.length_cons]
    refine Nat.le_trans (ih _) ?_
    split <;> simp <;> omega

set_option maxHeartbeats 2000000 in
theorem rwaits_any (h : IsR w rb lv sv r) (hs : r.since.length ≤ 1000000) : Calls Try.prog 18 #[ptr rb] w fun e w' => ∃ v, e = .returned v ∧ OwnI w' w.heap.size v (ints (firsts r.since)) ∧ Below w.heap.size w w' := by
  obtain ⟨m, hm⟩ : ∃ m, m = r.since.length := ⟨_, rfl⟩
  have HM := Lib.hid hm
  rw [← hm] at hs
  have H := Lib.hid h
  obtain ⟨A, c, hsv, _⟩ := h.form
  rw [← hm] at hsv
  have HSV := Lib.hid hsv
  clear h hm hsv
  go_enter Try.func18, Try.ntmps18
  go_wp2
  go_loopw [4, 3] (fun v o wr => ∃ k : Nat, k ≤ m ∧ v = .int .i64 k ∧ Hid (OwnI wr w.heap.size o (ints (firsts (r.since.take k))) ∧ Below w.heap.size w wr)) (fun v _ _ => m - (intOf v).toNat)
  case atStart => exact ⟨0, Nat.zero_le _, rfl, OwnI.nil _ _, Below.refl _ _⟩
  case round =>
    obtain ⟨k, hk, rfl, hX⟩ := hrel
    obtain ⟨o1, b1⟩ := hX.out
    have O1 := Lib.hid o1
    have B1 := Lib.hid b1
    have R1 := Lib.hid (H.out.below b1)
    have c1 := R1.out.c1
    rw [HSV.out] at c1
    clear hX o1 b1
    by_cases hlt : k < m
    · have hkl : k < r.since.length := by have := HM.out; omega
      obtain ⟨A', c', e', hf⟩ := R1.out.form
      rw [HSV.out] at e'
      obtain ⟨g, hg, hc⟩ := hf (by omega)
      obtain ⟨x1, _⟩ := hc k r.since[k] (List.getElem?_eq_getElem hkl)
      injection e' with e1 e2 e3
      subst e1
      subst hg
      have HT := Lib.hid (show firsts (r.since.take (k + 1)) = if r.since[k].1 ∈ firsts (r.since.take k) then firsts (r.since.take k) else firsts (r.since.take k) ++ [r.since[k].1] by
        rw [List.take_succ_eq_append_getElem hkl, firsts_snoc])
      obtain ⟨pv, hpv⟩ : ∃ pv, pv = r.since[k].1 := ⟨_, rfl⟩
      rw [← hpv] at x1 HT
      have HL := Lib.hid (show (firsts (r.since.take k)).length ≤ 1000000 by have := firsts_len (r.since.take k); simp at this; omega)
      obtain ⟨fl, hfl⟩ : ∃ fl, fl = firsts (r.since.take k) := ⟨_, rfl⟩
      rw [← hfl] at HT O1 HL
      obtain ⟨Ao, co, rfl, ro, _, _⟩ := O1.out.form
      rw [ints_len] at O1 ⊢
      have RO := Lib.hid ro
      have hki : (k : Int) < (m : Int) := by omega
      clear hc hf hpv hfl ro e2 e3
      go_wp2
      go_loopw [6, 5] (fun v f wz => ∃ j : Nat, j ≤ fl.length ∧ v = .int .i64 j ∧ f = .bool (decide (pv ∉ fl.take j)) ∧ ∃ q, wz = wr.drewN q) (fun v _ _ => fl.length - (intOf v).toNat)
      case atStart => exact ⟨0, Nat.zero_le _, rfl, by simp, 0, rfl⟩
      case round =>
        obtain ⟨j, hj, rfl, rfl, q, rfl⟩ := hrel
        by_cases hjl : j < fl.length
        · have hji : (j : Int) < (fl.length : Int) := by omega
          have hj9 : fl.length ≤ 1000000 := HL.out
          have ht : (pv ∉ fl.take (j + 1)) ↔ (pv ∉ fl.take j ∧ ¬ pv = fl[j]) := by
            rw [List.take_succ_eq_append_getElem hjl, List.mem_append, List.mem_singleton, not_or]
          obtain ⟨b, ob, rfl, _, hcc⟩ := RO.out.2.2.2 (by rw [ints_len]; omega)
          have cc := hcc j (by rw [ints_len]; exact hjl)
          rw [show (ints fl)[j]'(by rw [ints_len]; exact hjl) = (fl[j] : Int) by simp [ints]] at cc
          have y1 := (drewN_cell wr q _).trans cc
          have y2 := (drewN_cell wr q _).trans c1
          have y3 := (drewN_cell wr q _).trans x1
          have HQ := Lib.hid (show ∀ j, (wr.drewN q).drewN j = wr.drewN (q + j) from fun j => World.drewN_drewN wr q j)
          generalize wr.drewN q = V at y1 y2 y3 HQ ⊢
          by_cases hin : pv ∈ fl.take j
          · have e1 : decide (pv ∉ fl.take j) = false := by simp [hin]
            have HE := Lib.hid (show (false : Bool) = decide (pv ∉ fl.take (j + 1)) by simp [ht, hin])
            rw [e1]
            clear e1 ht hin cc hcc
            go_wp2
            go_quiet (fail)
            go_wp2
            go_roundw
            case rel => exact ⟨j + 1, by omega, by go_num, congrArg Value.bool HE.out, _, HQ.out _⟩
            case measure => simp [intOf]; omega
          · have e1 : decide (pv ∉ fl.take j) = true := by simp [hin]
            have HE := Lib.hid (show decide (¬ ((fl[j] : Nat) : Int) = (pv : Int)) = decide (pv ∉ fl.take (j + 1)) from decide_eq_decide.2 (by rw [ht]; constructor <;> intro h <;> first | exact ⟨hin, fun e => h (by omega)⟩ | (intro e; exact h.2 (by omega))))
            rw [e1]
            generalize fl[j] = fj at y1 HE
            clear e1 ht hin cc hcc
            go_wp2
            go_quiet (fail)
            go_wp2
            go_roundw
            case rel => exact ⟨j + 1, by omega, by go_num, congrArg Value.bool ((show ((fj : Int) != (pv : Int)) = decide (¬ (fj : Int) = (pv : Int)) by by_cases hh : (fj : Int) = (pv : Int) <;> simp [hh]).trans HE.out), _, HQ.out _⟩
            case measure => simp [intOf]; omega
        · obtain rfl : j = fl.length := by omega
          rw [List.take_length]
          have O2 := Lib.hid (ownI_keep (w' := wr.drewN q) O1.out rfl)
          have B2 := Lib.hid (below_drewN B1.out q)
          have y2 := (drewN_cell wr q _).trans c1
          have y3 := (drewN_cell wr q _).trans x1
          have hj9 : fl.length ≤ 1000000 := HL.out
          generalize wr.drewN q = V at O2 B2 y2 y3 ⊢
          by_cases hin : pv ∈ fl
          · have e1 : decide (pv ∉ fl) = false := by simp [hin]
            have X := Lib.hid (show OwnI V w.heap.size (.slice Ao fl.length co) (ints (firsts (r.since.take (k + 1)))) ∧ Below w.heap.size w V by rw [HT.out, if_pos hin]; exact ⟨O2.out, B2.out⟩)
            rw [e1]
            clear e1 hin
            go_wp2
            go_roundw
            case rel => exact ⟨k + 1, by omega, by go_num, X.out⟩
            case measure => simp [intOf]; omega
          · have e1 : decide (pv ∉ fl) = true := by simp [hin]
            have O3 := Lib.hid (World.ownsRow.alloc O2.out (.cells #[.int .i64 (pv : Int)] 3) : OwnI (V.alloc (.cells #[.int .i64 (pv : Int)] 3)) w.heap.size (.slice Ao fl.length co) (ints fl))
            have HG := Lib.hid (fun (w7 : World) (v' : Value) (o7 : OwnI w7 w.heap.size v' (ints fl ++ [(pv : Int)])) (hg : (V.alloc (.cells #[.int .i64 (pv : Int)] 3)).grownBy w7 (Value.slice Ao fl.length co).ownBlock) =>
              show OwnI w7 w.heap.size v' (ints (firsts (r.since.take (k + 1)))) ∧ Below w.heap.size w w7 from by
              rw [HT.out, if_neg hin]
              exact ⟨by simpa [ints] using o7, (B2.out.alloc B2.out.size _).grown hg (Nat.le_trans B2.out.size (by simp)) (fun j e => (World.ownsRow.lt O2.out j e).1)⟩)
            have HSZ := Lib.hid (Nat.le_trans B2.out.size (show V.heap.size ≤ (V.alloc (.cells #[.int .i64 (pv : Int)] 3)).heap.size by simp))
            rw [e1]
            clear e1
            go_wp2_with (at_builtin; refine wpList_append_i rfl _ _ rfl w.heap.size _ _ rfl O3.out (V.heap.size + 1) _ _ _ [(pv : Int)] rfl rfl (by have := RdI.lit V [(pv : Int)] (by simp [maxLen]); rw [size_alloc'] at this; exact this) (by rw [ints_len]; simp only [List.length_cons, List.length_nil]; omega) HSZ.out ?_; intro v' w7 o7 hg7 hat7; have X7 := Lib.hid (HG.out _ _ o7 hg7); clear o7 hg7 hat7)
            go_roundw
            case rel => exact ⟨k + 1, by omega, by go_num, X7.out⟩
            case measure => simp [intOf]; omega
    · obtain rfl : k = m := by omega
      have e1 : r.since.take k = r.since := List.take_of_length_le (by rw [← HM.out]; exact Nat.le_refl _)
      rw [e1] at O1
      go_wp2
      go_ret
      exact ⟨_, rfl, O1.out, B1.out⟩
end Go.Proofs.Ytpnnakjffcohoaa
