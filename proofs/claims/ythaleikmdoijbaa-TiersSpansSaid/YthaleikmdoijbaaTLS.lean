import Derived.Test.YthaleikmdoijbaaTi7
import Derived.BigQuiet
namespace Go.Proofs.Ythaleikmdoijbaa
set_option linter.unusedVariables false
set_option linter.unusedSimpArgs false
set_option maxRecDepth 8000
open Go.RowKit Mem Mo Ti
def ovB (n : Int) (u p : Nat → Int) : Nat → Bool
  | 0 => false
  | k + 1 => ovB n u p k || !isn (spn n u k * p k)
def cls (n : Int) (u p : Nat → Int) : Nat → List Int
  | 0 => []
  | k + 1 => cls n u p k ++ [na (spn n u k * p k)]
theorem cls_length (n : Int) (u p : Nat → Int) (k : Nat) : (cls n u p k).length = k := by
  induction k with
  | zero => rfl
  | succ k ih => simp [cls, ih]
theorem na_bd (x : Int) : -9223372036854775808 ≤ na x ∧ na x ≤ 9223372036854775807 := by
  unfold na
  cases h : isn x with
  | true => rw [if_pos rfl]; exact (isn_iff x).1 h
  | false => rw [if_neg (by simp)]; omega
theorem cls_nums (n : Int) (u p : Nat → Int) (k : Nat) : Nums (cls n u p k) := by
  induction k with
  | zero => intro x hx; simp [cls] at hx
  | succ k ih =>
    intro x hx
    simp only [cls, List.mem_append, List.mem_singleton] at hx
    rcases hx with h | rfl
    · exact ih x h
    · exact na_bd _
theorem cls_sum (n : Int) (u p : Nat → Int) (k : Nat) (h : ovB n u p k = false) : (cls n u p k).sum = cst n u p k := by
  induction k with
  | zero => rfl
  | succ k ih =>
    simp only [ovB, Bool.or_eq_false_iff, Bool.not_eq_false'] at h
    simp only [cls, List.sum_append, List.sum_cons, List.sum_nil, cst, ih h.1, na_t h.2, Int.mul_comm (p k)]
    omega
theorem ov_big {u p : Nat → Int} {m : Nat} (hok : Ok u p m) {n : Int} (hn : 0 ≤ n) : ∀ k, k ≤ m → ovB n u p k = true → isn (cst n u p m) = false := by
  intro k
  induction k with
  | zero => intro _ h; simp [ovB] at h
  | succ k ih =>
    intro hk h
    simp only [ovB, Bool.or_eq_true, Bool.not_eq_true'] at h
    rcases h with h | h
    · exact ih (by omega) h
    · have a := hok.part hn (k := k) (by omega)
      have b := hok.part_le hn (k := k) (by omega)
      rw [Int.mul_comm] at h
      have c := isn_not h
      unfold isn; simp; omega
/-- What the law asks of a tier's span. -/
theorem Ti.Ok.asks {u p : Nat → Int} {m : Nat} (h : Ok u p m) {n : Int} (hn : 0 ≤ n) {k : Nat} (hk : k < m) :
    spn n u k ≤ n - ahd n u k ∧ (0 < u k → spn n u k ≤ u k - prv u k ∧ (spn n u k < u k - prv u k → spn n u k = n - ahd n u k)) := by
  have h1 := h.ahd_eq hn hk
  have hp := h.prv0 hk
  have hb := h.bd hk
  unfold spn
  rw [h1]
  rcases Nat.lt_or_ge k (m - 1) with x | x
  · have h3 := (h.rise k x).1
    unfold en
    rw [if_neg (show ¬ u k = 0 by omega)]
    refine ⟨by split <;> split <;> omega, fun _ => ⟨by split <;> split <;> omega, fun _ => ?_⟩⟩
    split <;> split <;> omega
  · have h0 : u k = 0 := by rw [show k = m - 1 by omega, h.last]
    rw [h0]; unfold en; rw [if_pos rfl]
    exact ⟨by split <;> omega, fun c => by omega⟩
set_option maxHeartbeats 4000000 in
theorem tiersSpans_walk (A : Option Addr) (len c : Nat) (f : Nat → Nat → Value) (n : Int) (w : World) {fs : Array Field} (hu : Try.prog.underlying 27 = some (.struct fs)) (hf : Structs Try.prog w w.heap.size fs A len c f) (_hn : (Lit.int .i64 n).wf = true) :
    Calls Try.prog 5 #[.slice A len c, .int .i64 n] w fun e w' => e = .returned (.bool true) ∧ Below w.heap.size w w' := by
  obtain ⟨u, p, hr, hb⟩ := tiers_of hu hf
  have hn := i64_bd _hn
  clear hf hu _hn
  have G := Lib.hid (fun W => goes_any W)
  have B0 := Lib.hid (Below.refl w.heap.size w)
  by_cases h1 : 20 < len
  · have z1 : (20 < (len : Int)) = True := by simp; omega
    have ho : okB u p len = false := by unfold okB; rw [show decide (1 ≤ len ∧ len ≤ 4) = false by simp; omega]; rfl
    have C1 := Lib.hid (Spans_no A c len u p n w w.heap.size hr (Nat.le_refl _) (by rcases Int.lt_or_le n 0 with x | x; exact .inl x; exact .inr ⟨x, ho⟩))
    clear hr hb hn h1 ho
    go_enter Try.func5, Try.ntmps5
    go_wp2_with fail
    refine (C1.out).mono ?_
    rintro e w1 ⟨rfl, hb⟩
    have B1 := Lib.hid (B0.out.trans (hb.mono B0.out.size)); clear hb
    go_wp2_with fail
    refine (G.out _).mono ?_
    rintro e w2 ⟨rfl, hb⟩
    have B2 := Lib.hid (B1.out.trans (hb.mono B1.out.size)); clear hb
    go_wp2_with fail
    go_ret
    exact ⟨rfl, B2.out⟩
  have z1 : (20 < (len : Int)) = False := by simp; omega
  have CC := Lib.hid (fun W (h : Below w.heap.size w W) => Check_any A c len u p W w.heap.size (hr.below h) h.size)
  cases ho : okB u p len with
  | false =>
    rw [ho] at CC
    have C1 := Lib.hid (Spans_no A c len u p n w w.heap.size hr (Nat.le_refl _) (by rcases Int.lt_or_le n 0 with x | x; exact .inl x; exact .inr ⟨x, ho⟩))
    clear hb hn h1 ho hr
    go_enter Try.func5, Try.ntmps5
    go_wp2_with fail
    refine (C1.out).mono ?_
    rintro e w1 ⟨rfl, hb⟩
    have B1 := Lib.hid (B0.out.trans (hb.mono B0.out.size)); clear hb
    go_wp2_with fail
    refine (CC.out _ B1.out).mono ?_
    rintro e w2 ⟨rfl, hb⟩
    have B2 := Lib.hid (B1.out.trans (hb.mono B1.out.size)); clear hb
    go_wp2_with fail
    refine (G.out _).mono ?_
    rintro e w3 ⟨rfl, hb⟩
    have B3 := Lib.hid (B2.out.trans (hb.mono B2.out.size)); clear hb
    go_wp2_with fail
    go_ret
    exact ⟨rfl, B3.out⟩
  | true =>
    rw [ho] at CC
    have hok := okB_iff.1 ho
    by_cases h2 : n < 0
    · have z2 : (n < 0) = True := by simp [h2]
      have C1 := Lib.hid (Spans_no A c len u p n w w.heap.size hr (Nat.le_refl _) (.inl h2))
      clear hn h2 hok hr hb h1 ho
      go_enter Try.func5, Try.ntmps5
      go_wp2_with fail
      refine (C1.out).mono ?_
      rintro e w1 ⟨rfl, hb⟩
      have B1 := Lib.hid (B0.out.trans (hb.mono B0.out.size)); clear hb
      go_wp2_with fail
      refine (CC.out _ B1.out).mono ?_
      rintro e w2 ⟨rfl, hb⟩
      have B2 := Lib.hid (B1.out.trans (hb.mono B1.out.size)); clear hb
      go_wp2_with fail
      refine (G.out _).mono ?_
      rintro e w3 ⟨rfl, hb⟩
      have B3 := Lib.hid (B2.out.trans (hb.mono B2.out.size)); clear hb
      go_wp2_with fail
      go_ret
      exact ⟨rfl, B3.out⟩
    have z2 : (n < 0) = False := by simp; omega
    have hn0 : 0 ≤ n := by omega
    have C1 := Lib.hid (Spans_yes A c len u p n w w.heap.size hr (Nat.le_refl _) hok hn0 hn.2)
    have CP := Lib.hid (fun W (h : Below w.heap.size w W) => Price_yes A c len u p n W w.heap.size (hr.below h) h.size hok hn0 hn.2)
    have HR := Lib.hid hr
    have HOk := Lib.hid hok
    have HN := Lib.hid hn
    have HL := Lib.hid (show len ≤ 4 from hok.m4)
    obtain ⟨b, o, rfl, hbl, _⟩ := hr.2.2 hok.m1
    have HBl := Lib.hid hbl
    have hcap : len ≤ c := hr.1
    clear hn h2 hok hr hb h1 ho hbl
    go_enter Try.func5, Try.ntmps5
    go_wp2_with fail
    refine C1.out.mono ?_
    rintro e w1 ⟨v, rfl, hown, hb⟩
    have B1 := Lib.hid hb
    obtain ⟨A1, c1, rfl, hrd, _⟩ := hown.form
    have hll : (spL n u (List.finRange len)).length = len := by rw [spL_length, List.length_finRange]
    rw [hll]
    have HRD := Lib.hid hrd
    have HLL := Lib.hid hll
    clear hb hown hrd hll C1
    go_wp2_with fail
    refine (CC.out _ B1.out).mono ?_
    rintro e w2 ⟨rfl, hb⟩
    have B2 := Lib.hid (B1.out.trans (hb.mono B1.out.size))
    have HR2 := Lib.hid (HRD.out.below hb)
    clear hb CC
    obtain ⟨b1, o1, rfl, hb1, hc1⟩ := HR2.out.2.2.2 (by rw [HLL.out]; exact HOk.out.m1)
    have hcap1 : len ≤ c1 := by have := HR2.out.1; rwa [HLL.out] at this
    have HC1 := Lib.hid (fun W (h : Below w2.heap.size w2 W) k (hk : k < len) => (show W.cell? ⟨b1, o1 + k, none⟩ = some (.int .i64 (spn n u k)) by
      have e := hc1 k (by rw [HLL.out]; exact hk)
      rw [show (spL n u (List.finRange len))[k]'(by rw [HLL.out]; exact hk) = spn n u k by simp [spL]] at e
      exact (h.cell (p := ⟨b1, o1 + k, none⟩) (by have := lt_cell e; exact this)).trans e))
    have HROW := Lib.hid (fun W (h : Below w2.heap.size w2 W) k (hk : k < len) => (show W.cell? ⟨b, o + k * 2, none⟩ = some (.int .i64 (u k)) ∧ W.cell? ⟨b, o + k * 2 + 1, none⟩ = some (.int .i64 (p k)) by
      obtain ⟨b', o', e, _, hc⟩ := (HR.out.below (B2.out.trans (h.mono B2.out.size))).2.2 (by omega)
      simp at e
      obtain ⟨rfl, rfl⟩ := e
      exact hc k hk))
    clear hc1 hb1
    go_wp2_with fail
    go_loopw [6, 7, 8, 9, 10] (fun v6 v7 v8 v9 v wr => ∃ k : Nat, k ≤ len ∧ v = .int .i64 k ∧ v6 = .int .i64 (n - ahd n u k) ∧ v7 = .int .i64 (prv u k) ∧ v9 = .bool (ovB n u p k) ∧ Hid (OwnJ 2 wr w2.heap.size v8 (cls n u p k)) ∧ Hid (Below w2.heap.size w2 wr)) (fun _ _ _ _ v _ => len - (intOf v).toNat)
    · exact ⟨0, by omega, rfl, by rw [ahd_zero]; simp, rfl, rfl, Lib.hid (OwnJ.nil _ _ _), Lib.hid (Below.refl _ _)⟩
    · obtain ⟨k, hk, rfl, rfl, rfl, rfl, HO, HX⟩ := hrel
      by_cases hkn : k < len
      · have e0 := HC1.out wr HX.out k hkn
        obtain ⟨e1, e2⟩ := HROW.out wr HX.out k hkn
        obtain ⟨q1, q2⟩ := HOk.out.asks hn0 hkn
        have q3 := HOk.out.spn_bd hn0 hkn
        have q4 := HOk.out.prc k hkn
        have q5 := HOk.out.bd hkn
        have q6 := HOk.out.prv0 hkn
        have q7 := HOk.out.ahd_bd hn0 (k := k) (by omega)
        have q8 : prv u k ≤ 1099511627776 := by
          rcases k with _ | j
          · rw [prv_zero]; omega
          · rw [prv_succ]; exact (HOk.out.bd (by omega)).2
        have nx : ahd n u (k + 1) = ahd n u k + spn n u k := by rw [ahd_succ]; unfold spn; omega
        have hov : ovB n u p (k + 1) = (ovB n u p k || !isn (spn n u k * p k)) := rfl
        have hcl : cls n u p (k + 1) = cls n u p k ++ [na (spn n u k * p k)] := rfl
        obtain ⟨s, hs⟩ := named (spn n u k)
        obtain ⟨q, hq⟩ := named (p k)
        obtain ⟨x, hx⟩ := named (u k)
        obtain ⟨a, ha⟩ := named (ahd n u k)
        obtain ⟨r, hr⟩ := named (prv u k)
        obtain ⟨ov, hv⟩ := named (ovB n u p k)
        rw [hs] at e0 q1 q2 q3 nx hov hcl
        rw [hx] at e1 q2 q5
        rw [hq] at e2 q4 hov hcl
        rw [ha] at q1 q2 q7 nx ⊢
        rw [hr] at q2 q6 q8 ⊢
        rw [hv] at hov ⊢
        obtain ⟨L, hL⟩ := named (n - a)
        rw [hL] at q1 q2 ⊢
        have HLo := Lib.hid (show L - s = n - ahd n u (k + 1) by rw [nx]; omega)
        have HOV := Lib.hid hov
        have HCL := Lib.hid hcl
        have HX2 := Lib.hid hx
        have hnn := HN.out
        have CM := Lib.hid (fun W => Mul_any s q W (by omega) (by omega) (by omega) (by omega))
        have w1' : IntKind.i64.wrap (L - s) = L - s := by rw [IntKind.wrap_i64]; omega
        have w2' : IntKind.i64.wrap (x - r) = x - r := by rw [IntKind.wrap_i64]; omega
        have d1 : decide (s < 0) = false := by simp; omega
        have d2 : decide (L < s) = false := by simp; omega
        obtain ⟨A2, c2, rfl, _⟩ := HO.out.form
        have hcl2 : (cls n u p k).length = k := cls_length n u p k
        rw [hcl2] at HO ⊢
        have HC2 := Lib.hid hcl2
        clear hcl2
        obtain ⟨na', hna⟩ := named (na (s * q))
        obtain ⟨ne', hne⟩ := named (ne (s * q))
        rw [hna] at CM
        rw [hne] at CM
        have HM := Lib.hid (And.intro hna hne)
        have HE := Lib.hid (show (ne' = 0 ∧ isn (s * q) = true) ∨ (ne' = 30 ∧ isn (s * q) = false) by
          rw [← hne]
          cases h : isn (s * q) with
          | true => exact .inl ⟨ne_t h, rfl⟩
          | false => exact .inr ⟨ne_f h, rfl⟩)
        have hws : (x = 0 ∧ True) ∨ (0 < x ∧ s < x - r ∧ s = L) ∨ (0 < x ∧ ¬ s < x - r ∧ s ≤ x - r) := by
          rcases Int.lt_or_le 0 x with h | h
          · have := q2 h
            by_cases h2 : s < x - r
            · exact .inr (.inl ⟨h, h2, this.2 h2⟩)
            · exact .inr (.inr ⟨h, h2, this.1⟩)
          · exact .inl ⟨by omega, trivial⟩
        have hl5 := HL.out
        clear q1 q2 q3 q4 q5 q6 q7 q8 nx hov hcl hs hq hx ha hr hv hL hnn hna hne
        rcases hws with ⟨rfl, _⟩ | ⟨h3, h4, rfl⟩ | ⟨h3, h4, h5⟩
        · have d3 : decide ((0 : Int) < 0) = false := by simp
          go_wp2_with fail
          go_quiet (fail)
          rename_i nq
          go_wp2_with fail
          have HB0 : Hid (Below wr.heap.size wr (wr.drewN nq).drew) := Lib.hid (below_drewN (Below.refl _ _) nq).drew
          go_region_with (refine (CM.out _).mono ?_; rintro e w3 ⟨rfl, hb⟩; have HB3 := Lib.hid (HB0.out.trans hb); clear hb)
          all_goals simp only [Act.put, List.getElem_toArray, List.getElem_cons_zero, List.getElem_cons_succ]
          all_goals
            have HX3 := Lib.hid (HX.out.trans (HB3.out.mono HX.out.size))
            have HO3 := Lib.hid (HO.out.below HB3.out (Nat.le_refl _))
            have HO4 : Hid (OwnJ 2 (w3.alloc (.cells #[.int .i64 na'] 2)) w2.heap.size (.slice A2 k c2) (cls n u p k)) := Lib.hid (HO3.out.below ((Below.refl w3.heap.size w3).alloc (Nat.le_refl _) _) (Nat.le_refl _))
            have HR4 : Hid (RdI (w3.alloc (.cells #[.int .i64 na'] 2)) (w3.heap.size + 1) (some ⟨w3.heap.size, 0, none⟩) 1 [na']) := Lib.hid (RdI.lit w3 [na'] 2 (by unfold maxLen; simp))
            have hl4 := Lib.hid (show (cls n u p k).length + [na'].length ≤ 17592186044416 by rw [HC2.out]; have := HL.out; simp; omega)
            rcases HE.out with ⟨rfl, he⟩ | ⟨rfl, he⟩
            all_goals
              have HEE := Lib.hid he
              clear he
              cases ov
          all_goals
            go_wp2_with (at_builtin; refine wpList_append_j ity rfl _ _ rfl w2.heap.size _ _ rfl HO4.out (w3.heap.size + 1) _ _ 1 [na'] rfl rfl HR4.out hl4.out (by have := HX3.out.size; simp; omega) ?_; intro v2 w4 hown2 hg2 hat2)
            have HG := Lib.hid hg2
            have HO5 := Lib.hid hown2
            clear hg2 hown2 hat2
            go_roundw
            case rel =>
              refine ⟨k + 1, by omega, by go_num, by first | rw [HLo.out] | (rw [← HLo.out]; simp), by rw [prv_succ, HX2.out], ?_, Lib.hid (by rw [HCL.out, HM.out.1]; exact HO5.out), Lib.hid ?_⟩
              · rw [HOV.out, HEE.out]; rfl
              · exact (HX3.out.alloc HX3.out.size _).grown HG.out (by have := HX3.out.size; simp; omega) (fun j e => (World.ownsRow.lt HO4.out j e).1)
            case measure => simp [intOf]; omega
        · have d3 : decide (0 < x) = true := by simp; omega
          have d4 : decide (x - r < s) = false := by simp; omega
          have d5 : decide (s < x - r) = true := by simp; omega
          have d6 : (s != s) = false := by simp
          clear h3 h4
          go_wp2_with fail
          go_quiet (fail)
          rename_i nq
          go_wp2_with fail
          have HB0 : Hid (Below wr.heap.size wr (wr.drewN nq).drew) := Lib.hid (below_drewN (Below.refl _ _) nq).drew
          go_region_with (refine (CM.out _).mono ?_; rintro e w3 ⟨rfl, hb⟩; have HB3 := Lib.hid (HB0.out.trans hb); clear hb)
          all_goals simp only [Act.put, List.getElem_toArray, List.getElem_cons_zero, List.getElem_cons_succ]
          all_goals
            have HX3 := Lib.hid (HX.out.trans (HB3.out.mono HX.out.size))
            have HO3 := Lib.hid (HO.out.below HB3.out (Nat.le_refl _))
            have HO4 : Hid (OwnJ 2 (w3.alloc (.cells #[.int .i64 na'] 2)) w2.heap.size (.slice A2 k c2) (cls n u p k)) := Lib.hid (HO3.out.below ((Below.refl w3.heap.size w3).alloc (Nat.le_refl _) _) (Nat.le_refl _))
            have HR4 : Hid (RdI (w3.alloc (.cells #[.int .i64 na'] 2)) (w3.heap.size + 1) (some ⟨w3.heap.size, 0, none⟩) 1 [na']) := Lib.hid (RdI.lit w3 [na'] 2 (by unfold maxLen; simp))
            have hl4 := Lib.hid (show (cls n u p k).length + [na'].length ≤ 17592186044416 by rw [HC2.out]; have := HL.out; simp; omega)
            rcases HE.out with ⟨rfl, he⟩ | ⟨rfl, he⟩
            all_goals
              have HEE := Lib.hid he
              clear he
              cases ov
          all_goals
            go_wp2_with (at_builtin; refine wpList_append_j ity rfl _ _ rfl w2.heap.size _ _ rfl HO4.out (w3.heap.size + 1) _ _ 1 [na'] rfl rfl HR4.out hl4.out (by have := HX3.out.size; simp; omega) ?_; intro v2 w4 hown2 hg2 hat2)
            have HG := Lib.hid hg2
            have HO5 := Lib.hid hown2
            clear hg2 hown2 hat2
            go_roundw
            case rel =>
              refine ⟨k + 1, by omega, by go_num, by first | rw [HLo.out] | (rw [← HLo.out]; simp), by rw [prv_succ, HX2.out], ?_, Lib.hid (by rw [HCL.out, HM.out.1]; exact HO5.out), Lib.hid ?_⟩
              · rw [HOV.out, HEE.out]; rfl
              · exact (HX3.out.alloc HX3.out.size _).grown HG.out (by have := HX3.out.size; simp; omega) (fun j e => (World.ownsRow.lt HO4.out j e).1)
            case measure => simp [intOf]; omega
        · have d3 : decide (0 < x) = true := by simp; omega
          have d4 : decide (x - r < s) = false := by simp; omega
          have d5 : decide (s < x - r) = false := by simp; omega
          clear h3 h4 h5
          go_wp2_with fail
          go_quiet (fail)
          rename_i nq
          go_wp2_with fail
          have HB0 : Hid (Below wr.heap.size wr (wr.drewN nq).drew) := Lib.hid (below_drewN (Below.refl _ _) nq).drew
          go_region_with (refine (CM.out _).mono ?_; rintro e w3 ⟨rfl, hb⟩; have HB3 := Lib.hid (HB0.out.trans hb); clear hb)
          all_goals simp only [Act.put, List.getElem_toArray, List.getElem_cons_zero, List.getElem_cons_succ]
          all_goals
            have HX3 := Lib.hid (HX.out.trans (HB3.out.mono HX.out.size))
            have HO3 := Lib.hid (HO.out.below HB3.out (Nat.le_refl _))
            have HO4 : Hid (OwnJ 2 (w3.alloc (.cells #[.int .i64 na'] 2)) w2.heap.size (.slice A2 k c2) (cls n u p k)) := Lib.hid (HO3.out.below ((Below.refl w3.heap.size w3).alloc (Nat.le_refl _) _) (Nat.le_refl _))
            have HR4 : Hid (RdI (w3.alloc (.cells #[.int .i64 na'] 2)) (w3.heap.size + 1) (some ⟨w3.heap.size, 0, none⟩) 1 [na']) := Lib.hid (RdI.lit w3 [na'] 2 (by unfold maxLen; simp))
            have hl4 := Lib.hid (show (cls n u p k).length + [na'].length ≤ 17592186044416 by rw [HC2.out]; have := HL.out; simp; omega)
            rcases HE.out with ⟨rfl, he⟩ | ⟨rfl, he⟩
            all_goals
              have HEE := Lib.hid he
              clear he
              cases ov
          all_goals
            go_wp2_with (at_builtin; refine wpList_append_j ity rfl _ _ rfl w2.heap.size _ _ rfl HO4.out (w3.heap.size + 1) _ _ 1 [na'] rfl rfl HR4.out hl4.out (by have := HX3.out.size; simp; omega) ?_; intro v2 w4 hown2 hg2 hat2)
            have HG := Lib.hid hg2
            have HO5 := Lib.hid hown2
            clear hg2 hown2 hat2
            go_roundw
            case rel =>
              refine ⟨k + 1, by omega, by go_num, by first | rw [HLo.out] | (rw [← HLo.out]; simp), by rw [prv_succ, HX2.out], ?_, Lib.hid (by rw [HCL.out, HM.out.1]; exact HO5.out), Lib.hid ?_⟩
              · rw [HOV.out, HEE.out]; rfl
              · exact (HX3.out.alloc HX3.out.size _).grown HG.out (by have := HX3.out.size; simp; omega) (fun j e => (World.ownsRow.lt HO4.out j e).1)
            case measure => simp [intOf]; omega
      · obtain rfl : k = len := by omega
        have hall := HOk.out.all n
        have z3 : n - ahd n u k = 0 := by rw [hall]; omega
        rw [z3]
        obtain ⟨A2, c2, rfl, hr2, _⟩ := HO.out.form
        have CS := Lib.hid (Sum_any A2 c2 (cls n u p k) wr wr.heap.size hr2 (Nat.le_refl _) (cls_nums n u p k) (by rw [cls_length]; have := HL.out; omega))
        have hcl := cls_length n u p k
        rw [hcl] at CS ⊢
        have BX := Lib.hid (B2.out.trans (HX.out.mono B2.out.size))
        have hsum := cls_sum n u p k
        have hbig := ov_big HOk.out hn0 k (Nat.le_refl k)
        obtain ⟨T, hT⟩ := named (cst n u p k)
        rw [hT] at CP hsum hbig
        cases hov : ovB n u p k with
        | true =>
          have hT2 := hbig hov
          rw [na_f hT2, ne_f hT2] at CP
          generalize na (cls n u p k).sum = s1 at *
          generalize ne (cls n u p k).sum = s2 at *
          clear hall z3 hr2 hcl hsum hbig hT hT2 hov hn0 HC1 HROW HR2 HRD HR
          go_wp2_with fail
          refine CS.out.mono ?_
          rintro e w3 ⟨rfl, hb⟩
          have B3 := Lib.hid (BX.out.trans (hb.mono BX.out.size)); clear hb
          go_wp2_with fail
          refine (CP.out _ B3.out).mono ?_
          rintro e w4 ⟨rfl, hb⟩
          have B4 := Lib.hid (B3.out.trans (hb.mono B3.out.size)); clear hb
          go_wp2_with fail
          refine (G.out _).mono ?_
          rintro e w5 ⟨rfl, hb⟩
          have B5 := Lib.hid (B4.out.trans (hb.mono B4.out.size)); clear hb
          go_wp2_with fail
          go_ret
          exact ⟨rfl, B5.out⟩
        | false =>
          rw [hsum hov] at CS
          cases hi : isn T with
          | true =>
            rw [na_t hi, ne_t hi] at CS CP
            clear hall z3 hr2 hcl hsum hbig hT hov hi hn0 HC1 HROW HR2 HRD HR
            go_wp2_with fail
            refine CS.out.mono ?_
            rintro e w3 ⟨rfl, hb⟩
            have B3 := Lib.hid (BX.out.trans (hb.mono BX.out.size)); clear hb
            go_wp2_with fail
            refine (CP.out _ B3.out).mono ?_
            rintro e w4 ⟨rfl, hb⟩
            have B4 := Lib.hid (B3.out.trans (hb.mono B3.out.size)); clear hb
            go_wp2_with fail
            refine (G.out _).mono ?_
            rintro e w5 ⟨rfl, hb⟩
            have B5 := Lib.hid (B4.out.trans (hb.mono B4.out.size)); clear hb
            go_wp2_with fail
            go_ret
            exact ⟨rfl, B5.out⟩
          | false =>
            rw [na_f hi, ne_f hi] at CS CP
            clear hall z3 hr2 hcl hsum hbig hT hov hi hn0 HC1 HROW HR2 HRD HR
            go_wp2_with fail
            refine CS.out.mono ?_
            rintro e w3 ⟨rfl, hb⟩
            have B3 := Lib.hid (BX.out.trans (hb.mono BX.out.size)); clear hb
            go_wp2_with fail
            refine (CP.out _ B3.out).mono ?_
            rintro e w4 ⟨rfl, hb⟩
            have B4 := Lib.hid (B3.out.trans (hb.mono B3.out.size)); clear hb
            go_wp2_with fail
            refine (G.out _).mono ?_
            rintro e w5 ⟨rfl, hb⟩
            have B5 := Lib.hid (B4.out.trans (hb.mono B4.out.size)); clear hb
            go_wp2_with fail
            go_ret
            exact ⟨rfl, B5.out⟩
end Go.Proofs.Ythaleikmdoijbaa
