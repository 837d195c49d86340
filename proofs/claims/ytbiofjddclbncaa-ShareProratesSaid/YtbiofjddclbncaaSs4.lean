import Derived.Test.YtbiofjddclbncaaSs3
namespace Go.Proofs.Ytbiofjddclbncaa.Sr
set_option linter.unusedVariables false
set_option linter.unusedSimpArgs false
open Go.RowKit Mem Mo
theorem rd_nil (w : World) : RdI w w.heap.size none 0 [] := RdI.nil _ _
/-- What Split, and the document's, leave. -/
def SpPost (T : Int) (l : List Int) (w : World) (e : Ending) (w' : World) : Prop :=
  ∃ A c, e = .returned (.tuple #[.slice A (shl T l).length c, .int .i64 (spE T l)]) ∧ RdI w' w'.heap.size A c (shl T l) ∧ Below w.heap.size w w'
theorem SpPost.no {T : Int} {l : List Int} {w w' : World} {v : Int} (h : spE T l = v ∧ shl T l = []) (hb : Below w.heap.size w w') : SpPost T l w (.returned (.tuple #[.slice none 0 0, .int .i64 v])) w' :=
  ⟨none, 0, by rw [h.1, h.2]; rfl, by rw [h.2]; exact RdI.nil _ _, hb⟩

set_option maxRecDepth 8000 in
set_option maxHeartbeats 2000000 in
theorem Split_any (T : Int) (A : Option Addr) (c : Nat) (l : List Int) (w : World) (B : Nat) (hr : RdI w B A c l) (hB : B ≤ w.heap.size) (hl : Nums l) (hT : -9223372036854775808 ≤ T ∧ T ≤ 9223372036854775807) :
    Calls Try.prog 8 #[.int .i64 T, .slice A l.length c] w (SpPost T l w) := by
  have W1 := Lib.hid (fun W => within_any 0 9223372036854775807 (some ⟨W.heap.size, 0, none⟩) 1 [T] (W.alloc (.cells #[.int .i64 T] 2)) (W.heap.size + 1) (RdI.lit W [T] 2 (by unfold maxLen; simp)))
  have W2 := Lib.hid (fun W (h : Below w.heap.size w W) => within_any 0 9223372036854775807 A c l W B (hr.below (h.mono hB)))
  have hlen : l.length ≤ maxLen := by have := hr.1; have := hr.2.1; omega
  unfold maxLen at hlen
  have SM := Lib.hid (fun W (h : Below w.heap.size w W) (hn : l.length ≤ 100) => Sum_any A c l W B (hr.below (h.mono hB)) (Nat.le_trans hB h.size) hl (by omega))
  have HR := Lib.hid hr
  have HBB := Lib.hid hB
  have HT := Lib.hid hT
  clear hr hB hl hT
  obtain ⟨n, hn⟩ := named l.length
  rw [hn] at W2 SM hlen ⊢
  have HN := Lib.hid hn
  clear hn
  by_cases h1 : 100 < n
  · have z1 : (100 < (n : Int)) = True := eq_true (by omega)
    have HP := Lib.hid (spE_a (T := T) (l := l) (.inl (by rw [HN.out]; exact h1)))
    clear h1
    go_enter Try.func8, Try.ntmps8
    go_wp2_with fail
    go_ret2
    exact SpPost.no HP.out (Below.refl _ _)
  have z1 : (100 < (n : Int)) = False := eq_false (by omega)
  obtain ⟨v1, hv1⟩ := named (wnB 0 9223372036854775807 [T])
  obtain ⟨v2, hv2⟩ := named (wnB 0 9223372036854775807 l)
  rw [hv1] at W1
  rw [hv2] at W2
  have HH := Lib.hid (show ¬ 100 < n ∧ n ≤ 100 by omega)
  have HW := Lib.hid (And.intro hv1 hv2)
  clear h1 hv1 hv2
  have B0 := Lib.hid (Below.refl w.heap.size w)
  cases v1 with
  | false =>
    have HP := Lib.hid (spE_a (T := T) (l := l) (.inr (.inl HW.out.1)))
    go_enter Try.func8, Try.ntmps8
    go_wp2_with fail
    refine (W1.out _).mono ?_
    rintro e w1 ⟨rfl, rfl⟩
    go_wp2_with fail
    go_ret2
    exact SpPost.no HP.out (B0.out.alloc (Nat.le_refl _) _)
  | true =>
    have B1 := Lib.hid (B0.out.alloc (Nat.le_refl _) (.cells #[.int .i64 T] 2))
    cases v2 with
    | false =>
      have HP := Lib.hid (spE_a (T := T) (l := l) (.inr (.inr HW.out.2)))
      go_enter Try.func8, Try.ntmps8
      go_wp2_with fail
      refine (W1.out _).mono ?_
      rintro e w1 ⟨rfl, rfl⟩
      go_wp2_with fail
      refine (W2.out _ B1.out).mono ?_
      rintro e w1 ⟨rfl, rfl⟩
      go_wp2_with fail
      go_ret2
      exact SpPost.no HP.out B1.out
    | true =>
      have HNO := Lib.hid (show ¬ (100 < l.length ∨ wnB 0 9223372036854775807 [T] = false ∨ wnB 0 9223372036854775807 l = false) by rw [HN.out, HW.out.1, HW.out.2]; simp; exact HH.out.2)
      obtain ⟨S, hS⟩ := named l.sum
      rw [hS] at SM
      have HSS := Lib.hid hS
      cases hi : isn S with
      | false =>
        rw [na_f hi, ne_f hi] at SM
        have HP := Lib.hid (spE_o (T := T) (l := l) HNO.out (by rw [hS]; exact hi))
        clear hi hS
        go_enter Try.func8, Try.ntmps8
        go_wp2_with fail
        refine (W1.out _).mono ?_
        rintro e w1 ⟨rfl, rfl⟩
        go_wp2_with fail
        refine (W2.out _ B1.out).mono ?_
        rintro e w1 ⟨rfl, rfl⟩
        go_wp2_with fail
        refine (SM.out _ B1.out HH.out.2).mono ?_
        rintro e w2 ⟨rfl, hb⟩
        have B2 := Lib.hid (B1.out.trans (hb.mono B1.out.size))
        clear hb
        go_wp2_with fail
        go_ret2
        exact SpPost.no HP.out B2.out
      | true =>
        rw [na_t hi, ne_t hi] at SM
        by_cases h0 : S = 0
        · have HP := Lib.hid (spE_z (T := T) (l := l) HNO.out (by rw [hS]; exact hi) (by rw [hS]; exact h0))
          subst h0
          clear hi hS
          go_enter Try.func8, Try.ntmps8
          go_wp2_with fail
          refine (W1.out _).mono ?_
          rintro e w1 ⟨rfl, rfl⟩
          go_wp2_with fail
          refine (W2.out _ B1.out).mono ?_
          rintro e w1 ⟨rfl, rfl⟩
          go_wp2_with fail
          refine (SM.out _ B1.out HH.out.2).mono ?_
          rintro e w2 ⟨rfl, hb⟩
          have B2 := Lib.hid (B1.out.trans (hb.mono B1.out.size))
          clear hb
          go_wp2_with fail
          go_ret2
          exact SpPost.no HP.out B2.out
        · have z2 : (S == 0) = false := by simp [h0]
          have HP := Lib.hid (spE_y (T := T) (l := l) HNO.out (by rw [hS]; exact hi) (by rw [hS]; exact h0))
          have hSh := sh_of HW.out.1 HW.out.2 (by rw [hS]; exact h0)
          rw [hS, HN.out] at hSh
          have HSh := Lib.hid hSh
          have hSb := (isn_iff S).1 hi
          have hn0 : 1 ≤ n := by
            rcases Nat.eq_zero_or_pos n with e | e
            · exfalso; have := hSh.a; have h2 := hSh.a0; rw [e] at this; simp only [sm] at this; omega
            · exact e
          obtain ⟨b, o, hAe, hbB, hcell⟩ := HR.out.2.2.2 (by rw [HN.out]; omega)
          subst hAe
          have hbw : b < w.heap.size := Nat.lt_of_lt_of_le hbB HBB.out
          have HCell := Lib.hid (fun W (h : Below w.heap.size w W) k (hk : k < n) => (show W.cell? ⟨b, o + k, none⟩ = some (.int .i64 (gv l k)) from by
            have hk2 : k < l.length := by rw [HN.out]; exact hk
            rw [gv_at hk2, ← hcell k hk2]; exact h.cell (p := ⟨b, o + k, none⟩) hbw))
          have RP := Lib.hid (fun (W : World) => (repeat_any W.heap.size 0 1 n T (W.alloc (.cells #[.int .i64 T] 2)) (by simp) (by rw [cell_of_row _ _ _ _ _ _ (heap_alloc_new W _)]; simp) hn0 HH.out.2).mono (R' := fun e w' => ∃ g, e = .returned (.slice (some ⟨g, 0, none⟩) n n) ∧ (g < w'.heap.size ∧ ∀ k, k < n → w'.cell? ⟨g, 0 + k, none⟩ = some (.int .i64 T)) ∧ Below W.heap.size W w') (fun e w' h => ⟨_, h.1, ⟨h.2.1, fun k hk => by rw [Nat.zero_add]; exact h.2.2.1 k hk⟩, ((Below.refl _ _).alloc (Nat.le_refl _) _).trans (h.2.2.2.mono (by simp))⟩))
          have PT := Lib.hid (fun (W : World) (h : Below w.heap.size w W) g (hg : g < W.heap.size) (ht : ∀ k, k < n → W.cell? ⟨g, 0 + k, none⟩ = some (.int .i64 T)) => parts_any g 0 n b o c n n (fun _ => T) (gv l) S W hg (Nat.lt_of_lt_of_le hbw h.size) ht (HCell.out W h) (Nat.le_refl _) HH.out.2 (by have := hSh.a0; omega) hSb.2 (fun k hk => ⟨hSh.t0, HT.out.2⟩) (fun k hk => ⟨hSh.w0 k hk, by
            have := sm_at_le (f := gv l) (n := n) hSh.w0 hk; rw [hSh.a] at this; omega⟩) (fun k hk => (isn_iff _).2 ⟨by have := hSh.q0 hk; unfold qv at this; omega, by have := hSh.q_le hk; have h3 := HT.out.2; unfold qv at this; omega⟩))
          have HB2 := Lib.hid (And.intro hbw hn0)
          clear hi hS h0 hSh hSb hn0 hbB hcell hbw
          go_enter Try.func8, Try.ntmps8
          go_wp2_with fail
          refine (W1.out _).mono ?_
          rintro e w1 ⟨rfl, rfl⟩
          go_wp2_with fail
          refine (W2.out _ B1.out).mono ?_
          rintro e w1 ⟨rfl, rfl⟩
          go_wp2_with fail
          refine (SM.out _ B1.out HH.out.2).mono ?_
          rintro e w2 ⟨rfl, hb⟩
          have B2 := Lib.hid (B1.out.trans (hb.mono B1.out.size))
          clear hb
          go_wp2_with fail
          refine (RP.out _).mono ?_
          rintro e w3 ⟨g0, rfl, hx, hb⟩
          have B3 := Lib.hid (B2.out.trans (hb.mono B2.out.size))
          have X3 := Lib.hid hx
          clear hb hx
          go_wp2_with fail
          refine (PT.out w3 B3.out g0 X3.out.1 X3.out.2).mono ?_
          rintro e w4 ⟨g1, g2, rfl, hg, hq, ht, hb⟩
          have B4 := Lib.hid (B3.out.trans (hb.mono B3.out.size))
          have hg1 : w.heap.size ≤ g1 := Nat.le_trans B3.out.size hg.1
          have HG := Lib.hid (And.intro hg1 hg.2)
          have HQ := Lib.hid (show RowZ w4 g1 n (qv T (gv l) S) from hq)
          have HRr := Lib.hid (show RowZ w4 g2 n (rv T (gv l) S) from ht)
          clear hb hg hg1 hq ht
          have GR := Lib.hid (greatest_any g2 0 n n (rv T (gv l) S) w4 HRr.out.lt (fun k hk => by rw [Nat.zero_add]; exact HRr.out.c k hk) HH.out.2)
          go_wp2_with fail
          refine GR.out.mono ?_
          rintro e w5 ⟨g3, T3, rfl, hg, hs, hb⟩
          have HQ5 := Lib.hid (HQ.out.bel hb)
          have B5 := Lib.hid (B4.out.trans (hb.mono B4.out.size))
          have HG3 := Lib.hid (show g1 < g3 from Nat.lt_of_lt_of_le HQ.out.lt hg.1)
          have HR3 := Lib.hid hg.2
          have HS3 := Lib.hid hs
          clear hb hg hs GR
          have SU := Lib.hid (sum_any (some ⟨g1, 0, none⟩) n (tl n (qv T (gv l) S)) w5 w5.heap.size (HQ5.out.rd (Nat.le_refl _) (by have := HH.out; unfold maxLen; omega)) (Nat.le_refl _) (fun x hx => by
            obtain ⟨k, hk, rfl⟩ := tl_mem hx
            have a := HSh.out.q0 hk; have b := HSh.out.q_le hk; have c := HT.out; omega) (by rw [tl_len]; have := HH.out; omega))
          rw [tl_len, tl_sum] at SU
          have hlf : sm (qv T (gv l) S) n = T - lf T (gv l) n S := by unfold lf; omega
          obtain ⟨t0, ht0⟩ : ∃ t0 : Nat, lf T (gv l) n S = t0 := ⟨(lf T (gv l) n S).toNat, by have := HSh.out.left0; omega⟩
          have HT0 := Lib.hid (And.intro ht0 (show t0 ≤ n by have := HSh.out.left_n; omega))
          rw [na_t ((isn_iff _).2 (by
            have a := sm_nonneg (f := qv T (gv l) S) (n := n) fun i hi => HSh.out.q0 hi
            have b := HT.out; have c := HSh.out.left0; omega))] at SU
          rw [hlf, ht0] at SU
          have K1 := Lib.hid (show wrap64 (T - (T - (t0 : Int))) = (t0 : Int) from wr64 (by omega) (by have := HT0.out.2; have := HH.out.2; omega))
          clear hlf ht0
          go_wp2_with fail
          refine SU.out.mono ?_
          rintro e w6 ⟨rfl, hb⟩
          have HQ6 := Lib.hid (HQ5.out.bel hb)
          have B6 := Lib.hid (B5.out.trans (hb.mono B5.out.size))
          have HR6 := Lib.hid (show ∀ k, k < n → w6.cell? ⟨g3, k, none⟩ = some (.int .i64 (T3 k : Nat)) from fun k hk => (hb.cell (p := ⟨g3, k, none⟩) HR3.out.lt).trans (HR3.out.c k hk))
          clear hb
          have k1 := K1.out
          have i1 : (t0 : Int) ≤ (n : Int) := by have := HT0.out.2; omega
          have i2 : (0 : Int) ≤ (t0 : Int) := by omega
          have i3 : t0 ≤ n := HT0.out.2
          go_wp2_with fail
          clear k1 i1 i2 i3 z1 z2
          have HZ0 := Lib.hid (show RowZ w6 g1 n (shr (qv T (gv l) S) (rv T (gv l) S) n 0) from HQ6.out.congr fun k hk => by unfold shr; rw [if_neg (had_zero _ _ _)]; omega)
          go_loopw [12, 57] (fun _ v wr => ∃ k : Nat, k ≤ t0 ∧ v = .int .i64 k ∧ Hid (RowZ wr g1 n (shr (qv T (gv l) S) (rv T (gv l) S) n k)) ∧ Hid (∀ j, j < n → wr.cell? ⟨g3, j, none⟩ = some (.int .i64 (T3 j : Nat))) ∧ Hid (Below w.heap.size w wr)) (fun _ v _ => t0 - (intOf v).toNat)
          · exact ⟨0, Nat.zero_le _, rfl, HZ0, HR6, B6⟩
          · clear HZ0 HR6 B6 HQ6 B5 HR3 SU HQ5
            obtain ⟨k, hk, rfl, HZ, HR, HB⟩ := hrel
            by_cases hkt : k < t0
            · have z1 := lt_t hkt
              have ht := HT0.out
              have hnn := HH.out
              have hkn : k < n := by omega
              have c1 := HR.out k hkn
              have hp := HS3.out.2 k hkn
              have hnx := nxt_of (r := rv T (gv l) S) HS3.out.1 hkn
              obtain ⟨e1, e2⟩ := shr_next (q := qv T (gv l) S) (r := rv T (gv l) S) hkn
              have hbd := HSh.out.shr_le (k := k + 1) (i := nxt (rv T (gv l) S) n k) (by omega) (by rw [hnx]; exact hp)
              rw [← e1] at hbd
              rw [hnx] at e1 e2 hbd
              obtain ⟨p, hpp⟩ := named (T3 k)
              rw [hpp] at c1 hp e1 e2 hbd
              have c2 := HZ.out.c p hp
              have f2 := HZ.out.z p
              have HZ2 := Lib.hid ((HZ.out.set hp (shr (qv T (gv l) S) (rv T (gv l) S) n k p + 1)).congr fun x _ => e2 x)
              have HR2 := Lib.hid (show ∀ j, j < n → (wr.setCell ⟨g1, p, none⟩ (.int .i64 (shr (qv T (gv l) S) (rv T (gv l) S) n k p + 1))).cell? ⟨g3, j, none⟩ = some (.int .i64 (T3 j : Nat)) from fun j hj => (World.cell?_setCell_other _ _ _ _ (by have := HG3.out; intro e; injection e with e3 _ _; omega)).trans (HR.out j hj))
              have HB2' := Lib.hid (bel_set (k := g1) (i := p) HB.out HG.out.1 (.int .i64 (shr (qv T (gv l) S) (rv T (gv l) S) n k p + 1)))
              have hT2 := HT.out.2
              obtain ⟨x, hx⟩ := named (shr (qv T (gv l) S) (rv T (gv l) S) n k p)
              rw [hx] at c2 HZ2 HR2 HB2' hbd
              have K2 := Lib.hid (show wrap64 (x + 1) = x + 1 by rw [← wrapEq, IntKind.wrap_i64]; omega)
              have i1 : (p : Int) < (n : Int) := by omega
              have i2 : (k : Int) < (n : Int) := by omega
              have hk3 : k < 1000 := by omega
              clear hk ht hnn hp hnx e1 e2 hbd hpp hT2 hx HZ HR HB hkn
              have k2 := K2.out
              go_wp2_with fail
              clear k2
              go_roundw
              case rel => exact ⟨k + 1, by omega, by go_num, HZ2, HR2, HB2'⟩
              case measure => simp [intOf]; omega
            · obtain rfl : k = t0 := by omega
              have z1 := lt_f (Nat.le_refl k)
              clear hkt
              go_wp2_with fail
              go_ret2
              have hp := HP.out
              rw [HSS.out, HN.out, HT0.out.1, Int.toNat_natCast] at hp
              refine ⟨some ⟨g1, 0, none⟩, n, ?_, ?_, HB.out⟩
              · rw [hp.1, hp.2, tl_len]; rfl
              · rw [hp.2]; exact HZ.out.rd (Nat.le_refl _) (by have := HH.out; unfold maxLen; omega)
end Go.Proofs.Ytbiofjddclbncaa.Sr
