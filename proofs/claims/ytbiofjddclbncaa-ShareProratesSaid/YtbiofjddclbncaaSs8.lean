import Derived.Test.YtbiofjddclbncaaSs7
namespace Go.Proofs.Ytbiofjddclbncaa.Sr
set_option linter.unusedVariables false
set_option linter.unusedSimpArgs false
open Go.RowKit Mem Mo
theorem bad_cases {a d : List Int} {D : Int} (h : BadR a d D) : a.length ≠ d.length ∨ (a.length = d.length ∧ a.length < 1) ∨ (a.length = d.length ∧ 1 ≤ a.length ∧ 100 < a.length) ∨ (a.length = d.length ∧ 1 ≤ a.length ∧ a.length ≤ 100 ∧ (wnB 0 1125899906842624 a = false ∨ (wnB 0 1125899906842624 a = true ∧ wnB 1 10000 [D] = false) ∨ (wnB 0 1125899906842624 a = true ∧ wnB 1 10000 [D] = true ∧ wnB 0 D d = false))) := by
  by_cases e1 : a.length = d.length
  · by_cases e2 : a.length < 1
    · exact .inr (.inl ⟨e1, e2⟩)
    · by_cases e3 : 100 < a.length
      · exact .inr (.inr (.inl ⟨e1, by omega, e3⟩))
      · refine .inr (.inr (.inr ⟨e1, by omega, by omega, ?_⟩))
        cases h1 : wnB 0 1125899906842624 a
        · exact .inl rfl
        · cases h2 : wnB 1 10000 [D]
          · exact .inr (.inl ⟨rfl, rfl⟩)
          · refine .inr (.inr ⟨rfl, rfl, ?_⟩)
            rcases h with h | h | h | h | h | h
            · exact absurd e1 h
            · exact absurd h e2
            · exact absurd h e3
            · rw [h1] at h; cases h
            · rw [h2] at h; cases h
            · exact h
  · exact .inl e1

set_option maxRecDepth 8000 in
set_option maxHeartbeats 2000000 in
theorem Prorate_no (D : Int) (A1 : Option Addr) (c1 : Nat) (a : List Int) (A2 : Option Addr) (c2 : Nat) (d : List Int) (w : World) (hr1 : RdI w w.heap.size A1 c1 a) (hr2 : RdI w w.heap.size A2 c2 d) (h : BadR a d D) :
    Calls Try.prog 12 #[.slice A1 a.length c1, .slice A2 d.length c2, .int .i64 D] w (PrPost a d D w) := by
  have W1 := Lib.hid (within_any 0 1125899906842624 A1 c1 a w w.heap.size hr1)
  have W2 := Lib.hid (within_any 1 10000 (some ⟨w.heap.size, 0, none⟩) 1 [D] (w.alloc (.cells #[.int .i64 D] 2)) (w.heap.size + 1) (RdI.lit w [D] 2 (by unfold maxLen; simp)))
  have W3 := Lib.hid (within_any 0 D A2 c2 d (w.alloc (.cells #[.int .i64 D] 2)) w.heap.size (hr2.alloc (Nat.le_refl _) _))
  have B1 := Lib.hid ((Below.refl w.heap.size w).alloc (Nat.le_refl _) (.cells #[.int .i64 D] 2))
  have HB := Lib.hid h
  have hc := bad_cases h
  obtain ⟨n, hn⟩ := named a.length
  obtain ⟨m, hm⟩ := named d.length
  rw [hn] at W1 hc ⊢
  rw [hm] at W3 hc ⊢
  clear hr1 hr2 h hn hm
  rcases hc with h | ⟨rfl, h⟩ | ⟨rfl, h1, h2⟩ | ⟨rfl, h1, h2, h3⟩
  · have z1 := ne_i h
    have z2 : ((n : Int) = (m : Int)) = False := eq_false (by omega)
    have z3 : ((n : Int) != (m : Int)) = true := by rw [bne, z1]; rfl
    clear h W1 W2 W3 B1
    go_enter Try.func12, Try.ntmps12
    go_wp2_with fail
    go_ret2
    exact PrPost.no HB.out (Below.refl _ _)
  · have z1 : ((n : Int) < 1) = True := eq_true (by omega)
    clear h W1 W2 W3 B1
    go_enter Try.func12, Try.ntmps12
    go_wp2_with fail
    go_ret2
    exact PrPost.no HB.out (Below.refl _ _)
  · have z1 : ((n : Int) < 1) = False := eq_false (by omega)
    have z2 : (100 < (n : Int)) = True := eq_true (by omega)
    clear h1 h2 W1 W2 W3 B1
    go_enter Try.func12, Try.ntmps12
    go_wp2_with fail
    go_ret2
    exact PrPost.no HB.out (Below.refl _ _)
  · have z1 : ((n : Int) < 1) = False := eq_false (by omega)
    have z2 : (100 < (n : Int)) = False := eq_false (by omega)
    rcases h3 with h | ⟨h, h'⟩ | ⟨h, h', h''⟩
    · rw [h] at W1
      clear h h1 h2
      go_enter Try.func12, Try.ntmps12
      go_wp2_with fail
      refine W1.out.mono ?_
      rintro e w1 ⟨rfl, rfl⟩
      go_wp2_with fail
      go_ret2
      exact PrPost.no HB.out (Below.refl _ _)
    · rw [h] at W1
      rw [h'] at W2
      clear h h' h1 h2
      go_enter Try.func12, Try.ntmps12
      go_wp2_with fail
      refine W1.out.mono ?_
      rintro e w1 ⟨rfl, rfl⟩
      go_wp2_with fail
      refine W2.out.mono ?_
      rintro e w1 ⟨rfl, rfl⟩
      go_wp2_with fail
      go_ret2
      exact PrPost.no HB.out B1.out
    · rw [h] at W1
      rw [h'] at W2
      rw [h''] at W3
      clear h h' h'' h1 h2
      go_enter Try.func12, Try.ntmps12
      go_wp2_with fail
      refine W1.out.mono ?_
      rintro e w1 ⟨rfl, rfl⟩
      go_wp2_with fail
      refine W2.out.mono ?_
      rintro e w1 ⟨rfl, rfl⟩
      go_wp2_with fail
      refine W3.out.mono ?_
      rintro e w1 ⟨rfl, rfl⟩
      go_wp2_with fail
      go_ret2
      exact PrPost.no HB.out B1.out

set_option maxRecDepth 8000 in
set_option maxHeartbeats 2000000 in
theorem Prorate_yes (D : Int) (A1 : Option Addr) (c1 : Nat) (a : List Int) (A2 : Option Addr) (c2 : Nat) (d : List Int) (w : World) (hr1 : RdI w w.heap.size A1 c1 a) (hr2 : RdI w w.heap.size A2 c2 d) (h : ¬ BadR a d D) :
    Calls Try.prog 12 #[.slice A1 a.length c1, .slice A2 d.length c2, .int .i64 D] w (PrPost a d D w) := by
  have W1 := Lib.hid (within_any 0 1125899906842624 A1 c1 a w w.heap.size hr1)
  have W2 := Lib.hid (within_any 1 10000 (some ⟨w.heap.size, 0, none⟩) 1 [D] (w.alloc (.cells #[.int .i64 D] 2)) (w.heap.size + 1) (RdI.lit w [D] 2 (by unfold maxLen; simp)))
  have W3 := Lib.hid (within_any 0 D A2 c2 d (w.alloc (.cells #[.int .i64 D] 2)) w.heap.size (hr2.alloc (Nat.le_refl _) _))
  have B1 := Lib.hid ((Below.refl w.heap.size w).alloc (Nat.le_refl _) (.cells #[.int .i64 D] 2))
  have HB := Lib.hid h
  have hP := pr_of h
  have hlen : a.length = d.length := by unfold BadR at h; omega
  have e1 : wnB 0 1125899906842624 a = true := by unfold BadR at h; cases h1 : wnB 0 1125899906842624 a; (exact absurd (.inr (.inr (.inr (.inl h1)))) h); rfl
  have e2 : wnB 1 10000 [D] = true := by unfold BadR at h; cases h1 : wnB 1 10000 [D]; (exact absurd (.inr (.inr (.inr (.inr (.inl h1))))) h); rfl
  have e3 : wnB 0 D d = true := by unfold BadR at h; cases h1 : wnB 0 D d; (exact absurd (.inr (.inr (.inr (.inr (.inr h1))))) h); rfl
  rw [e1] at W1
  rw [e2] at W2
  rw [e3] at W3
  have n0 := hP.n0
  obtain ⟨b1, o1, rfl, hb1, hc1⟩ := hr1.2.2.2 (by omega)
  obtain ⟨b2, o2, rfl, hb2, hc2⟩ := hr2.2.2.2 (by omega)
  have hd1 : ∀ k, k < a.length → w.cell? ⟨b1, o1 + k, none⟩ = some (.int .i64 (gv a k)) := fun k hk => by rw [gv_at hk]; exact hc1 k hk
  have hd2 : ∀ k, k < a.length → w.cell? ⟨b2, o2 + k, none⟩ = some (.int .i64 (gv d k)) := fun k hk => by rw [gv_at (by omega)]; exact hc2 k (by omega)
  rw [← hlen] at W3 ⊢
  obtain ⟨n, hn⟩ := named a.length
  rw [hn] at W1 W3 hP hd1 hd2 ⊢
  have PT := Lib.hid (parts_any b1 o1 c1 b2 o2 c2 n n (gv a) (gv d) D (w.alloc (.cells #[.int .i64 D] 2)) (by simp; omega) (by simp; omega)
    (fun k hk => (B1.out.cell (p := ⟨b1, o1 + k, none⟩) hb1).trans (hd1 k hk)) (fun k hk => (B1.out.cell (p := ⟨b2, o2 + k, none⟩) hb2).trans (hd2 k hk)) (Nat.le_refl _) hP.n1 hP.D0 (by have := hP.D1; omega)
    (fun k hk => by have := hP.a k hk; omega) (fun k hk => by have := hP.d k hk; have := hP.D1; omega) (fun k hk => (isn_iff _).2 (by have := hP.q hk; omega)))
  have HP := Lib.hid hP
  have HN := Lib.hid hn
  have z1 : ((n : Int) < 1) = False := eq_false (by have := hP.n0; omega)
  have z2 : (100 < (n : Int)) = False := eq_false (by have := hP.n1; omega)
  have hn1 := hP.n1
  have hn0 := hP.n0
  clear hr1 hr2 h hP hlen e1 e2 e3 n0 hb1 hb2 hc1 hc2 hd1 hd2 hn
  go_enter Try.func12, Try.ntmps12
  go_wp2_with fail
  refine W1.out.mono ?_
  rintro e w1 ⟨rfl, rfl⟩
  go_wp2_with fail
  refine W2.out.mono ?_
  rintro e w2 ⟨rfl, rfl⟩
  go_wp2_with fail
  refine W3.out.mono ?_
  rintro e w2 ⟨rfl, rfl⟩
  go_wp2_with fail
  refine PT.out.mono ?_
  rintro e w2 ⟨g1, g2, rfl, hg, hq, ht, hb⟩
  have B2 := Lib.hid (B1.out.trans (hb.mono (by simp)))
  have HG := Lib.hid (show w1.heap.size ≤ g1 ∧ g1 < g2 from ⟨by have := hg.1; simp at this; omega, hg.2⟩)
  have HQ := Lib.hid hq
  have HT := Lib.hid ht
  clear hb hg hq ht z1 z2
  have SU := Lib.hid (fun (W : World) (hW : Below w2.heap.size w2 W) => sum_any (some ⟨g2, 0, none⟩) n (tl n (fun k => gv a k * gv d k % D)) W W.heap.size ((HT.out.below HT.out.lt hW).rd (Nat.le_refl _) (by unfold maxLen; omega)) (Nat.le_refl _) (fun x hx => by
    obtain ⟨k, hk, rfl⟩ := tl_mem hx
    have := HP.out.r k; omega) (by rw [tl_len]; omega))
  rw [tl_len, tl_sum, na_t ((isn_iff _).2 (by have := HP.out.rsum; omega))] at SU
  obtain ⟨p, hp⟩ : ∃ p, p + 1 = n := ⟨n - 1, by omega⟩
  have hqd := HP.out.rdiv
  have hrs := HP.out.rsum
  have hD0 := HP.out.D0
  have hqp := HP.out.q (k := p) (by omega)
  have hcell := HQ.out.c p (by omega)
  have hlast := prt_last HP.out
  rw [show n - 1 = p by omega] at hlast
  obtain ⟨s, hs⟩ := named (sm (fun k => gv a k * gv d k % D) n)
  rw [hs] at SU hqd hrs hlast
  obtain ⟨x, hx⟩ := named (s / D)
  rw [hx] at hqd hlast
  have K1 := Lib.hid (show IntKind.i64.wrap (s.tdiv D) = x by rw [Int.tdiv_eq_ediv_of_nonneg hrs.1, hx, IntKind.wrap_i64]; omega)
  have K2 := Lib.hid (show IntKind.i64.wrap ((n : Int) - 1) = (p : Int) by rw [IntKind.wrap_i64]; omega)
  have K3 := Lib.hid (show IntKind.i64.wrap (gv a p * gv d p / D + x) = gv a p * gv d p / D + x by rw [IntKind.wrap_i64]; omega)
  have HL := Lib.hid hlast
  have hD2 : (D == 0) = false := by simp; omega
  have hD3 : (D = 0) = False := eq_false (by omega)
  have hpn : p < n := by omega
  have i1 : (p : Int) < (n : Int) := by omega
  clear hrs hD0 hqp hcell hlast hs hx hp hqd
  have HZ0 := Lib.hid (HQ.out.drewN 1)
  go_wp2_with fail
  have k1 := K1.out
  have k2 := K2.out
  have k3 := K3.out
  have B3 : Hid (Below w2.heap.size w2 w2.drew) := Lib.hid ⟨rfl, rfl, rfl, Nat.le_refl _, fun _ _ => rfl⟩
  have hc0 := HQ.out.c p hpn
  have hz0 := HQ.out.z p
  go_region_with (first | (go_at_call 20; with_reducible refine (SU.out w2.drew B3.out).mono ?_; rintro e w3 ⟨rfl, hb3⟩; have HZ3 := Lib.hid (HQ.out.below HQ.out.lt (B3.out.trans (hb3.mono B3.out.size))); have B4 := Lib.hid (B3.out.trans (hb3.mono B3.out.size)); have hc3 := HZ3.out.c p hpn; have hz3 := HZ3.out.z p; clear hb3))
  all_goals
    have HZ4 := Lib.hid ((HZ3.out.set hpn (gv a p * gv d p / D + x)).congr fun k _ => HL.out k)
    have B5 := Lib.hid (bel_set (k := g1) (i := p) (B2.out.trans (B4.out.mono B2.out.size)) HG.out.1 (.int .i64 (gv a p * gv d p / D + x)))
    clear hc0 hz0 hc3 hz3 k1 k2 k3
    go_wp2_with fail
    go_ret2
    exact PrPost.yes HN.out HB.out (HZ4.out.rd (Nat.le_refl _) (by unfold maxLen; omega)) B5.out
end Go.Proofs.Ytbiofjddclbncaa.Sr
