import Derived.Test.YthaleikmdoijbaaTi3
namespace Go.Proofs.Ythaleikmdoijbaa.Ti
set_option linter.unusedVariables false
set_option linter.unusedSimpArgs false
open Go.RowKit Mem Mo
attribute [local go_sem] Oper.semAt_some
theorem bel_keeps {W W' : World} (h : Below W.heap.size W W') : KeepsOthers W W' :=
  ⟨h.size, fun k _ hk _ => (h.block k (Array.getElem?_eq_some_iff.1 hk).1).trans hk⟩
theorem boxed_bel {W W' : World} {b : Nat} {t : TypeId} {v : Value} (h : Boxed W b t v) (hb : Below W.heap.size W W') : Boxed W' b t v := (hb.block b h.lt).trans h
theorem kp_bel {Bx Bz b : Nat} {W W' : World} (h : Below W.heap.size W W') (h1 : Bx < W.heap.size) (h2 : Bz < W.heap.size) (h3 : b < W.heap.size) : Kp Bx Bz b W W' := ⟨h.block _ h1, h.block _ h2, h.block _ h3⟩
theorem kp_set {Bx Bz b : Nat} {W W' : World} (h : Kp Bx Bz b W W') (g : Nat) (v : Value) (h1 : Bx ≠ g) (h2 : Bz ≠ g) (h3 : b ≠ g) : Kp Bx Bz b W (W'.setCell ⟨g, 0, none⟩ v) :=
  ⟨(Below.heap_setCell _ _ _ _ h1).trans h.1, (Below.heap_setCell _ _ _ _ h2).trans h.2.1, (Below.heap_setCell _ _ _ _ h3).trans h.2.2⟩

set_option maxRecDepth 100000 in
set_option maxHeartbeats 2000000 in
theorem Price_yes (A : Option Addr) (c m : Nat) (u p : Nat → Int) (n : Int) (w : World) (B : Nat) (hr : RdT w B A c u p m) (hB : B ≤ w.heap.size) (hok : Ok u p m) (hn : 0 ≤ n) (hn1 : n ≤ 9223372036854775807) :
    Calls Try.prog 8 #[.slice A m c, .int .i64 n] w fun e w' => e = .returned (.tuple #[.int .i64 (na (cst n u p m)), .int .i64 (ne (cst n u p m))]) ∧ Below w.heap.size w w' := by
  have C := Lib.hid (fun W (h : Below w.heap.size w W) => Check_any A c m u p W B (hr.below (h.mono hB)) (Nat.le_trans hB h.size))
  rw [okB_iff.2 hok] at C
  obtain ⟨b, o, rfl, hb, hc⟩ := hr.2.2 hok.m1
  have hbl : b < w.heap.size := by omega
  have hmc : m ≤ c := hr.1
  have hc1 : c ≤ 9223372036854775807 := by have := hr.2.1; unfold maxLen at this; omega
  have HRow := Lib.hid (fun W (h : Below w.heap.size w W) k (hk : k < m) => (show W.cell? ⟨b, o + k * 2, none⟩ = some (.int .i64 (u k)) ∧ W.cell? ⟨b, o + k * 2 + 1, none⟩ = some (.int .i64 (p k)) from
    ⟨(h.cell (p := ⟨b, o + k * 2, none⟩) hbl).trans (hc k hk).1, (h.cell (p := ⟨b, o + k * 2 + 1, none⟩) hbl).trans (hc k hk).2⟩))
  have HOk := Lib.hid hok
  have HV : Hid (Boxed ((w.alloc (.cells #[.int .i64 0] 2)).alloc (.cells #[.int .i64 0] 23)) w.heap.size 2 (.int .i64 0) ∧ Boxed ((w.alloc (.cells #[.int .i64 0] 2)).alloc (.cells #[.int .i64 0] 23)) (w.heap.size + 1) 23 (.int .i64 0)) :=
    Lib.hid ⟨(Boxed.new w 2 _).alloc _, by have := Boxed.new (w.alloc (.cells #[.int .i64 0] 2)) 23 (.int .i64 0); rwa [World.size_alloc] at this⟩
  have HB := Lib.hid (show Below w.heap.size w ((w.alloc (.cells #[.int .i64 0] 2)).alloc (.cells #[.int .i64 0] 23)) from ((Below.refl _ _).alloc (Nat.le_refl _) _).alloc (by simp) _)
  have z1 : (n < 0) = False := by simp; omega
  clear hr hB hc hb hok
  refine (callsIn_wide (n := 5)).1 ?_
  refine callsIn_of_wp_marks Try.func8 rfl trivial ?_ rfl
  simp only [Try.ntmps8, List.size_toArray, List.length_cons, List.length_nil, Nat.reduceAdd, Nat.reduceSub, Array.replicate_succ, Array.replicate_zero, List.push_toArray, List.append_toArray, List.nil_append, List.cons_append]
  gi_wp2_with (first
    | (refine ⟨trivial, ?_⟩; gi_at_call 10; refine (callsIn_wide.2 (C.out _ HB.out)).mono ?_; rintro e w1 ⟨rfl, hb⟩; have V1 := Lib.hid (boxed_bel HV.out.1 hb); have V2 := Lib.hid (boxed_bel HV.out.2 hb); have B1 := Lib.hid (HB.out.trans (hb.mono HB.out.size)); have hs1 : w.heap.size + 2 ≤ w1.heap.size := (by have := hb.size; simp at this; omega); clear hb)
    | (refine ⟨trivial, ?_⟩; gi_at_call 19; refine (callsIn_wide.2 (filled_any _ _ _ _ _)).mono ?_; rintro e w' ⟨rfl, rfl⟩))
  obtain ⟨s1, hs⟩ : ∃ s1, w1.heap.size = s1 := ⟨_, rfl⟩
  obtain ⟨W0, hW0⟩ : ∃ W0, (((w1.alloc (.cells #[.int .i64 0] 2)).alloc (.cells #[.slice (some ⟨b, o, none⟩) m c] 22)).alloc (.cells #[.int .i64 n] 2)) = W0 := ⟨_, rfl⟩
  have hsz : W0.heap.size = s1 + 3 := by rw [← hW0, ← hs]; simp
  have x1 : Boxed W0 w.heap.size 2 (.int .i64 0) := by rw [← hW0]; exact ((V1.out.alloc _).alloc _).alloc _
  have x2 : Boxed W0 (w.heap.size + 1) 23 (.int .i64 0) := by rw [← hW0]; exact ((V2.out.alloc _).alloc _).alloc _
  have x3 : Boxed W0 s1 2 (.int .i64 0) := by rw [← hW0, ← hs]; exact ((Boxed.new w1 _ _).alloc _).alloc _
  have x4 : Boxed W0 (s1 + 1) 22 (.slice (some ⟨b, o, none⟩) m c) := by
    rw [← hW0, ← hs]; have := (Boxed.new (w1.alloc (.cells #[.int .i64 0] 2)) 22 (.slice (some ⟨b, o, none⟩) m c)).alloc (.cells #[.int .i64 n] 2); rwa [World.size_alloc] at this
  have x5 : Boxed W0 (s1 + 1 + 1) 2 (.int .i64 n) := by
    rw [← hW0, ← hs]; have := Boxed.new ((w1.alloc (.cells #[.int .i64 0] 2)).alloc (.cells #[.slice (some ⟨b, o, none⟩) m c] 22)) 2 (.int .i64 n); rwa [World.size_alloc, World.size_alloc] at this
  have hB0 : Below w.heap.size w W0 := by
    rw [← hW0]; exact ((B1.out.alloc B1.out.size _).alloc (by have := B1.out.size; simp; omega) _).alloc (by have := B1.out.size; simp; omega) _
  have hAt : At W0 (s1 + 1) (s1 + 1 + 1) b o c m n u p := ⟨x4.cell, x5.cell, HRow.out W0 hB0⟩
  have hs1' : w.heap.size + 2 ≤ s1 := by omega
  rw [hW0, hs]
  clear hW0 V1 V2 B1 HV HB C hs hs1
  refine wpIn_rangeFunc_ownH rfl (by omega) (gf := 29) (lb := #[.pointer (some ⟨s1 + 1, 0, none⟩), .pointer (some ⟨s1 + 1 + 1, 0, none⟩)]) rfl trivial (enters_of Try.func29 (by kernel_rfl) rfl)
    (filled_stops (5 - 1) (by omega) (s1 + 1) (s1 + 1 + 1) b o c m u p n hn hn1 HOk.out hmc hc1 W0 hAt) Kp.t (Kp.b (by omega) (by omega) (by omega)) (Below.refl _ _) (fun _ => rfl)
    (fun pre W => (((Boxed W w.heap.size 2 (.int .i64 0) ∧ Boxed W (w.heap.size + 1) 23 (.int .i64 0)) ∧ Boxed W s1 2 (.int .i64 (smL n u p pre))) ∧ smL n u p pre ≤ 9223372036854775807) ∧ (Below w.heap.size w W ∧ s1 + 3 ≤ W.heap.size))
    (fun cd pre W => ((Boxed W w.heap.size 2 (.int .i64 0) ∧ Boxed W (w.heap.size + 1) 23 (.int .i64 30)) ∧ (cd = .ret ∧ 9223372036854775807 < smL n u p pre)) ∧ Below w.heap.size w W)
    (OwnFrom.and (OwnFrom.and (OwnFrom.and (OwnFrom.and (Own.from (boxed_own _ _ _) _) (Own.from (boxed_own _ _ _) _)) (Own.from (boxed_own _ _ _) _)) (ownFrom_pure _ _)) (OwnFrom.and (ownFrom_below (Nat.le_refl _) (by omega)) (fun _ X Y row (hs : s1 + 3 ≤ X.heap.size) hg _ => (Nat.le_trans hs hg.size : s1 + 3 ≤ Y.heap.size))))
    (fun cd => OwnFrom.and (OwnFrom.and (OwnFrom.and (Own.from (boxed_own _ _ _) _) (Own.from (boxed_own _ _ _) _)) (ownFrom_pure _ _)) (ownFrom_below (Nat.le_refl _) (by omega)))
    ⟨⟨⟨⟨x1, x2⟩, x3⟩, by simp [smL]⟩, hB0, by omega⟩
    (fun x a' W => ∃ Bt, s1 + 2 < Bt ∧ (W.cell? ⟨Bt, 0, none⟩ = some (.int .i64 (u x.1)) ∧ W.cell? ⟨Bt, 1, none⟩ = some (.int .i64 (p x.1))) ∧ a' = { tmps := #[.slice (some ⟨b, o, none⟩) m c, .int .i64 n, undef, undef, .pointer (some ⟨w.heap.size, 0, none⟩), .pointer (some ⟨w.heap.size + 1, 0, none⟩), .pointer (some ⟨s1, 0, none⟩), .pointer (some ⟨Bt, 0, none⟩), .int .i64 (spn n u x.1), undef, undef, .int .i64 n, .bool false, .bool false, .slice (some ⟨b, o, none⟩) m c, .bool true, .bool false, .bool false, .slice (some ⟨b, o, none⟩) m c, .int .i64 n, .func (.func 29) #[] #[.pointer (some ⟨s1 + 1, 0, none⟩), .pointer (some ⟨s1 + 1 + 1, 0, none⟩)], .agg #[.int .i64 (u x.1), .int .i64 (p x.1)], .int .i64 (spn n u x.1), undef, undef, undef, undef, undef, undef, undef, undef, undef, undef, undef, undef, undef, undef, undef, undef, undef, undef, undef, undef], defers := [] })
    (fun x a' _ X Y row hs hg hr => by obtain ⟨Bt, h1, ⟨h2, h3⟩, h4⟩ := hs; exact ⟨Bt, h1, ⟨cell_kept h2 hg (fun r e => (hr r e).2), cell_kept h3 hg (fun r e => (hr r e).2)⟩, h4⟩)
    ?assign ?body ?done ?stop
  case assign =>
    rintro l pre x W K ⟨⟨⟨⟨y1, y2⟩, y3⟩, y4⟩, y5, y6⟩ hK
    dsimp only [encT]
    gi_wp2
    have nb := VN.new W #[.int .i64 (u x.1), .int .i64 (p x.1)] 27
    exact hK _ _ ((KeepsOthers.alloc _ _).from _) (kp_bel ((Below.refl _ _).alloc (Nat.le_refl _) _) (by omega) (by omega) (by omega)) ⟨⟨⟨⟨y1.alloc _, y2.alloc _⟩, y3.alloc _⟩, y4⟩, y5.alloc y5.size _, by simp; omega⟩ ⟨W.heap.size, by omega, ⟨nb.c 0 _ rfl, nb.c 1 _ rfl⟩, rfl⟩
  case body =>
    rintro l pre x a' W hl ⟨r, hr⟩ ⟨⟨⟨⟨y1, y2⟩, y3⟩, y4⟩, y5, y6⟩ ⟨Bt, hBt, ⟨t0, t1⟩, rfl⟩ hlt
    have sb := HOk.out.spn_bd hn x.2
    have pb := HOk.out.prc x.1 x.2
    have pt := HOk.out.part hn x.2
    have sn := smL_nonneg HOk.out hn pre
    have sc := smL_snoc n u p pre x
    have CM := Lib.hid (fun W' => Mul_any (p x.1) (spn n u x.1) W' (by omega) (by omega) (by omega) (by omega))
    obtain ⟨V, hV⟩ := named (smL n u p pre)
    obtain ⟨s, hs⟩ := named (spn n u x.1)
    obtain ⟨q, hq⟩ := named (p x.1)
    obtain ⟨r', hr'⟩ := named (u x.1)
    rw [hq, hs] at CM pt sc
    rw [hV] at y3 y4 sc sn
    rw [hr'] at t0
    rw [hq] at t1
    rw [hs, hq, hr']
    obtain ⟨X, hX⟩ := named (q * s)
    rw [hX] at CM pt sc
    have CA := Lib.hid (fun W' (h : X ≤ 9223372036854775807) => Add_any V X W' (by omega) y4 (by omega) h)
    have Y1 := Lib.hid y1
    have Y2 := Lib.hid y2
    have Y3 := Lib.hid y3
    have Y5 := Lib.hid y5
    have Y6 := Lib.hid y6
    have SC := Lib.hid sc
    have T0 := Lib.hid (lt_cell t1)
    by_cases h1 : 9223372036854775807 < X
    · have hf : isn X = false := by unfold isn; simp; omega
      rw [na_f hf, ne_f hf] at CM
      have hbig := Lib.hid (show 9223372036854775807 < V + X by omega)
      clear y1 y2 y3 y4 y5 y6 sb pb pt sn sc hV hs hq hr' hX h1 hf CA
      gi_wp2_with (refine ⟨trivial, ?_⟩; gi_at_call 16; refine (CallsIn.inRound l (callsIn_wide.2 (CM.out _))).mono ?_; rintro e w2 ⟨rfl, hb⟩; have u1 := boxed_bel Y1.out hb; have u2 := boxed_bel Y2.out hb; have u3 := boxed_bel Y3.out hb; have c4 := u1.cell; have c5 := u2.cell; have c6 := u3.cell; have z4 := u1.frozen; have z5 := u2.frozen; have z6 := u3.frozen; have U1 := Lib.hid u1; have U2 := Lib.hid u2; have U3 := Lib.hid u3; have HB2 := Lib.hid hb; clear u1 u2 u3 hb)
      refine ⟨(bel_keeps HB2.out).trans ((KeepsOthers.setCell _ _ _).trans (KeepsOthers.setCell _ _ _)) |>.from _, ⟨⟨(U1.out.set _).other (by omega) _, (U2.out.other (by omega) _).set _⟩, rfl, by rw [SC.out]; exact hbig.out⟩, ?_⟩
      exact ((Y5.out.trans (HB2.out.mono Y5.out.size)).setCell (p := ⟨w.heap.size, 0, none⟩) (by simp) _).setCell (p := ⟨w.heap.size + 1, 0, none⟩) (by simp) _
    · have ht : isn X = true := by unfold isn; simp; omega
      rw [na_t ht, ne_t ht] at CM
      have HX1 := Lib.hid (show X ≤ 9223372036854775807 by omega)
      by_cases h2 : 9223372036854775807 < V + X
      · have hf : isn (V + X) = false := by unfold isn; simp; omega
        rw [na_f hf, ne_f hf] at CA
        have hbig := Lib.hid h2
        clear y1 y2 y3 y4 y5 y6 sb pb pt sn sc hV hs hq hr' hX h1 hf ht h2
        gi_wp2_with (first | (refine ⟨trivial, ?_⟩; gi_at_call 13; refine (CallsIn.inRound l (callsIn_wide.2 (CA.out w2 HX1.out))).mono ?_; rintro e w3 ⟨rfl, hb⟩; have u1 := boxed_bel U1.out hb; have u2 := boxed_bel U2.out hb; have u3 := boxed_bel U3.out hb; have d4 := u1.cell; have d5 := u2.cell; have d6 := u3.cell; have y4 := u1.frozen; have y5 := u2.frozen; have y6 := u3.frozen; have R1 := Lib.hid u1; have R2 := Lib.hid u2; have R3 := Lib.hid u3; have HB3 := Lib.hid (HB2.out.trans (hb.mono HB2.out.size)); clear u1 u2 u3 hb) | (refine ⟨trivial, ?_⟩; gi_at_call 16; refine (CallsIn.inRound l (callsIn_wide.2 (CM.out _))).mono ?_; rintro e w2 ⟨rfl, hb⟩; have u1 := boxed_bel Y1.out hb; have u2 := boxed_bel Y2.out hb; have u3 := boxed_bel Y3.out hb; have c4 := u1.cell; have c5 := u2.cell; have c6 := u3.cell; have z4 := u1.frozen; have z5 := u2.frozen; have z6 := u3.frozen; have U1 := Lib.hid u1; have U2 := Lib.hid u2; have U3 := Lib.hid u3; have HB2 := Lib.hid hb; clear u1 u2 u3 hb))
        refine ⟨(bel_keeps HB3.out).trans ((KeepsOthers.setCell _ _ _).trans ((KeepsOthers.setCell _ _ _).trans (KeepsOthers.setCell _ _ _))) |>.from _, ⟨⟨((R1.out.other (by omega) _).set _).other (by omega) _, ((R2.out.other (by omega) _).other (by omega) _).set _⟩, rfl, by rw [SC.out]; exact hbig.out⟩, ?_⟩
        exact (((Y5.out.trans (HB3.out.mono Y5.out.size)).setCell (p := ⟨s1, 0, none⟩) (by show w.heap.size ≤ s1; omega) _).setCell (p := ⟨w.heap.size, 0, none⟩) (by simp) _).setCell (p := ⟨w.heap.size + 1, 0, none⟩) (by simp) _
      · have hf : isn (V + X) = true := by unfold isn; simp; omega
        rw [na_t hf, ne_t hf] at CA
        have hbig := Lib.hid (show V + X ≤ 9223372036854775807 by omega)
        clear y1 y2 y3 y4 y5 y6 sb pb pt sn sc hV hs hq hr' hX h1 hf ht h2
        gi_wp2_with (first | (refine ⟨trivial, ?_⟩; gi_at_call 13; refine (CallsIn.inRound l (callsIn_wide.2 (CA.out w2 HX1.out))).mono ?_; rintro e w3 ⟨rfl, hb⟩; have u1 := boxed_bel U1.out hb; have u2 := boxed_bel U2.out hb; have u3 := boxed_bel U3.out hb; have d4 := u1.cell; have d5 := u2.cell; have d6 := u3.cell; have y4 := u1.frozen; have y5 := u2.frozen; have y6 := u3.frozen; have R1 := Lib.hid u1; have R2 := Lib.hid u2; have R3 := Lib.hid u3; have HB3 := Lib.hid (HB2.out.trans (hb.mono HB2.out.size)); clear u1 u2 u3 hb) | (refine ⟨trivial, ?_⟩; gi_at_call 16; refine (CallsIn.inRound l (callsIn_wide.2 (CM.out _))).mono ?_; rintro e w2 ⟨rfl, hb⟩; have u1 := boxed_bel Y1.out hb; have u2 := boxed_bel Y2.out hb; have u3 := boxed_bel Y3.out hb; have c4 := u1.cell; have c5 := u2.cell; have c6 := u3.cell; have z4 := u1.frozen; have z5 := u2.frozen; have z6 := u3.frozen; have U1 := Lib.hid u1; have U2 := Lib.hid u2; have U3 := Lib.hid u3; have HB2 := Lib.hid hb; clear u1 u2 u3 hb))
        refine ⟨(bel_keeps HB3.out).trans (KeepsOthers.setCell _ _ _) |>.from _, kp_set (kp_bel HB3.out (by have := Y6.out; omega) (by have := Y6.out; omega) (by have := Y5.out.size; omega)) _ _ (by omega) (by omega) (by omega), ⟨⟨⟨R1.out.other (by omega) _, R2.out.other (by omega) _⟩, by rw [SC.out]; exact R3.out.set _⟩, by rw [SC.out]; exact hbig.out⟩, (Y5.out.trans (HB3.out.mono Y5.out.size)).setCell (p := ⟨s1, 0, none⟩) (by show w.heap.size ≤ s1; omega) _, ?_⟩
        rw [size_setCell]; exact Nat.le_trans Y6.out HB3.out.size
  case done =>
    rintro D ys W hD rfl ⟨⟨⟨⟨y1, y2⟩, y3⟩, y4⟩, y5, y6⟩ hK
    rw [smL_all] at y3 y4
    have hc0 := HOk.out.cst0 hn (Nat.le_refl m)
    have hi : isn (cst n u p m) = true := by unfold isn; simp; omega
    have c6 := y3.cell
    have c4 := y1.cell
    have c5 := y2.cell
    have z4 := y1.frozen
    have z5 := y2.frozen
    gi_wp2
    refine ⟨by simp, .inl ⟨_, _, rfl, run_takeDeferred (((KeepsOthers.setCell _ _ _).trans (KeepsOthers.setCell _ _ _)).same D _ hK rfl), ?_⟩⟩
    have b1 := (y1.set (.int .i64 (cst n u p m))).other (show w.heap.size ≠ w.heap.size + 1 by omega) (.int .i64 0)
    have b2 := (y2.other (show w.heap.size + 1 ≠ w.heap.size by omega) (.int .i64 (cst n u p m))).set (.int .i64 0)
    refine ⟨_, results_price _ _ w.heap.size (w.heap.size + 1) _ _ rfl rfl (Boxed.cell (t := 2) ((World.putObj_heap_other (by omega)).trans b1)) (Boxed.cell (t := 23) ((World.putObj_heap_other (by omega)).trans b2)), by rw [na_t hi, ne_t hi], ?_⟩
    exact ((y5.setCell (p := ⟨w.heap.size, 0, none⟩) (by simp) _).setCell (p := ⟨w.heap.size + 1, 0, none⟩) (by simp) _).trans (belowK_b (w := w) (Nat.le_refl _) _ D _ _ (by omega) (((KeepsOthers.setCell _ _ _).trans (KeepsOthers.setCell _ _ _)).same D _ hK rfl) rfl rfl)
  case stop =>
    rintro D cd pre W hD ⟨k, hk, rfl⟩ ⟨⟨⟨y1, y2⟩, rfl, y3⟩, y5⟩ hK
    rw [smL_upto n u p hk] at y3
    have hc0 := HOk.out.cst_le hn (Nat.le_refl m) k hk
    have hi : isn (cst n u p m) = false := by unfold isn; simp; omega
    gi_wp2
    refine ⟨by simp, .inl ⟨_, _, rfl, run_takeDeferred hK, ?_⟩⟩
    refine ⟨_, results_price _ _ w.heap.size (w.heap.size + 1) _ _ rfl rfl (Boxed.cell (t := 2) ((World.putObj_heap_other (by omega)).trans y1)) (Boxed.cell (t := 23) ((World.putObj_heap_other (by omega)).trans y2)), by rw [na_f hi, ne_f hi], ?_⟩
    exact y5.trans (belowK_b (w := w) (Nat.le_refl _) W D _ _ (by omega) hK rfl rfl)
end Go.Proofs.Ythaleikmdoijbaa.Ti
