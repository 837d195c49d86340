import Derived.Test.YthaleikmdoijbaaTi4
namespace Go.Proofs.Ythaleikmdoijbaa.Ti
set_option linter.unusedVariables false
set_option linter.unusedSimpArgs false
open Go.RowKit Mem Mo
attribute [local go_sem] Oper.semAt_some
theorem ity : IntTy Try.prog 33 2 := ⟨Try.underlying33, Try.underlying2, by
  have h : (Try.prog.info? 2).map (fun i => (i.zero, i.size, i.bytes)) = some (some (.int .i64 0), 1, 8) := by kernel_rfl
  exact info_parts h⟩
theorem wpListIn_append_j {F : Fence} {n : Nat} {P : Program} {t e : TypeId} (T : IntTy P t e) {ops : Array Oper} {rest : List Oper} {o : Oper} {a : Act} {w : World} {Q : Exit → Act → World → Prop} (hgd : o.guard = none) (s x : Operand)
    (ho : o.op = .call { callee := .builtin .append, args := #[s, x], argTypes := #[t, t] })
    (base : Nat) (v : Value) (l : List Int) (hs : a.eval s = v) (hown : OwnJ e w base v l)
    (B : Nat) (A : Option Addr) (m c : Nat) (k : List Int) (hx : a.eval x = .slice A m c) (hm : m = k.length) (hr : RdI w B A c k) (hlen : l.length + k.length ≤ 17592186044416) (hbase : base ≤ w.heap.size)
    (h : ∀ v' w', OwnJ e w' base v' (l ++ k) → w.grownBy w' v.ownBlock → (v'.ownBlock = v.ownBlock ∨ v'.ownBlock = some w.heap.size) → wpListIn F n P ops Q rest (a.put o.dst v') w') : wpListIn F n P ops Q (o :: rest) a w := by
  subst hm
  obtain ⟨v', w', hrun, h2, h3, h4⟩ := run_append_j T w o.type base v l hown B A c k hr hlen hbase
  refine wpListIn_plain hgd fun K hK => ?_
  unfold Oper.wpIn
  refine ⟨?_, ?_⟩
  · simp [Oper.about, ho, resolve, Target.leads, Sem.run_pure]
  · rw [Oper.semAt_plain F _ _ (by rw [ho]; intro c hc'; cases hc')]
    simp only [execOp, ho, resolve, invoke, builtin, Sem.run_bind, Sem.run_pure, Result.andThen_ok, List.map_toArray, List.map_cons, List.map_nil, hs, hx, hrun]
    exact hK _ _ (h v' w' h2 h3 h4)
theorem ownJ_lower {e : TypeId} {w : World} {base base' : Nat} {v : Value} {l : List Int} (h : OwnJ e w base v l) (hb : base' ≤ base) : OwnJ e w base' v l :=
  ⟨h.1, h.2.imp id fun ⟨g, cap, cur, e1, hle, r⟩ => ⟨g, cap, cur, e1, Nat.le_trans hb hle, r⟩⟩
theorem makeJ (m : Nat) (hm : m ≤ 1000) : ∀ W, (Instr.makeSlice 33 (.int .i64 0) (.int .i64 (m : Int))).run Try.prog W = .ok (.slice (some ⟨W.heap.size, 0, none⟩) 0 m) (W.alloc (.cells (Array.replicate m (.int .i64 0)) 2)) := by
  intro W
  obtain ⟨i0, hi, hz0, hz1, hz2⟩ := ity.info
  have hr := run_make (P := Try.prog) W 33 2 i0 _ Try.underlying33 hi hz0 .i64 .i64 0 (m : Int) (by omega) (by omega) (by rw [hz2]; omega) (by omega)
  rw [hz1] at hr
  have e : madeCells (Value.int .i64 0).cells m = Array.replicate m (.int .i64 0) := by
    apply Array.toList_inj.1
    rw [show (Value.int .i64 0).cells = #[Value.int .i64 0] from rfl, toList_madeCells_one]; simp
  exact hr.trans (by simp [e])
theorem ownJ_make (m : Nat) (hm : m ≤ 1000) (W : World) (base : Nat) (hb : base ≤ W.heap.size) : OwnJ 2 (W.alloc (.cells (Array.replicate m (.int .i64 0)) 2)) base (.slice (some ⟨W.heap.size, 0, none⟩) 0 m) [] :=
  ⟨rfl, .inr ⟨W.heap.size, m, Array.replicate m (.int .i64 0), rfl, hb, heap_alloc_new W _, Nat.zero_le _, by unfold maxLen; omega, by simp, by simp⟩⟩

set_option maxHeartbeats 1000000 in
theorem Spans_no (A : Option Addr) (c m : Nat) (u p : Nat → Int) (n : Int) (w : World) (B : Nat) (hr : RdT w B A c u p m) (hB : B ≤ w.heap.size) (h : n < 0 ∨ (0 ≤ n ∧ okB u p m = false)) :
    Calls Try.prog 15 #[.slice A m c, .int .i64 n] w fun e w' => e = .returned (.slice none 0 0) ∧ Below w.heap.size w w' := by
  have C := Lib.hid (fun W (h : Below w.heap.size w W) => Check_any A c m u p W B (hr.below (h.mono hB)) (Nat.le_trans hB h.size))
  clear hr hB
  rcases h with h | ⟨h, ho⟩
  · have z1 : (n < 0) = True := by simp [h]
    clear h C
    go_enter Try.func15, Try.ntmps15
    go_wp2_with fail
    go_ret
    exact ⟨rfl, Below.refl _ _⟩
  · have z1 : (n < 0) = False := by simp; omega
    rw [ho] at C
    clear h ho
    go_enter Try.func15, Try.ntmps15
    go_wp2_with fail
    refine (C.out _ (Below.refl _ _)).mono ?_
    rintro e w1 ⟨rfl, hb⟩
    have B1 := Lib.hid hb; clear hb
    go_wp2_with fail
    go_ret
    exact ⟨rfl, B1.out⟩

set_option maxRecDepth 100000 in
set_option maxHeartbeats 2000000 in
theorem Spans_yes (A : Option Addr) (c m : Nat) (u p : Nat → Int) (n : Int) (w : World) (B : Nat) (hr : RdT w B A c u p m) (hB : B ≤ w.heap.size) (hok : Ok u p m) (hn : 0 ≤ n) (hn1 : n ≤ 9223372036854775807) :
    Calls Try.prog 15 #[.slice A m c, .int .i64 n] w fun e w' => ∃ v, e = .returned v ∧ OwnJ 2 w' w.heap.size v (spL n u (List.finRange m)) ∧ Below w.heap.size w w' := by
  have C := Lib.hid (fun W (h : Below w.heap.size w W) => Check_any A c m u p W B (hr.below (h.mono hB)) (Nat.le_trans hB h.size))
  rw [okB_iff.2 hok] at C
  obtain ⟨b, o, rfl, hb, hc⟩ := hr.2.2 hok.m1
  have hbl : b < w.heap.size := by omega
  have hmc : m ≤ c := hr.1
  have hm4 : m ≤ 1000 := by have := hok.m4; omega
  have hc1 : c ≤ 9223372036854775807 := by have := hr.2.1; unfold maxLen at this; omega
  have HRow := Lib.hid (fun W (h : Below w.heap.size w W) k (hk : k < m) => (show W.cell? ⟨b, o + k * 2, none⟩ = some (.int .i64 (u k)) ∧ W.cell? ⟨b, o + k * 2 + 1, none⟩ = some (.int .i64 (p k)) from
    ⟨(h.cell (p := ⟨b, o + k * 2, none⟩) hbl).trans (hc k hk).1, (h.cell (p := ⟨b, o + k * 2 + 1, none⟩) hbl).trans (hc k hk).2⟩))
  have HOk := Lib.hid hok
  have z1 : (n < 0) = False := by simp; omega
  have hmk := makeJ m hm4
  clear hr hB hc hb hok
  refine (callsIn_wide (n := 5)).1 ?_
  refine callsIn_of_wp_marks Try.func15 rfl trivial ?_ rfl
  simp only [Try.ntmps15, List.size_toArray, List.length_cons, List.length_nil, Nat.reduceAdd, Nat.reduceSub, Array.replicate_succ, Array.replicate_zero, List.push_toArray, List.append_toArray, List.nil_append, List.cons_append]
  gi_wp2_with (first
    | (refine ⟨trivial, ?_⟩; gi_at_call 10; refine (callsIn_wide.2 (C.out _ (Below.refl _ _))).mono ?_; rintro e w1 ⟨rfl, hb⟩; have B1 := Lib.hid hb; have hs1 := hb.size; clear hb)
    | (refine ⟨trivial, ?_⟩; gi_at_call 19; refine (callsIn_wide.2 (filled_any _ _ _ _ _)).mono ?_; rintro e w' ⟨rfl, rfl⟩))
  obtain ⟨s1, hs⟩ : ∃ s1, w1.heap.size = s1 := ⟨_, rfl⟩
  obtain ⟨W0, hW0⟩ : ∃ W0, ((((w1.alloc (.cells (Array.replicate m (.int .i64 0)) 2)).alloc (.cells #[.slice (some ⟨w1.heap.size, 0, none⟩) 0 m] 33)).alloc (.cells #[.slice (some ⟨b, o, none⟩) m c] 22)).alloc (.cells #[.int .i64 n] 2)) = W0 := ⟨_, rfl⟩
  have hsz : W0.heap.size = s1 + 4 := by rw [← hW0, ← hs]; simp
  have x2 : Boxed W0 (s1 + 1) 33 (.slice (some ⟨s1, 0, none⟩) 0 m) := by
    rw [← hW0, ← hs]; have := ((Boxed.new (w1.alloc (.cells (Array.replicate m (.int .i64 0)) 2)) 33 (.slice (some ⟨w1.heap.size, 0, none⟩) 0 m)).alloc (.cells #[.slice (some ⟨b, o, none⟩) m c] 22)).alloc (.cells #[.int .i64 n] 2); rwa [World.size_alloc] at this
  have x4 : Boxed W0 (s1 + 1 + 1) 22 (.slice (some ⟨b, o, none⟩) m c) := by
    rw [← hW0, ← hs]; have := (Boxed.new ((w1.alloc (.cells (Array.replicate m (.int .i64 0)) 2)).alloc (.cells #[.slice (some ⟨w1.heap.size, 0, none⟩) 0 m] 33)) 22 (.slice (some ⟨b, o, none⟩) m c)).alloc (.cells #[.int .i64 n] 2); rwa [World.size_alloc, World.size_alloc] at this
  have x5 : Boxed W0 (s1 + 1 + 1 + 1) 2 (.int .i64 n) := by
    rw [← hW0, ← hs]; have := Boxed.new (((w1.alloc (.cells (Array.replicate m (.int .i64 0)) 2)).alloc (.cells #[.slice (some ⟨w1.heap.size, 0, none⟩) 0 m] 33)).alloc (.cells #[.slice (some ⟨b, o, none⟩) m c] 22)) 2 (.int .i64 n); rwa [World.size_alloc, World.size_alloc, World.size_alloc] at this
  have hB0 : Below w.heap.size w W0 := by
    rw [← hW0]; exact (((B1.out.alloc B1.out.size _).alloc (by have := B1.out.size; simp; omega) _).alloc (by have := B1.out.size; simp; omega) _).alloc (by have := B1.out.size; simp; omega) _
  have hO0 : OwnJ 2 W0 s1 (.slice (some ⟨s1, 0, none⟩) 0 m) [] := by
    have h0 := ownJ_make m hm4 w1 w1.heap.size (Nat.le_refl _)
    have hb : Below (w1.heap.size + 1) (w1.alloc (.cells (Array.replicate m (.int .i64 0)) 2)) W0 := by
      rw [← hW0]; exact (((Below.refl _ _).alloc (by simp) _).alloc (by simp) _).alloc (by simp) _
    rw [hs] at h0 hb
    exact h0.below hb (by simp [hs])
  have hAt : At W0 (s1 + 1 + 1) (s1 + 1 + 1 + 1) b o c m n u p := ⟨x4.cell, x5.cell, HRow.out W0 hB0⟩
  have hs1' : w.heap.size ≤ s1 := by omega
  rw [hW0, hs]
  clear hW0 B1 C hs hs1 hmk
  refine wpIn_rangeFunc_ownF rfl (by omega) (gf := 29) (lb := #[.pointer (some ⟨s1 + 1 + 1, 0, none⟩), .pointer (some ⟨s1 + 1 + 1 + 1, 0, none⟩)]) rfl trivial (enters_of Try.func29 (by kernel_rfl) rfl)
    (filled_stops (5 - 1) (by omega) (s1 + 1 + 1) (s1 + 1 + 1 + 1) b o c m u p n hn hn1 HOk.out hmc hc1 W0 hAt) Kp.t (Kp.b (by omega) (by omega) (by omega)) (Below.refl _ _) (fun _ => rfl)
    (fun pre W => (((∃ v, Boxed W (s1 + 1) 33 v ∧ OwnJ 2 W s1 v (spL n u pre) ∧ v.ownBlock ≠ some (s1 + 1 + 1 + 1)) ∧ (Boxed W (s1 + 1 + 1) 22 (.slice (some ⟨b, o, none⟩) m c) ∧ Boxed W (s1 + 1 + 1 + 1) 2 (.int .i64 n))) ∧ Below w.heap.size w W) ∧ s1 + 4 ≤ W.heap.size)
    (fun _ _ _ => False)
    (OwnFrom.and (OwnFrom.and (OwnFrom.and (Own.from (holdsRow_own s1 (s1 + 1) 33 2 1 (fun pre => (spL n u pre).length) (fun pre => (spL n u pre).map (Value.int .i64)) (fun _ v => v.ownBlock ≠ some (s1 + 1 + 1 + 1))) _) (OwnFrom.and (Own.from (boxed_own (s1 + 1 + 1) 22 (fun _ => Value.slice (some ⟨b, o, none⟩) m c)) _) (Own.from (boxed_own (s1 + 1 + 1 + 1) 2 (fun _ => Value.int .i64 n)) _))) (ownFrom_below (Nat.le_refl _) (by omega))) (fun _ X Y row (hs : s1 + 4 ≤ X.heap.size) hg _ => (Nat.le_trans hs hg.size : s1 + 4 ≤ Y.heap.size)))
    (fun _ _ _ _ _ hs _ _ => hs)
    ⟨⟨⟨⟨_, x2, hO0, by simp [Value.ownBlock]; omega⟩, x4, x5⟩, hB0⟩, by omega⟩
    (fun x => { tmps := #[.slice (some ⟨b, o, none⟩) m c, .int .i64 n, undef, undef, .slice none 0 0, .pointer (some ⟨s1 + 1, 0, none⟩), undef, .int .i64 (spn n u x.1), .int .i64 n, .bool false, .bool false, .slice (some ⟨b, o, none⟩) m c, .bool true, .bool false, .bool false, .slice (some ⟨b, o, none⟩) m c, .int .i64 (m : Int), .slice (some ⟨s1, 0, none⟩) 0 m, .slice (some ⟨b, o, none⟩) m c, .int .i64 n, .func (.func 29) #[] #[.pointer (some ⟨s1 + 1 + 1, 0, none⟩), .pointer (some ⟨s1 + 1 + 1 + 1, 0, none⟩)], .agg #[.int .i64 (u x.1), .int .i64 (p x.1)], .int .i64 (spn n u x.1), undef, undef, undef, undef, undef], defers := [] }) ?assign ?body ?done ?stop
  case assign =>
    intro l x W K hK
    dsimp only [encT]
    gi_wp2
    exact hK
  case body =>
    rintro lp pre x W ⟨⟨⟨⟨v, hv, hown, hne⟩, y4, y5⟩, hB⟩, y6⟩ hlen
    obtain ⟨A, n1, rfl, _⟩ := hown.form
    have hvc := hv.cell
    have hvf := hv.frozen
    have H1 := Lib.hid hv
    have H2 := Lib.hid hown
    have H3 := Lib.hid y4
    have H5 := Lib.hid y5
    have H4 := Lib.hid hB
    have H6 := Lib.hid y6
    have H7 := Lib.hid (spL_snoc n u pre x)
    have H8 := Lib.hid (show (spL n u pre).length ≤ 1000 by rw [spL_length]; omega)
    obtain ⟨s, hs⟩ := named (spn n u x.1)
    rw [hs]
    have H9 := Lib.hid hs
    have HNE := Lib.hid hne
    clear hv hown y4 y5 hB y6 hs hne
    have hoA : Hid (OwnJ 2 (W.alloc (.cells #[.int .i64 s] 2)) s1 (.slice A (spL n u pre).length n1) (spL n u pre)) := Lib.hid (H2.out.below ((Below.refl W.heap.size W).alloc (Nat.le_refl _) _) (Nat.le_refl _))
    have hrA : Hid (RdI (W.alloc (.cells #[.int .i64 s] 2)) (W.heap.size + 1) (some ⟨W.heap.size, 0, none⟩) 1 [s]) := Lib.hid (RdI.lit W [s] 2 (by unfold maxLen; simp))
    gi_wp2_with (gi_at_builtin; refine wpListIn_append_j ity rfl _ _ rfl s1 _ _ rfl hoA.out (W.heap.size + 1) _ _ 1 [s] rfl rfl hrA.out (by have := H8.out; simp; omega) (by have := H6.out; simp; omega) ?_; intro v2 w2 hown2 hg2 hat2; have J1 : Boxed w2 (s1 + 1) 33 _ := (H1.out.alloc _).kept hg2 ((H1.out.alloc _).not_row (by decide) hoA.out); have J2 : Boxed w2 (s1 + 1 + 1) 22 _ := (H3.out.alloc _).kept hg2 ((H3.out.alloc _).not_row (by decide) hoA.out); have J3 : Boxed w2 (s1 + 1 + 1 + 1) 2 _ := (H5.out.alloc _).kept hg2 (fun e => HNE.out e.symm); have jc := J1.cell; have jf := J1.frozen; obtain ⟨A2, n2, rfl, _⟩ := hown2.form; have K1 := Lib.hid J1; have K2 := Lib.hid J2; have K5 := Lib.hid J3; have K3 := Lib.hid hown2; have K4 := Lib.hid hg2; have K6 := Lib.hid hat2; clear J1 J2 J3 hown2 hg2 hat2)
    have hg2' : (W.alloc (.cells #[.int .i64 s] 2)).grownBy w2 (Value.slice A (spL n u pre).length n1).ownBlock := K4.out
    have hj : ∀ j, (Value.slice A (spL n u pre).length n1).ownBlock = some j → s1 ≤ j := fun j e => (World.ownsRow.lt hoA.out j e).1
    have hbl2 : ∀ k, k < W.heap.size → some k ≠ (Value.slice A (spL n u pre).length n1).ownBlock → w2.heap[k]? = W.heap[k]? := fun k hk hne => (hg2'.block k (by simp; omega) hne).trans (Below.heap_alloc W _ k hk)
    have e1 := hbl2 (s1 + 1 + 1) (by have := H6.out; omega) (H3.out.not_row (by decide) H2.out)
    have e2 := hbl2 (s1 + 1 + 1 + 1) (by have := H6.out; omega) (fun e => HNE.out e.symm)
    have e3 := hbl2 b (by have := H4.out.size; omega) (fun e => by have := hj b e.symm; omega)
    refine ⟨(KeepsOthers.alloc W _).trans ((KeepsOthers.of_grownBy hg2' ?_).trans (KeepsOthers.setCell _ _ _)), kp_set ⟨e1, e2, e3⟩ _ _ (by omega) (by omega) (by omega), ⟨⟨⟨_, K1.out.set _, ?_, ?_⟩, K2.out.other (by omega) _, K5.out.other (by omega) _⟩, ?_⟩, ?_⟩
    · intro j ob ej hjo
      rcases hoA.out.2 with ⟨e, _⟩ | ⟨g', cap, cur, e, _, hgb, _⟩
      · rw [e] at ej; cases ej
      · rw [e] at ej
        obtain rfl : g' = j := by simpa [Value.ownBlock] using ej
        rw [hgb] at hjo; cases hjo; rfl
    · have h0 := K3.out.kept (grownBy_setCell' w2 (s1 + 1) (.slice A2 (spL n u pre ++ [s]).length n2)) (.inr (K1.out.not_row (by decide) K3.out).symm)
      rw [H7.out, H9.out]
      unfold OwnJ
      simpa using h0
    · rcases K6.out with h | h
      · intro c; exact HNE.out (h.symm.trans (by simpa using c))
      · intro c
        have : (Value.slice A2 (spL n u pre ++ [s]).length n2).ownBlock = some (s1 + 1 + 1 + 1) := by simpa using c
        rw [h] at this; simp at this; have := H6.out; omega
    · exact (((H4.out.alloc H4.out.size _).grown hg2' (by have := H4.out.size; simp; omega) (fun j e => by have := hj j e; omega)).setCell (p := ⟨s1 + 1, 0, none⟩) (by show w.heap.size ≤ s1 + 1; omega) _)
    · rw [size_setCell]; have := hg2'.size; simp at this; have := H6.out; omega
  case done =>
    rintro D ys W hD rfl ⟨⟨⟨⟨v, hv, hown, _⟩, y4, y5⟩, hB⟩, y6⟩ hK
    obtain ⟨A, n1, rfl, _⟩ := hown.form
    have hvc := hv.cell
    gi_wp2
    refine ⟨by simp, .inl ⟨_, _, rfl, run_takeDeferred hK, ?_⟩⟩
    refine ⟨_, results_tmp rfl _ _ _, _, rfl, ?_, ?_⟩
    · exact ownsRow_putObj (ownJ_lower hown hs1') _ hK rfl
    · exact hB.trans (belowK_b (w := w) (Nat.le_refl _) W D _ _ (by omega) hK rfl rfl)
  case stop =>
    rintro D cd pre W _ _ h _
    exact h.elim
end Go.Proofs.Ythaleikmdoijbaa.Ti
