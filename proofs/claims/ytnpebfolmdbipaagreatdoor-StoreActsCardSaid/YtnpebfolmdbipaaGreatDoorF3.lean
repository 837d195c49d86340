import Derived.Test.YtnpebfolmdbipaaGreatDoorF2
namespace Go.Proofs.YtnpebfolmdbipaaGreatDoor.Fm
open Go.RowKit Mem
attribute [local go_sem] Oper.semAt_some

theorem wpListIn_append_rd {F : Fence} {n : Nat} {P : Program} {t e : TypeId} (T : ByteTy P t e) {ops : Array Oper} {rest : List Oper} {o : Oper} {a : Act} {w : World} {Q : Exit → Act → World → Prop} (hgd : o.guard = none) (s x : Operand)
    (ho : o.op = .call { callee := .builtin .append, args := #[s, x], argTypes := #[t, t] })
    (base : Nat) (v : Value) (l : List UInt8) (hs : a.eval s = v) (hown : Mem.Own e w base v l)
    (B : Nat) (A : Option Addr) (m c : Nat) (k : List UInt8) (hx : a.eval x = .slice A m c) (hm : m = k.length) (hr : Rd w B A c k) (hlen : l.length + k.length ≤ 140737488355328) (hbase : base ≤ w.heap.size)
    (h : ∀ v' w', Mem.Own e w' base v' (l ++ k) → w.grownBy w' v.ownBlock → (v'.ownBlock = v.ownBlock ∨ v'.ownBlock = some w.heap.size) → wpListIn F n P ops Q rest (a.put o.dst v') w') : wpListIn F n P ops Q (o :: rest) a w := by
  subst hm
  obtain ⟨v', w', hrun, h2, h3, h4⟩ := run_append_rd T w o.type base v l hown B A c k hr hlen hbase
  refine wpListIn_plain hgd fun K hK => ?_
  unfold Oper.wpIn
  refine ⟨?_, ?_⟩
  · simp [Oper.about, ho, resolve, Target.leads, Sem.run_pure]
  · rw [Oper.semAt_plain F _ _ (by rw [ho]; intro c hc'; cases hc')]
    simp only [execOp, ho, resolve, invoke, builtin, Sem.run_bind, Sem.run_pure, Result.andThen_ok, List.map_toArray, List.map_cons, List.map_nil, hs, hx, hrun]
    exact hK _ _ (h v' w' h2 h3 h4)

def zpage : List UInt8 := List.replicate 4096 0
theorem length_zpage : zpage.length = 4096 := List.length_replicate
theorem make0 : ∀ W, (Instr.makeSlice 36 (.int .i64 0) (.int .i64 4096)).run Tryz.prog W = .ok (.slice (some ⟨W.heap.size, 0, none⟩) 0 4096) (W.alloc (.cells (bcs zpage) 5)) := by
  intro W
  obtain ⟨i0, hi, hz0, hz1, hz2⟩ := info_parts u8_info
  have hr := run_make (P := Tryz.prog) W 36 5 i0 _ Tryz.underlying36 hi hz0 .i64 .i64 0 4096 (by omega) (by omega) (by rw [hz2]; omega) (by omega)
  rw [hz1] at hr
  exact hr.trans (by rw [zpage, ← bcs_zeros]; rfl)

def partsOf (l : List UInt8) (pre : List (Fin 8)) : List UInt8 := (pre.map fun k => Frm.part l k.1).flatten
theorem partsOf_snoc (l : List UInt8) (pre : List (Fin 8)) (k : Fin 8) : partsOf l (pre ++ [k]) = partsOf l pre ++ Frm.part l k.1 := by simp [partsOf]
theorem partsOf_upto (l : List UInt8) (k : Nat) (h : k ≤ 8) : partsOf l (upto k) = Frm.insideTo l k := by
  induction k with
  | zero => rfl
  | succ k ih => rw [upto_succ k (by omega), partsOf_snoc, ih (by omega)]; rfl
theorem partsOf_le (l : List UInt8) (pre : List (Fin 8)) : (partsOf l pre).length ≤ 504 * pre.length := by
  induction pre with
  | nil => simp [partsOf]
  | cons k pre ih =>
    have h : partsOf l (k :: pre) = Frm.part l k.1 ++ partsOf l pre := by simp [partsOf]
    rw [h, List.length_append, List.length_cons]
    have : (Frm.part l k.1).length ≤ 504 := by unfold Frm.part; rw [List.length_take]; omega
    omega

theorem length_insideTo (l : List UInt8) (hl : l.length = 4096) (n : Nat) (h : n ≤ 8) : (Frm.insideTo l n).length = 504 * n := by
  induction n with
  | zero => rfl
  | succ n ih =>
    rw [Frm.insideTo, List.length_append, ih (by omega), Frm.part, List.length_take, List.length_drop]; omega
theorem held_le' (l : List UInt8) : (Frm.held l).length ≤ 4011 := Frm.held_le l
theorem held_take (l : List UInt8) : Frm.held l = ((Frm.insideTo l 8).drop 17).take (Frm.held l).length := by
  unfold Frm.held
  split
  · rw [List.length_take, List.take_eq_take_iff]; simp
  · rfl
def left3 (I : List UInt8) : St := (((⟨I.take 17, false⟩ : St).after 8).after 1)
theorem count_read (l : List UInt8) (hl : l.length = 4096) : (left3 (Frm.insideTo l 8)).count 4011 = ((Frm.held l).length : Int) := by
  have hI := length_insideTo l hl 8 (by omega)
  have h1 : left3 (Frm.insideTo l 8) = ⟨((Frm.insideTo l 8).drop 9).take 8, false⟩ := by
    unfold left3 St.after
    have e1 : ¬ (List.take 17 (Frm.insideTo l 8)).length < 8 := by rw [List.length_take, hI]; omega
    have e2 : ¬ (List.drop 8 (List.take 17 (Frm.insideTo l 8))).length < 1 := by rw [List.length_drop, List.length_take, hI]; omega
    simp only [if_neg e1, if_neg e2, Bool.false_eq_true, if_false]
    simp only [List.drop_take, List.drop_drop]
  have h2 : (left3 (Frm.insideTo l 8)).num 8 = Frm.count l := by
    rw [h1]
    unfold St.num Frm.count
    rw [if_neg (by simp), if_neg (by simp [hI]), List.take_take, Nat.min_self]
  unfold St.count
  rw [h2]
  unfold Frm.held
  by_cases hc : Frm.count l ≤ 4011
  · rw [if_neg (by omega), if_pos hc, List.length_take, List.length_drop, hI]; omega
  · rw [if_pos (by omega), if_neg hc]; rfl

set_option maxRecDepth 100000 in
set_option maxHeartbeats 2000000 in
theorem held_any (g o c : Nat) (l : List UInt8) (w : World) (hr : Rd w w.heap.size (some ⟨g, o, none⟩) c l) (hl : l.length = 4096) :
    Calls Tryz.prog 73 #[.slice (some ⟨g, o, none⟩) 4096 c] w fun e w' => ∃ v, e = .returned v ∧ Mem.Own 5 w' w.heap.size v (Frm.held l) ∧ Below w.heap.size w w' := by
  have hc0 : 4096 ≤ c := by have := hr.1; omega
  have hc1 : c ≤ 9223372036854775807 := by have := hr.2.1; unfold maxLen at this; omega
  have hmk := make0
  refine (callsIn_wide (n := 5)).1 ?_
  refine callsIn_of_wp_marks Tryz.func73 rfl trivial ?_ rfl
  simp only [Tryz.ntmps73, List.size_toArray, List.length_cons, List.length_nil, Nat.reduceAdd, Nat.reduceSub, Array.replicate_succ, Array.replicate_zero, List.push_toArray, List.append_toArray, List.nil_append, List.cons_append]
  gi_wp2_with (refine ⟨trivial, ?_⟩; gi_at_call 104; refine (callsIn_wide.2 (sectors_any _ _ _ _)).mono ?_; rintro e w' ⟨rfl, rfl⟩)
  obtain ⟨W0, hW0⟩ : ∃ W0, (((w.alloc (.cells (bcs zpage) 5)).alloc (.cells #[.slice (some ⟨w.heap.size, 0, none⟩) 0 4096] 36)).alloc (.cells #[.slice (some ⟨g, o, none⟩) 4096 c] 36)) = W0 := ⟨_, rfl⟩
  have hsz : W0.heap.size = w.heap.size + 3 := by rw [← hW0]; simp
  have hx1 : Boxed W0 (w.heap.size + 1) 36 (.slice (some ⟨w.heap.size, 0, none⟩) 0 4096) := by
    rw [← hW0]
    have := (Boxed.new (w.alloc (.cells (bcs zpage) 5)) 36 (.slice (some ⟨w.heap.size, 0, none⟩) 0 4096)).alloc (.cells #[.slice (some ⟨g, o, none⟩) 4096 c] 36)
    rwa [World.size_alloc] at this
  have hx2 : Boxed W0 (w.heap.size + 2) 36 (.slice (some ⟨g, o, none⟩) 4096 c) := by
    rw [← hW0]
    have := Boxed.new ((w.alloc (.cells (bcs zpage) 5)).alloc (.cells #[.slice (some ⟨w.heap.size, 0, none⟩) 0 4096] 36)) 36 (.slice (some ⟨g, o, none⟩) 4096 c)
    rwa [World.size_alloc, World.size_alloc] at this
  have hB0 : Below w.heap.size w W0 := by
    rw [← hW0]; exact (((Below.refl _ w).alloc (Nat.le_refl _) _).alloc (by simp) _).alloc (by simp; omega) _
  have hh0 : W0.heap[w.heap.size]? = some (.cells (bcs zpage) 5) := by
    rw [← hW0]
    exact (Below.heap_alloc _ _ _ (by simp; omega)).trans ((Below.heap_alloc _ _ _ (by simp)).trans (heap_alloc_new w _))
  have ho0 : Mem.Own 5 W0 w.heap.size (.slice (some ⟨w.heap.size, 0, none⟩) 0 4096) [] :=
    ⟨rfl, .inr ⟨w.heap.size, 4096, bcs zpage, rfl, Nat.le_refl _, hh0, Nat.zero_le _, by unfold maxLen; omega, by rw [size_bcs, length_zpage], by simp⟩⟩
  rw [hW0]
  clear hW0 hh0
  refine wpIn_rangeFunc_ownF rfl (by omega) (gf := 120) (lb := #[.pointer (some ⟨w.heap.size + 1 + 1, 0, none⟩)]) rfl trivial (enters_of Tryz.func120 (by kernel_rfl) rfl)
    (sectors_stops (5 - 1) (by omega) (w.heap.size + 1 + 1) g o c hc0 hc1 _ (by omega) hx2.cell) Box.t (Box.b (by omega)) (Below.refl _ _) (fun _ => rfl)
    (fun pre W => ((∃ v, Boxed W (w.heap.size + 1) 36 v ∧ Mem.Own 5 W w.heap.size v (partsOf l pre) ∧ True) ∧ Boxed W (w.heap.size + 2) 36 (.slice (some ⟨g, o, none⟩) 4096 c)) ∧ Below w.heap.size w W)
    (fun _ _ _ => False)
    (OwnFrom.and (Own.from (fun s A B row hs hg hr => ⟨holdsRow_own w.heap.size (w.heap.size + 1) 36 5 1 (fun pre => (partsOf l pre).length) (fun pre => (partsOf l pre).map bv) (fun _ _ => True) s A B row hs.1 hg hr, boxed_own (w.heap.size + 2) 36 (fun _ => Value.slice (some ⟨g, o, none⟩) 4096 c) s A B row hs.2 hg hr⟩) _) (ownFrom_below (Nat.le_refl _) (by omega)))
    (fun _ _ _ _ _ hs _ _ => hs)
    ⟨⟨⟨_, hx1, ho0, trivial⟩, hx2⟩, hB0⟩
    (fun x => { tmps := #[.slice (some ⟨g, o, none⟩) 4096 c, undef, .slice none 0 0, .pointer (some ⟨w.heap.size + 1, 0, none⟩), undef, .slice (some ⟨g, o + x.1 * 512 + 8, none⟩) 504 (c - x.1 * 512 - 8), undef, .slice (some ⟨w.heap.size, 0, none⟩) 0 4096, .slice (some ⟨g, o, none⟩) 4096 c, .func (.func 120) #[] #[.pointer (some ⟨w.heap.size + 1 + 1, 0, none⟩)],
      .slice (some ⟨g, o + x.1 * 512, none⟩) 8 (c - x.1 * 512), .slice (some ⟨g, o + x.1 * 512 + 8, none⟩) 504 (c - x.1 * 512 - 8), undef, undef, undef, undef, undef, undef, undef, undef, undef, undef, undef, undef, undef, undef, undef, undef], defers := [] }) ?assign ?body ?done ?stop
  case assign =>
    intro l x W K hK
    dsimp only [encs]
    gi_wp2
    exact hK
  case body =>
    rintro lp pre x W ⟨⟨⟨v, hv, hown, _⟩, hx⟩, hB⟩ hlen
    obtain ⟨hrp, hlp⟩ := rd_part (hr.below hB) hl x.1 x.2
    obtain ⟨A, n1, rfl, _⟩ := hown.form
    have hvc := hv.cell
    have hvf := hv.frozen
    have H1 := Lib.hid hv
    have H2 := Lib.hid hown
    have H3 := Lib.hid hx
    have H4 := Lib.hid hB
    have H5 := Lib.hid hrp
    have H6 := Lib.hid hlp
    have H7 := Lib.hid (partsOf_snoc l pre x)
    have H8 := Lib.hid (partsOf_le l pre)
    clear hv hown hx hB hrp hlp
    gi_wp2_with (gi_at_builtin; refine wpListIn_append_rd byteTy rfl _ _ rfl w.heap.size _ _ rfl H2.out _ _ _ _ _ rfl H6.out.symm H5.out (by have := H6.out; have := H8.out; omega) H4.out.size ?_; intro v2 w2 hown2 hg2 hat2; have J1 : Boxed w2 (w.heap.size + 1) 36 _ := H1.out.kept hg2 (H1.out.not_row (by decide) H2.out); have J2 : Boxed w2 (w.heap.size + 2) 36 _ := H3.out.kept hg2 (H3.out.not_row (by decide) H2.out); have jc := J1.cell; have jf := J1.frozen; obtain ⟨A2, n2, rfl, _⟩ := hown2.form; have K1 := Lib.hid J1; have K2 := Lib.hid J2; have K3 := Lib.hid hown2; have K4 := Lib.hid hg2; clear J1 J2 hown2 hg2 hat2)
    have hg2' : W.grownBy w2 (Value.slice A (partsOf l pre).length n1).ownBlock := K4.out
    have hj : ∀ j, (Value.slice A (partsOf l pre).length n1).ownBlock = some j → w.heap.size ≤ j := fun j e => (H2.out.lt j e).1
    rw [← List.length_append]
    have h3 := K1.out.set (.slice A2 (partsOf l pre ++ Frm.part l x.1).length n2)
    have hb2 : Boxed (w2.setCell ⟨w.heap.size + 1, 0, none⟩ (.slice A2 (partsOf l pre ++ Frm.part l x.1).length n2)) (w.heap.size + 2) 36 (.slice (some ⟨g, o, none⟩) 4096 c) := K2.out.other (by omega) _
    refine ⟨(KeepsOthers.of_grownBy hg2' ?_).trans (KeepsOthers.setCell _ _ _), hb2.cell.trans H3.out.cell.symm, ⟨⟨_, h3, ?_, trivial⟩, hb2⟩, (H4.out.grown hg2' H4.out.size hj).setCell (p := ⟨w.heap.size + 1, 0, none⟩) (by simp) _⟩
    · intro j ob ej hjo
      rcases H2.out.2 with ⟨e, _⟩ | ⟨g', cap, cur, e, _, hgb, _⟩
      · rw [e] at ej; cases ej
      · rw [e] at ej
        obtain rfl : g' = j := by simpa [Value.ownBlock] using ej
        rw [hgb] at hjo; cases hjo; rfl
    · rw [H7.out]
      exact K3.out.kept (grownBy_setCell' w2 (w.heap.size + 1) _) (.inr (K1.out.not_row (by decide) K3.out).symm)
  case done =>
    rintro D ys W hD rfl ⟨⟨⟨v, hv, hown, _⟩, hx⟩, hB⟩ hK
    have e8 : partsOf l (List.finRange 8) = Frm.insideTo l 8 := partsOf_upto l 8 (by omega)
    rw [e8] at hown
    have hlI := length_insideTo l hl 8 (by omega)
    have Hheld := Lib.hid (held_take l)
    have Hnum := Lib.hid (count_read l hl)
    have hk1 := held_le' l
    generalize (Frm.held l).length = k at Hheld Hnum hk1
    generalize Frm.insideTo l 8 = I at hown hlI Hheld Hnum
    obtain ⟨A, n1, rfl, hrd, _⟩ := hown.form
    obtain ⟨b, o1, rfl, _⟩ := hrd.2.2.2 (by omega)
    rw [hlI] at hv
    have hn0 : 4032 ≤ n1 := by have := hrd.1; omega
    have hn1 : n1 ≤ 9223372036854775807 := hrd.2.1
    have hvc := hv.cell
    have H1 := Lib.hid hv
    have H2 := Lib.hid hrd
    have H3 := Lib.hid hB
    have H4 := Lib.hid hK
    have H5 := Lib.hid hlI
    clear hv hrd hB hK hown hx hlI
    gi_wp2_with (first
      | (refine ⟨trivial, ?_⟩; gi_at_call 105; refine (callsIn_wide.2 (New_any _ _ 17 (I.take 17) _ (H2.out.take 17) (by rw [List.length_take, H5.out]; rfl) (by omega))).mono ?_; rintro e w1 ⟨g1, rfl, hg1, hrd1, hb1⟩; have G1 := Lib.hid hg1; have G2 := Lib.hid hrd1; have G3 := Lib.hid hb1; clear hg1 hrd1 hb1)
      | (refine ⟨trivial, ?_⟩; gi_at_call 106; refine (callsIn_wide.2 (RInt_any g1 _ w1 G2.out)).mono ?_; rintro e w2 ⟨rfl, hl2⟩; have G4 := Lib.hid hl2.1; have G5 := Lib.hid (hl2.below G1.out G3.out.size); clear hl2)
      | (refine ⟨trivial, ?_⟩; gi_at_call 107; refine (callsIn_wide.2 (RByte_any g1 _ w2 G4.out)).mono ?_; rintro e w3 ⟨rfl, hl3⟩; have G6 := Lib.hid hl3.1; have G7 := Lib.hid (hl3.below G1.out (Nat.le_trans G3.out.size G5.out.size)); clear hl3))
    have b3 : Below W.heap.size W w3 := G3.out.trans (G5.out.trans G7.out)
    have hv3 : w3.cell? ⟨w.heap.size + 1, 0, none⟩ = some (.slice (some ⟨b, o1, none⟩) 4032 n1) := (b3.cell (p := ⟨w.heap.size + 1, 0, none⟩) H1.out.lt).trans hvc
    have B3 := Lib.hid b3
    have GD : Hid (RdrS w3.drew g1 (left3 I)) := Lib.hid (Rdr.below G6.out ((Below.refl _ w3).drew) G6.out.lt)
    clear b3
    have e1 : IntKind.i64.wrap (17 + (k : Int)) = 17 + k := by rw [IntKind.wrap_i64]; omega
    have e2 : (17 + (k : Int)).toNat = 17 + k := by omega
    have e3 : (0 : Int) ≤ 17 + k := by omega
    have e4 : 17 + (k : Int) ≤ n1 := by omega
    have e5 : (17 : Int) ≤ 17 + k := by omega
    first | (gi_region_with (first
      | (refine ⟨trivial, ?_⟩; gi_at_call 108; refine (callsIn_wide.2 (RCount_any g1 _ _ 4011 GD.out (by omega) (by omega))).mono ?_; rintro e w4 ⟨rfl, hl4⟩; rw [Hnum.out]; have hb4 := hl4.below G1.out B3.out.size; have hb5 : Below W.heap.size W w4 := (B3.out.drew).trans hb4; have hv4 : w4.cell? ⟨w.heap.size + 1, 0, none⟩ = some (.slice (some ⟨b, o1, none⟩) 4032 n1) := (hb5.cell (p := ⟨w.heap.size + 1, 0, none⟩) H1.out.lt).trans hvc; have HR4 := Lib.hid ((((H2.out.below hb5).more hb5.size).drop 17 (by rw [H5.out]; omega)).take k); have G8 := Lib.hid hb5; clear hl4 hb4 hb5)
      | (refine ⟨trivial, ?_⟩; gi_at_call 52; refine (callsIn_wide.2 (clone_any _ _ k _ w4 HR4.out (by rw [List.length_take, List.length_drop, H5.out]; omega) (by omega))).mono ?_; rintro e w5 ⟨v5, rfl, hown5, hb5⟩; rw [← Hheld.out] at hown5; have G9 := Lib.hid hown5; have GA := Lib.hid hb5; clear hown5 hb5))) | fail
    all_goals gi_wp2
    all_goals
      have hB5 : Below W.heap.size W w5 := G8.out.trans (GA.out.mono G8.out.size)
      have hK5 : w5.heap[D]? = some (.deferred (some [])) := (hB5.block D (Array.getElem?_eq_some_iff.1 H4.out).1).trans H4.out
      have hO5 : Mem.Own 5 w5 w.heap.size v5 (Frm.held l) := G9.out.mono (Nat.le_trans H3.out.size G8.out.size)
      refine ⟨by simp, .inl ⟨_, _, rfl, run_takeDeferred hK5, ?_⟩⟩
      exact ⟨_, results_tmp rfl _ _ _, v5, rfl, ownsRow_putObj hO5 _ hK5 rfl, (H3.out.trans (hB5.mono H3.out.size)).trans (belowK_b (w := w) (Nat.le_refl _) w5 D _ _ (by omega) hK5 rfl rfl)⟩
  case stop =>
    rintro D c pre W _ _ h _
    exact h.elim
end Go.Proofs.YtnpebfolmdbipaaGreatDoor.Fm
