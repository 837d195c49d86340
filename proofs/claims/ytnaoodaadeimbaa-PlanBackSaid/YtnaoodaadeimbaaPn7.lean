import Derived.Test.YtnaoodaadeimbaaPn6
namespace Go.Proofs.Ytnaoodaadeimbaa.Pl
set_option linter.unusedVariables false
set_option linter.unusedSimpArgs false
open Go.RowKit Mem Ti Mo
attribute [local go_sem] Oper.semAt_some
/-- No plan. -/
def zpl : Value := .agg #[.int .u32 0, .int .i64 0, .int .i64 0, .int .i64 0, .int .i64 0, .int .i64 0, .slice none 0 0]
/-- Where the numbers lie that are read ahead of the tiers. -/
def ad6 (gi gp k : Nat) : Addr := ⟨if k = 0 then gi else gp, k, none⟩
theorem GI.id6 {w w0 W : World} {g gi gp : Nat} {s : St} {f : Nat → Int} (h : GI w w0 g (ad6 gi gp) 6 s f W) (hne : gi ≠ gp) (hg : gi ≠ g) {v : Value} (u : VN w0 gi [v]) : VN W gi [.int .i64 (f 0)] := by
  have hc : ∀ i, i ≠ 0 → ∀ j, j < 6 → (⟨gi, i, none⟩ : Addr) ≠ ad6 gi gp j := fun i hi j hj e => by
    unfold ad6 at e
    injection e with e1 e2
    split at e1 <;> omega
  have h0 : W.cell? ⟨gi, 0, none⟩ = some (.int .i64 (f 0)) := h.row 0 (by omega)
  have hz : W.frozen? ⟨gi, 0, none⟩ = false := h.zf 0 (by omega)
  refine ⟨Nat.lt_of_lt_of_le u.lt h.size, fun j x hj => ?_, fun i => ?_, fun i hi => ?_⟩
  · rcases j with _ | j
    · exact h0.trans hj
    · cases hj
  · by_cases hi : i = 0
    · subst hi; exact hz
    · exact (h.cel _ u.lt hg (hc i hi)).2.trans (u.z i)
  · have hi2 : i ≠ 0 := by simp at hi; omega
    exact (h.cel _ u.lt hg (hc i hi2)).1.trans (u.top i hi)
theorem GI.pl6 {w w0 W : World} {g gi gp : Nat} {s : St} {f : Nat → Int} (h : GI w w0 g (ad6 gi gp) 6 s f W) (hne : gi ≠ gp) (hg : gp ≠ g) {a v1 v2 v3 v4 v5 b : Value} (u : VN w0 gp [a, v1, v2, v3, v4, v5, b]) : VN W gp [a, .int .i64 (f 1), .int .i64 (f 2), .int .i64 (f 3), .int .i64 (f 4), .int .i64 (f 5), b] := by
  have hc : ∀ i, (i = 0 ∨ 6 ≤ i) → ∀ j, j < 6 → (⟨gp, i, none⟩ : Addr) ≠ ad6 gi gp j := fun i hi j hj e => by
    unfold ad6 at e
    injection e with e1 e2
    split at e1 <;> omega
  have ho := fun i hi => h.cel ⟨gp, i, none⟩ u.lt hg (hc i hi)
  have r1 : W.cell? ⟨gp, 1, none⟩ = some (.int .i64 (f 1)) := h.row 1 (by omega)
  have r2 : W.cell? ⟨gp, 2, none⟩ = some (.int .i64 (f 2)) := h.row 2 (by omega)
  have r3 : W.cell? ⟨gp, 3, none⟩ = some (.int .i64 (f 3)) := h.row 3 (by omega)
  have r4 : W.cell? ⟨gp, 4, none⟩ = some (.int .i64 (f 4)) := h.row 4 (by omega)
  have r5 : W.cell? ⟨gp, 5, none⟩ = some (.int .i64 (f 5)) := h.row 5 (by omega)
  have z1 : W.frozen? ⟨gp, 1, none⟩ = false := h.zf 1 (by omega)
  have z2 : W.frozen? ⟨gp, 2, none⟩ = false := h.zf 2 (by omega)
  have z3 : W.frozen? ⟨gp, 3, none⟩ = false := h.zf 3 (by omega)
  have z4 : W.frozen? ⟨gp, 4, none⟩ = false := h.zf 4 (by omega)
  have z5 : W.frozen? ⟨gp, 5, none⟩ = false := h.zf 5 (by omega)
  refine ⟨Nat.lt_of_lt_of_le u.lt h.size, fun j v hj => ?_, fun i => ?_, fun i hi => ?_⟩
  · have hlt := (List.getElem?_eq_some_iff.1 hj).1
    simp only [List.length_cons, List.length_nil] at hlt
    have : j = 0 ∨ j = 1 ∨ j = 2 ∨ j = 3 ∨ j = 4 ∨ j = 5 ∨ j = 6 := by omega
    rcases this with rfl | rfl | rfl | rfl | rfl | rfl | rfl
    · exact (ho 0 (.inl rfl)).1.trans ((u.c 0 _ rfl).trans hj)
    · exact r1.trans hj
    · exact r2.trans hj
    · exact r3.trans hj
    · exact r4.trans hj
    · exact r5.trans hj
    · exact (ho 6 (.inr (by omega))).1.trans ((u.c 6 _ rfl).trans hj)
  · by_cases hi : i = 0 ∨ 6 ≤ i
    · exact (ho i hi).2.trans (u.z i)
    · have : i = 1 ∨ i = 2 ∨ i = 3 ∨ i = 4 ∨ i = 5 := by omega
      rcases this with rfl | rfl | rfl | rfl | rfl <;> assumption
  · exact (ho i (.inr (by simp at hi; omega))).1.trans (u.top i hi)
theorem results_get (tmps : Array Value) (w : World) (x : Nat) (v0 v1 v2 v3 v4 v5 v6 v : Value) (e1 : tmps[2]? = some (.pointer (some ⟨x, 0, none⟩))) (e2 : tmps[3]? = some v)
    (c0 : w.cell? ⟨x, 0, none⟩ = some v0) (c1 : w.cell? ⟨x, 1, none⟩ = some v1) (c2 : w.cell? ⟨x, 2, none⟩ = some v2) (c3 : w.cell? ⟨x, 3, none⟩ = some v3) (c4 : w.cell? ⟨x, 4, none⟩ = some v4) (c5 : w.cell? ⟨x, 5, none⟩ = some v5) (c6 : w.cell? ⟨x, 6, none⟩ = some v6) :
    (results Try.f14 tmps).run Try.prog w = .ok (.tuple #[.agg #[v0, v1, v2, v3, v4, v5, v6], v]) w := by
  simp [results, Try.results14, go_sem, e1, e2, c0, c1, c2, c3, c4, c5, c6, Result.andThen]
/-- A plan stored. -/
def st7 (w : World) (b : Nat) (v0 v1 v2 v3 v4 v5 v6 : Value) : World :=
  ((((((w.setCell ⟨b, 0, none⟩ v0).setCell ⟨b, 1, none⟩ v1).setCell ⟨b, 2, none⟩ v2).setCell ⟨b, 3, none⟩ v3).setCell ⟨b, 4, none⟩ v4).setCell ⟨b, 5, none⟩ v5).setCell ⟨b, 6, none⟩ v6
theorem st7_only (w : World) (b : Nat) (v0 v1 v2 v3 v4 v5 v6 : Value) : w.grownBy (st7 w b v0 v1 v2 v3 v4 v5 v6) (some b) :=
  grownBy_trans (grownBy_trans (grownBy_trans (grownBy_trans (grownBy_trans (grownBy_trans (only_set b 0 _) (only_set b 1 _)) (only_set b 2 _)) (only_set b 3 _)) (only_set b 4 _)) (only_set b 5 _)) (only_set b 6 _)
theorem st7_vn {w : World} {b : Nat} {a0 a1 a2 a3 a4 a5 a6 : Value} (h : VN w b [a0, a1, a2, a3, a4, a5, a6]) (v0 v1 v2 v3 v4 v5 v6 : Value) : VN (st7 w b v0 v1 v2 v3 v4 v5 v6) b [v0, v1, v2, v3, v4, v5, v6] :=
  ((((((h.set 0 (by simp) v0).set 1 (by simp) v1).set 2 (by simp) v2).set 3 (by simp) v3).set 4 (by simp) v4).set 5 (by simp) v5).set 6 (by simp) v6
/-- The way out of Get. -/
theorem leave2 {Wz : World} {tmps : Array Value} {D D2 ws : Nat} {v0 v1 v2 v3 v4 v5 v6 v : Value} {R : Ending → World → Prop} (hV : VN Wz ws [v0, v1, v2, v3, v4, v5, v6]) (t2 : tmps[2]? = some (.pointer (some ⟨ws, 0, none⟩))) (t3 : tmps[3]? = some v)
    (hK2 : Wz.heap[D2]? = some (.deferred (some []))) (hK1 : Wz.heap[D]? = some (.deferred (some []))) (hne : D ≠ D2) (n1 : ws ≠ D) (n2 : ws ≠ D2)
    (hR : R (.returned (.tuple #[.agg #[v0, v1, v2, v3, v4, v5, v6], v])) ((Wz.putObj D2 (.deferred none)).putObj D (.deferred none))) :
    bodyPostM Fence.wide 5 Try.prog Try.f14 R Exit.ret { tmps := tmps, defers := [{ target := .collected D2, args := #[] }, { target := .collected D, args := #[] }] } Wz := by
  refine ⟨by simp, .inl ⟨_, _, rfl, run_takeDeferred hK2, ?_⟩⟩
  have hK1' : (Wz.putObj D2 (.deferred none)).heap[D]? = some (.deferred (some [])) := (World.putObj_heap_other hne).trans hK1
  refine ⟨by simp, .inl ⟨_, _, rfl, run_takeDeferred hK1', ?_⟩⟩
  have h2 := (hV.bl (World.putObj_heap_other n2) (grownBy_putObj' Wz D2 (.deferred none)).size).bl (World.putObj_heap_other n1) (grownBy_putObj' (Wz.putObj D2 (.deferred none)) D (.deferred none)).size
  exact ⟨_, results_get tmps _ ws v0 v1 v2 v3 v4 v5 v6 v t2 t3 (h2.c 0 _ rfl) (h2.c 1 _ rfl) (h2.c 2 _ rfl) (h2.c 3 _ rfl) (h2.c 4 _ rfl) (h2.c 5 _ rfl) (h2.c 6 _ rfl), hR⟩
theorem below_put2 {w W : World} (h : Below w.heap.size w W) {D D2 : Nat} (h1 : w.heap.size ≤ D) (h2 : w.heap.size ≤ D2) (o o' : Obj) : Below w.heap.size w ((W.putObj D2 o).putObj D o') :=
  (h.grown (grownBy_putObj' W D2 o) h.size (fun k e => by cases e; exact h2)).grown (grownBy_putObj' _ D o') (Nat.le_trans h.size (grownBy_putObj' W D2 o).size) (fun k e => by cases e; exact h1)
theorem rdT_rows {W : World} {B g m : Nat} {f u p : Nat → Int} (h : ∀ k, k < 2 * m → W.cell? ⟨g, k, none⟩ = some (.int .i64 (f k))) (hu : ∀ k, k < m → f (2 * k) = u k ∧ f (2 * k + 1) = p k) (hB : g < B) (hm : m ≤ 4) : RdT W B (some ⟨g, 0, none⟩) m u p m :=
  ⟨Nat.le_refl _, by unfold maxLen; omega, fun _ => ⟨g, 0, rfl, hB, fun k hk => by
    have h1 := h (2 * k) (by omega)
    have h2 := h (2 * k + 1) (by omega)
    rw [(hu k hk).1] at h1
    rw [(hu k hk).2] at h2
    rw [show 0 + k * 2 = 2 * k by omega]
    exact ⟨h1, h2⟩⟩⟩
theorem keeps_left {W W2 : World} {g : Nat} {s s' : St} (h : RdrS W g s) (hl : Left W W2 g s') : KeepsOthers W W2 := by
  obtain ⟨A, c, hh, _⟩ := h
  exact KeepsOthers.of_grownBy hl.2 (fun j o e ho => by cases e; rw [hh] at ho; cases ho; rfl)
theorem KpP.left {Bx Bz g : Nat} {W W2 : World} {s : St} (hl : Left W W2 g s) (h1 : Bx < W.heap.size) (h2 : Bz < W.heap.size) (n1 : Bx ≠ g) (n2 : Bz ≠ g) {a : Addr} (m1 : Bx ≠ a.block) (m2 : Bz ≠ a.block) (v : Value) : KpP Bx Bz W (W2.setCell a v) := by
  obtain ⟨b, o, sp⟩ := a
  exact ⟨(Below.heap_setCell _ _ _ _ m1).trans (hl.2.block _ h1 (fun e => n1 (by injection e))), (Below.heap_setCell _ _ _ _ m2).trans (hl.2.block _ h2 (fun e => n2 (by injection e)))⟩
theorem KpT.left {Bx g : Nat} {W W2 : World} {s : St} (hl : Left W W2 g s) (h1 : Bx < W.heap.size) (n1 : Bx ≠ g) {a : Addr} (m1 : Bx ≠ a.block) (v : Value) : KpT Bx W (W2.setCell a v) := by
  obtain ⟨b, o, sp⟩ := a
  exact (Below.heap_setCell _ _ _ _ m1).trans (hl.2.block _ h1 (fun e => n1 (by injection e)))
set_option maxRecDepth 100000 in
set_option maxHeartbeats 4000000 in
theorem Get_any (A : Option Addr) (c : Nat) (l : List UInt8) (w : World) (hr : Rd w w.heap.size A c l) (hl : l.length ≤ 140737488355328) :
    Calls Try.prog 14 #[.slice A l.length c] w fun e w' => Below w.heap.size w w' ∧
      ((OkG l ∧ ∃ A' c', e = .returned (.tuple #[plv (rd l) A' c', .int .i64 0]) ∧ RdT w' w'.heap.size A' c' (rd l).u (rd l).p (rd l).n) ∨
       (¬ OkG l ∧ e = .returned (.tuple #[zpl, .int .i64 21]))) := by
  have CN := Lib.hid (fun W (h : Below w.heap.size w W) => New_any A c l.length l W ((hr.below h).more h.size) rfl hl)
  obtain ⟨n, hn⟩ : ∃ n, l.length = n := ⟨_, rfl⟩
  rw [hn] at CN ⊢
  clear hr hl
  refine (callsIn_wide (n := 5)).1 ?_
  refine callsIn_of_wp_marks Try.func14 rfl trivial ?_ rfl
  simp only [Try.ntmps14, List.size_toArray, List.length_cons, List.length_nil, Nat.reduceAdd, Nat.reduceSub, Array.replicate_succ, Array.replicate_zero, List.push_toArray, List.append_toArray, List.nil_append, List.cons_append]
  have HB0 : Hid (Below w.heap.size w (((w.alloc (.cells #[.int .u32 0, .int .i64 0, .int .i64 0, .int .i64 0, .int .i64 0, .int .i64 0, .slice none 0 0] 25)).alloc (.cells #[.int .u32 0, .int .i64 0, .int .i64 0, .int .i64 0, .int .i64 0, .int .i64 0, .slice none 0 0] 25)).alloc (.cells #[.int .i64 0] 2))) :=
    Lib.hid ((((Below.refl _ _).alloc (Nat.le_refl _) _).alloc (by simp) _).alloc (by simp; omega) _)
  gi_wp2_with fail
  refine ⟨trivial, ?_⟩
  gi_at_call 28
  refine (callsIn_wide.2 (CN.out _ HB0.out)).mono ?_
  rintro e w1 ⟨g, rfl, hg, hrd, hb⟩
  have hs0 : w.heap.size + 3 ≤ g := by simp at hg; omega
  have hs1 : g < w1.heap.size := hrd.lt
  have HR := Lib.hid hrd
  have HB1 := Lib.hid (HB0.out.trans (hb.mono HB0.out.size))
  have HV : Hid (VN w1 w.heap.size [.int .u32 0, .int .i64 0, .int .i64 0, .int .i64 0, .int .i64 0, .int .i64 0, .slice none 0 0] ∧ VN w1 (w.heap.size + 1) [.int .u32 0, .int .i64 0, .int .i64 0, .int .i64 0, .int .i64 0, .int .i64 0, .slice none 0 0] ∧ VN w1 (w.heap.size + 2) [.int .i64 0]) := by
    refine Lib.hid ⟨VN.bel ?_ hb, VN.bel ?_ hb, VN.bel ?_ hb⟩
    · exact ((VN.new w #[.int .u32 0, .int .i64 0, .int .i64 0, .int .i64 0, .int .i64 0, .int .i64 0, .slice none 0 0] 25).alloc _).alloc _
    · have := (VN.new (w.alloc (.cells #[.int .u32 0, .int .i64 0, .int .i64 0, .int .i64 0, .int .i64 0, .int .i64 0, .slice none 0 0] 25)) #[.int .u32 0, .int .i64 0, .int .i64 0, .int .i64 0, .int .i64 0, .int .i64 0, .slice none 0 0] 25).alloc (.cells #[.int .i64 0] 2)
      rwa [World.size_alloc] at this
    · have := VN.new ((w.alloc (.cells #[.int .u32 0, .int .i64 0, .int .i64 0, .int .i64 0, .int .i64 0, .int .i64 0, .slice none 0 0] 25)).alloc (.cells #[.int .u32 0, .int .i64 0, .int .i64 0, .int .i64 0, .int .i64 0, .int .i64 0, .slice none 0 0] 25)) #[.int .i64 0] 2
      rwa [World.size_alloc, World.size_alloc] at this
  clear hg hrd hb HB0 CN
  gi_wp2_with (refine ⟨trivial, ?_⟩; gi_at_call 20; refine (callsIn_wide.2 (places_any _ _ _)).mono ?_; rintro e w' ⟨rfl, rfl⟩)
  obtain ⟨s1, hs⟩ : ∃ s1, w1.heap.size = s1 := ⟨_, rfl⟩
  obtain ⟨W0, hW0⟩ : ∃ W0, (((w1.alloc (.cells #[.pointer (some ⟨g, 0, none⟩)] 61)).alloc (.cells #[.pointer (some ⟨w.heap.size + 1 + 1, 0, none⟩)] 49)).alloc (.cells #[.pointer (some ⟨w.heap.size + 1, 0, none⟩)] 50)) = W0 := ⟨_, rfl⟩
  have hb1 : Below w1.heap.size w1 W0 := by rw [← hW0]; exact (((Below.refl _ _).alloc (Nat.le_refl _) _).alloc (by simp) _).alloc (by simp; omega) _
  have hsz : W0.heap.size = s1 + 3 := by rw [← hW0, ← hs]; simp
  have x1 : Boxed W0 s1 61 (.pointer (some ⟨g, 0, none⟩)) := by rw [← hW0, ← hs]; exact ((Boxed.new w1 _ _).alloc _).alloc _
  have x3 : Boxed W0 (s1 + 1) 49 (.pointer (some ⟨w.heap.size + 1 + 1, 0, none⟩)) := by
    rw [← hW0, ← hs]; have := (Boxed.new (w1.alloc (.cells #[.pointer (some ⟨g, 0, none⟩)] 61)) 49 (.pointer (some ⟨w.heap.size + 1 + 1, 0, none⟩))).alloc (.cells #[.pointer (some ⟨w.heap.size + 1, 0, none⟩)] 50); rwa [World.size_alloc] at this
  have x4 : Boxed W0 (s1 + 1 + 1) 50 (.pointer (some ⟨w.heap.size + 1, 0, none⟩)) := by
    rw [← hW0, ← hs]; have := Boxed.new ((w1.alloc (.cells #[.pointer (some ⟨g, 0, none⟩)] 61)).alloc (.cells #[.pointer (some ⟨w.heap.size + 1 + 1, 0, none⟩)] 49)) 50 (.pointer (some ⟨w.heap.size + 1, 0, none⟩)); rwa [World.size_alloc, World.size_alloc] at this
  obtain ⟨v1, v2, v3⟩ := HV.out
  have u1 := v1.bel hb1
  have u2 := v2.bel hb1
  have u3 := v3.bel hb1
  have hP : Pls w W0 g (ad6 (w.heap.size + 1 + 1) (w.heap.size + 1)) 6 := by
    refine ⟨fun j hj => ?_, fun j hj => ?_, fun j hj => ?_, fun a b _ _ e => ?_, by omega, by omega, by omega⟩
    · show (if j = 0 then w.heap.size + 1 + 1 else w.heap.size + 1) ≠ g; split <;> omega
    · show (if j = 0 then w.heap.size + 1 + 1 else w.heap.size + 1) < W0.heap.size; split <;> omega
    · show w.heap.size ≤ (if j = 0 then w.heap.size + 1 + 1 else w.heap.size + 1); split <;> omega
    · injection e
  have hG0 : GI w W0 g (ad6 (w.heap.size + 1 + 1) (w.heap.size + 1)) 6 ⟨l, false⟩ (fun _ => 0) W0 := by
    refine ⟨Rdr.below HR.out hb1 hs1, fun k hk => ?_, fun k hk => ?_, Nat.le_refl _, HB1.out.trans (hb1.mono HB1.out.size), fun _ _ _ _ => rfl, fun _ _ _ _ => ⟨rfl, rfl⟩⟩
    · have : k = 0 ∨ k = 1 ∨ k = 2 ∨ k = 3 ∨ k = 4 ∨ k = 5 := by omega
      rcases this with rfl | rfl | rfl | rfl | rfl | rfl
      · exact u3.c 0 _ rfl
      · exact u2.c 1 _ rfl
      · exact u2.c 2 _ rfl
      · exact u2.c 3 _ rfl
      · exact u2.c 4 _ rfl
      · exact u2.c 5 _ rfl
    · have : k = 0 ∨ k = 1 ∨ k = 2 ∨ k = 3 ∨ k = 4 ∨ k = 5 := by omega
      rcases this with rfl | rfl | rfl | rfl | rfl | rfl
      · exact u3.z 0
      · exact u2.z 1
      · exact u2.z 2
      · exact u2.z 3
      · exact u2.z 4
      · exact u2.z 5
  have HU := Lib.hid (And.intro u1 (And.intro u2 u3))
  have HP := Lib.hid hP
  have hAt : AtP W0 (s1 + 1) (s1 + 1 + 1) (w.heap.size + 1 + 1) (w.heap.size + 1) := ⟨x3.cell, x4.cell⟩
  have X1 := Lib.hid x1
  rw [hW0, hs]
  rw [hs] at hs1
  clear hW0 HV HB1 HR hb1 hs v1 v2 v3 u1 u2 u3 x1 x3 x4 hP
  refine wpIn_rangeFunc_ownF rfl (by omega) (gf := 33) (lb := #[.pointer (some ⟨s1 + 1, 0, none⟩), .pointer (some ⟨s1 + 1 + 1, 0, none⟩)]) rfl trivial (enters_of Try.func33 (by kernel_rfl) rfl)
    (places_stops (5 - 1) (by omega) (s1 + 1) (s1 + 1 + 1) (w.heap.size + 1 + 1) (w.heap.size + 1) W0 hAt) KpP.t (KpP.b (by omega) (by omega)) (Below.refl _ _) (fun _ => rfl)
    (fun pre W => GI w W0 g (ad6 (w.heap.size + 1 + 1) (w.heap.size + 1)) 6 (itr ⟨l, false⟩ pre.length) (wrt ⟨l, false⟩ (fun _ => 0) pre).2 W)
    (fun _ _ _ => False)
    (GI.own (by omega) (fun pre : List (Fin 6) => itr ⟨l, false⟩ pre.length) (fun pre => (wrt ⟨l, false⟩ (fun _ => 0) pre).2))
    (fun _ _ _ _ _ hs _ _ => hs)
    hG0
    (fun x => { tmps := #[.slice A n c, undef, .pointer (some ⟨w.heap.size, 0, none⟩), .int .i64 0, .pointer (some ⟨w.heap.size + 1, 0, none⟩), .pointer (some ⟨w.heap.size + 1 + 1, 0, none⟩), .pointer (some ⟨s1, 0, none⟩), plc (w.heap.size + 1 + 1) (w.heap.size + 1) x.1, undef, .slice A n c, .pointer (some ⟨g, 0, none⟩), .func (.func 33) #[] #[.pointer (some ⟨s1 + 1, 0, none⟩), .pointer (some ⟨s1 + 1 + 1, 0, none⟩)],
      plc (w.heap.size + 1 + 1) (w.heap.size + 1) x.1, undef, undef, undef, undef, undef, undef, undef, undef, undef, undef, undef, undef, undef, undef, undef, undef, undef, undef, undef, undef, undef, undef, undef, undef, undef, undef, undef, undef, undef, undef, undef, undef, undef, undef], defers := [] }) ?assign ?body ?done ?stop
  case assign =>
    intro l x W K hK
    gi_wp2
    exact hK
  case body =>
    rintro lp pre x W hI hlen
    have hx := x.2
    have e6 := (hI.cel ⟨s1, 0, none⟩ (by show s1 < _; omega) (by show s1 ≠ g; omega) (fun j hj e => by
      have := congrArg Addr.block e
      have h2 := HP.out.lt j hj
      unfold ad6 at this
      simp at this
      split at this <;> omega)).1.trans X1.out.cell
    have CI := Lib.hid (RInt_any g _ W hI.rd)
    have HI := Lib.hid hI
    have hst := wrt_snoc ⟨l, false⟩ (fun _ => 0) pre x
    have hll : (pre ++ [x]).length = pre.length + 1 := by simp
    have hrow := hI.row x.1 hx
    have hzf := hI.zf x.1 hx
    have hlt : (ad6 (w.heap.size + 1 + 1) (w.heap.size + 1) x.1).block < W.heap.size := Nat.lt_of_lt_of_le (HP.out.lt _ hx) hI.size
    have hne := HP.out.ne _ hx
    have hsW := hI.size
    obtain ⟨V, hV⟩ : ∃ V, wrap64 ((itr ⟨l, false⟩ pre.length).num 8 : Int) = V := ⟨_, rfl⟩
    obtain ⟨F, hF⟩ : ∃ F, (wrt ⟨l, false⟩ (fun _ => 0) pre).2 x.1 = F := ⟨_, rfl⟩
    obtain ⟨k, hk⟩ : ∃ k, x.1 = k := ⟨_, rfl⟩
    obtain ⟨q, hq⟩ : ∃ q, (if k = 0 then w.heap.size + 1 + 1 else w.heap.size + 1) = q := ⟨_, rfl⟩
    have hadk : ad6 (w.heap.size + 1 + 1) (w.heap.size + 1) k = ⟨q, k, none⟩ := by unfold ad6; rw [hq]
    have hq1 : s1 + 1 ≠ q ∧ s1 + 1 + 1 ≠ q := by rw [← hq]; split <;> omega
    rw [hF] at hrow
    rw [hk] at hx hrow hzf hlt hne
    rw [hadk] at hrow hzf hlt hne
    simp only [plc, hk, hq]
    rw [hV] at CI
    have HS := Lib.hid (And.intro hst (And.intro hll (And.intro hV (And.intro hk hadk))))
    clear hst hll hV hk hF hq hI hG0 hAt hadk
    gi_wp2_with fail
    refine ⟨trivial, ?_⟩
    gi_at_call 29
    refine (CallsIn.inRound lp (callsIn_wide.2 CI.out)).mono ?_
    rintro e w2 ⟨rfl, hl⟩
    have j1 := (World.cell?_of_block (w := W) (a := ⟨q, k, none⟩) (hl.2.block q hlt (fun e => hne (by injection e)))).trans hrow
    have j2 := (World.frozen?_of_block (w := W) (a := ⟨q, k, none⟩) (hl.2.block q hlt (fun e => hne (by injection e)))).trans hzf
    have HL := Lib.hid hl
    clear hl hrow hzf e6
    gi_wp2
    refine ⟨(keeps_left HI.out.rd HL.out).trans (KeepsOthers.setCell _ _ _), KpP.left HL.out (by omega) (by omega) (by omega) (by omega) hq1.1 hq1.2 _, ?_⟩
    show GI w W0 g (ad6 (w.heap.size + 1 + 1) (w.heap.size + 1)) 6 (itr ⟨l, false⟩ (pre ++ [x]).length) (wrt ⟨l, false⟩ (fun _ => 0) (pre ++ [x])).2 _
    obtain ⟨h1, h2, h3, h4, h5⟩ := HS.out
    rw [h1, h2]
    have hfin := HI.out.step HP.out HL.out hx V
    rw [h5, ← h3, ← h4] at hfin
    rw [← h3]
    rw [← h4]
    exact hfin
  case done =>
    rintro D ys W hD rfl hI hK
    rw [List.length_finRange] at hI
    obtain ⟨u1, u2, u3⟩ := HU.out
    have hf : ∀ k, k < 6 → (wrt ⟨l, false⟩ (fun _ => 0) (List.finRange 6)).2 k = rnm ⟨l, false⟩ k := fun k hk => wrt_all _ _ 6 k hk
    have hblk : ∀ k, k ≠ w.heap.size + 1 → k ≠ w.heap.size + 1 + 1 → ∀ j, j < 6 → k ≠ (ad6 (w.heap.size + 1 + 1) (w.heap.size + 1) j).block := fun k h1 h2 j hj => by
      show k ≠ (if j = 0 then w.heap.size + 1 + 1 else w.heap.size + 1); split <;> omega
    have VR : VN W w.heap.size _ := hI.vn u1 (by omega) (hblk _ (by omega) (by omega))
    have VX : Boxed W s1 61 (.pointer (some ⟨g, 0, none⟩)) := (hI.blk s1 (by omega) (by omega) (hblk _ (by omega) (by omega))).trans X1.out
    have VI := hI.id6 (by omega) (by omega) u3
    have VP := hI.pl6 (by omega) (by omega) u2
    rw [hf 0 (by omega)] at VI
    rw [hf 1 (by omega), hf 2 (by omega), hf 3 (by omega), hf 4 (by omega), hf 5 (by omega)] at VP
    have hB := hI.bl
    have hsW := hI.size
    obtain ⟨hct, hc4⟩ := cnt_eq l
    have CC := Lib.hid (RCount_any g _ W 4 hI.rd (by omega) (by omega))
    rw [hct] at CC
    have hmk := make_t (cnt l) (by omega)
    have e6 := VX.cell
    have e5 := VP.c 6 _ rfl
    have e4 := VP.z 6
    have HW := Lib.hid (And.intro VR (And.intro VX (And.intro VI (And.intro VP hB))))
    have HK := Lib.hid hK
    clear hI hf hblk VR VX VI VP hB u1 u2 u3 hct hK hG0 hAt
    gi_wp2_with fail
    refine ⟨trivial, ?_⟩
    gi_at_call 30
    refine (callsIn_wide.2 CC.out).mono ?_
    rintro e w2 ⟨rfl, hl⟩
    obtain ⟨VR, VX, VI, VP, hB⟩ := HW.out
    obtain ⟨m, hm⟩ : ∃ m, cnt l = m := ⟨_, rfl⟩
    rw [hm] at hc4 hmk
    have j4 := (VP.gb hl.2 (by omega)).z 6
    have j5 := (VP.gb hl.2 (by omega)).c 6 _ rfl
    have hs2 := hl.2.size
    obtain ⟨W1, hW1⟩ : ∃ W1, (w2.alloc (.cells (Array.replicate (m * 2) (.int .i64 0)) 58)).setCell ⟨w.heap.size + 1, 6, none⟩ (.slice (some ⟨w2.heap.size, 0, none⟩) m m) = W1 := ⟨_, rfl⟩
    have q4 : (w2.alloc (.cells (Array.replicate (m * 2) (.int .i64 0)) 58)).frozen? ⟨w.heap.size + 1, 6, none⟩ = false := ((VP.gb hl.2 (by omega)).alloc _).z 6
    have q5 := ((VP.gb hl.2 (by omega)).alloc (.cells (Array.replicate (m * 2) (.int .i64 0)) 58)).c 6 _ rfl
    have q6 : W1.cell? ⟨w.heap.size + 1, 6, none⟩ = some (.slice (some ⟨w2.heap.size, 0, none⟩) m m) := by rw [← hW1]; exact World.cell?_setCell_same _ _ _ q5
    have HL := Lib.hid hl
    clear hl VR VX VI VP hB CC e4 e5 e6
    rw [hm]
    gi_wp2_with (refine ⟨trivial, ?_⟩; gi_at_call 22; refine (callsIn_wide.2 (tierPlaces_any _ _ _ _)).mono ?_; rintro e w' ⟨rfl, rfl⟩)
    obtain ⟨VR, VX, VI, VP, hB⟩ := HW.out
    have hl := HL.out
    obtain ⟨s2, hs2e⟩ : ∃ s2, w2.heap.size = s2 := ⟨_, rfl⟩
    have hW1s : W1.heap.size = s2 + 1 := by rw [← hW1, size_setCell, ← hs2e]; simp
    obtain ⟨W2, hW2⟩ : ∃ W2, W1.alloc (.cells #[.slice (some ⟨w2.heap.size, 0, none⟩) m m] 23) = W2 := ⟨_, rfl⟩
    have hsz2 : W2.heap.size = s2 + 2 := by rw [← hW2]; simp [hW1s]
    have AR : VN W2 w.heap.size [.int .u32 0, .int .i64 0, .int .i64 0, .int .i64 0, .int .i64 0, .int .i64 0, .slice none 0 0] := by rw [← hW2, ← hW1]; exact (((VR.gb hl.2 (by omega)).alloc _).other (by show w.heap.size + 1 ≠ _; omega) _).alloc _
    have AI : VN W2 (w.heap.size + 1 + 1) [.int .i64 (rnm ⟨l, false⟩ 0)] := by rw [← hW2, ← hW1]; exact (((VI.gb hl.2 (by omega)).alloc _).other (by show w.heap.size + 1 ≠ _; omega) _).alloc _
    have AP : VN W2 (w.heap.size + 1) [.int .u32 0, .int .i64 (rnm ⟨l, false⟩ 1), .int .i64 (rnm ⟨l, false⟩ 2), .int .i64 (rnm ⟨l, false⟩ 3), .int .i64 (rnm ⟨l, false⟩ 4), .int .i64 (rnm ⟨l, false⟩ 5), .slice (some ⟨w2.heap.size, 0, none⟩) m m] := by
      rw [← hW2, ← hW1]; exact (((VP.gb hl.2 (by omega)).alloc _).set 6 (by simp) _).alloc _
    have hblk : ∀ k, k ≠ g → k ≠ w.heap.size + 1 → k < W.heap.size → W2.heap[k]? = W.heap[k]? := fun k h1 h2 h3 => by
      rw [← hW2, ← hW1]
      refine (Below.heap_alloc _ _ _ (by rw [size_setCell]; simp; omega)).trans ((Below.heap_setCell _ _ _ _ h2).trans ((Below.heap_alloc _ _ _ (by omega)).trans (hl.2.block k h3 (fun e => h1 (by injection e)))))
    have AX : Boxed W2 s1 61 (.pointer (some ⟨g, 0, none⟩)) := (hblk s1 (by omega) (by omega) VX.lt).trans VX
    have AK : W2.heap[D]? = some (.deferred (some [])) := (hblk D (by omega) (by omega) (Array.getElem?_eq_some_iff.1 HK.out).1).trans HK.out
    have AB : Below w.heap.size w W2 := by
      have h1 := hB.grown hl.2 hB.size (fun k e => by cases e; omega)
      have h2 := h1.alloc h1.size (.cells (Array.replicate (m * 2) (.int .i64 0)) 58)
      have h3 := h2.setCell (p := ⟨w.heap.size + 1, 6, none⟩) (by simp) (.slice (some ⟨w2.heap.size, 0, none⟩) m m)
      rw [hW1] at h3
      rw [← hW2]
      exact h3.alloc h3.size _
    have AT : VN W2 s2 (Array.replicate (m * 2) (Value.int .i64 0)).toList := by
      rw [← hW2, ← hW1, ← hs2e]
      exact ((VN.new w2 (Array.replicate (m * 2) (.int .i64 0)) 58).other (by show w.heap.size + 1 ≠ _; omega) _).alloc _
    have ATc : ∀ k, k < 2 * m → W2.cell? ⟨s2, k, none⟩ = some (.int .i64 0) := fun k hk => AT.c k _ (by simp [show k < m * 2 by omega])
    have AC : W2.cell? ⟨s2 + 1, 0, none⟩ = some (.slice (some ⟨s2, 0, none⟩) m m) := by
      rw [← hW2, ← hs2e]
      have := (Boxed.new W1 23 (.slice (some ⟨w2.heap.size, 0, none⟩) m m)).cell
      rw [hW1s, ← hs2e] at this
      exact this
    have AD : RdrS W2 g (s7 l) := by
      have h1 : Rdr w2 g (s7 l).l (s7 l).bad := hl.1
      have h2 := Rdr.below h1 ((Below.refl w2.heap.size w2).alloc (Nat.le_refl _) (.cells (Array.replicate (m * 2) (.int .i64 0)) 58)) (Rdr.lt h1)
      have h3 := rdr_set h2 (p := ⟨w.heap.size + 1, 6, none⟩) (by show w.heap.size + 1 ≠ g; omega) (fun y e => by rw [q5] at e; cases e) (.slice (some ⟨w2.heap.size, 0, none⟩) m m)
      rw [hW1] at h3
      rw [← hW2]
      exact Rdr.below h3 ((Below.refl W1.heap.size W1).alloc (Nat.le_refl _) _) (Rdr.lt h3)
    have hP : Pls w W2 g (fun k => ⟨s2, 0 + k, none⟩) (2 * m) := by
      refine ⟨fun j hj => ?_, fun j hj => ?_, fun j hj => ?_, fun a b _ _ e => ?_, by omega, by omega, by omega⟩
      · show s2 ≠ g; omega
      · show s2 < W2.heap.size; omega
      · show w.heap.size ≤ s2; omega
      · injection e with _ e2 _; omega
    have hG0 : GI w W2 g (fun k => ⟨s2, 0 + k, none⟩) (2 * m) (s7 l) (fun _ => 0) W2 := by
      refine ⟨AD, fun k hk => ?_, fun k hk => AT.z _, Nat.le_refl _, AB, fun _ _ _ _ => rfl, fun _ _ _ _ => ⟨rfl, rfl⟩⟩
      show W2.cell? ⟨s2, 0 + k, none⟩ = _
      rw [Nat.zero_add]; exact ATc k hk
    rw [hs2e] at AP
    have HA := Lib.hid (And.intro AR (And.intro AI (And.intro AP (And.intro AX (And.intro AK AB)))))
    have HP2 := Lib.hid hP
    have X2 := Lib.hid AX
    have hmc1 : m ≤ 9223372036854775807 := by omega
    have hDlt : D < s2 := by have := (Array.getElem?_eq_some_iff.1 HK.out).1; have := hl.2.size; omega
    have HM := Lib.hid hm
    rw [hW1s, hs2e]
    rw [hs2e] at hW2
    rw [hW2]
    clear hW2 hW1 hW1s hP VR VX VI VP hB AR AI AP AX AK AB AT ATc AD hblk hl j4 j5 q4 q5 q6 hmk HW HK HL hm hs2
    refine wpIn_rangeFunc_ownF rfl (by omega) (gf := 36) (lb := #[.pointer (some ⟨s2 + 1, 0, none⟩)]) rfl trivial (enters_of Try.func36 (by kernel_rfl) rfl)
      (tier_stops (5 - 1) (by omega) (s2 + 1) s2 0 m m (Nat.le_refl _) hmc1 W2 AC) KpT.t (KpT.b (by omega)) (Below.refl _ _) (fun _ => rfl)
      (fun pre W => GI w W2 g (fun k => ⟨s2, 0 + k, none⟩) (2 * m) (itr (s7 l) pre.length) (wrt (s7 l) (fun _ => 0) pre).2 W)
      (fun _ _ _ => False)
      (GI.own (by omega) (fun pre : List (Fin (2 * m)) => itr (s7 l) pre.length) (fun pre => (wrt (s7 l) (fun _ => 0) pre).2))
      (fun _ _ _ _ _ hs _ _ => hs)
      hG0
      (fun x => { tmps := #[.slice A n c, undef, .pointer (some ⟨w.heap.size, 0, none⟩), .int .i64 0, .pointer (some ⟨w.heap.size + 1, 0, none⟩), .pointer (some ⟨w.heap.size + 1 + 1, 0, none⟩), .pointer (some ⟨s1, 0, none⟩), undef, tlc s2 0 x.1, .slice A n c, .pointer (some ⟨g, 0, none⟩), .func (.func 33) #[] #[.pointer (some ⟨s1 + 1, 0, none⟩), .pointer (some ⟨s1 + 1 + 1, 0, none⟩)],
        undef, undef, undef, undef, undef, .pointer (some ⟨g, 0, none⟩), .int .i64 (m : Int), .slice (some ⟨s2, 0, none⟩) m m, .pointer (some ⟨w.heap.size + 1, 6, none⟩), .pointer (some ⟨w.heap.size + 1, 6, none⟩), .slice (some ⟨s2, 0, none⟩) m m, .func (.func 36) #[] #[.pointer (some ⟨s2 + 1, 0, none⟩)],
        tlc s2 0 x.1, undef, undef, undef, undef, undef, undef, undef, undef, undef, undef, undef, undef, undef, undef, undef, undef, undef, undef, undef, undef, undef, undef], defers := [] }) ?assign2 ?body2 ?done2 ?stop2
    case assign2 =>
      intro l x W K hK
      gi_wp2
      exact hK
    case body2 =>
      rintro lp pre x W hI hlen
      have hx := x.2
      have e6 := (hI.cel ⟨s1, 0, none⟩ (by show s1 < _; omega) (by show s1 ≠ g; omega) (fun j hj e => by
        have := congrArg Addr.block e
        simp at this
        omega)).1.trans X2.out.cell
      have CI := Lib.hid (RInt_any g _ W hI.rd)
      have HI := Lib.hid hI
      have hst := wrt_snoc (s7 l) (fun _ => 0) pre x
      have hll : (pre ++ [x]).length = pre.length + 1 := by simp
      have hrow := hI.row x.1 hx
      have hzf := hI.zf x.1 hx
      have hsW := hI.size
      obtain ⟨V, hV⟩ : ∃ V, wrap64 ((itr (s7 l) pre.length).num 8 : Int) = V := ⟨_, rfl⟩
      obtain ⟨F, hF⟩ : ∃ F, (wrt (s7 l) (fun _ => 0) pre).2 x.1 = F := ⟨_, rfl⟩
      obtain ⟨k, hk⟩ : ∃ k, 0 + x.1 = k := ⟨_, rfl⟩
      rw [hF] at hrow
      simp only [hk] at hrow hzf
      simp only [tlc, hk]
      rw [hV] at CI
      have HS := Lib.hid (And.intro hst (And.intro hll (And.intro hV hk)))
      clear hst hll hV hk hF hI hG0 AC
      gi_wp2_with fail
      refine ⟨trivial, ?_⟩
      gi_at_call 29
      refine (CallsIn.inRound lp (callsIn_wide.2 CI.out)).mono ?_
      rintro e w3 ⟨rfl, hl⟩
      have j1 := (World.cell?_of_block (w := W) (a := ⟨s2, k, none⟩) (hl.2.block s2 (by omega) (fun e => by injection e with e; omega))).trans hrow
      have j2 := (World.frozen?_of_block (w := W) (a := ⟨s2, k, none⟩) (hl.2.block s2 (by omega) (fun e => by injection e with e; omega))).trans hzf
      have HL := Lib.hid hl
      clear hl hrow hzf e6
      gi_wp2
      refine ⟨(keeps_left HI.out.rd HL.out).trans (KeepsOthers.setCell _ _ _), KpT.left HL.out (by omega) (by omega) (show s2 + 1 ≠ s2 by omega) _, ?_⟩
      show GI w W2 g (fun k => ⟨s2, 0 + k, none⟩) (2 * m) (itr (s7 l) (pre ++ [x]).length) (wrt (s7 l) (fun _ => 0) (pre ++ [x])).2 _
      obtain ⟨h1, h2, h3, h4⟩ := HS.out
      rw [h1, h2]
      have hfin := HI.out.step HP2.out HL.out hx V
      simp only [h4] at hfin
      rw [← h3] at hfin ⊢
      exact hfin
    case done2 =>
      rintro D2 ys Wf hD2 rfl hI hK
      rw [List.length_finRange] at hI
      obtain ⟨AR, AI, AP, AX, AK, AB⟩ := HA.out
      have hbk : ∀ k, k ≠ s2 → ∀ j, j < 2 * m → k ≠ ((fun k => (⟨s2, 0 + k, none⟩ : Addr)) j).block := fun k h j _ => h
      have VR := hI.vn AR (by omega) (hbk _ (by omega))
      have VI := hI.vn AI (by omega) (hbk _ (by omega))
      have VP := hI.vn AP (by omega) (hbk _ (by omega))
      have e60 : Boxed Wf s1 61 (.pointer (some ⟨g, 0, none⟩)) := (hI.blk s1 (by omega) (by omega) (hbk _ (by omega))).trans AX
      have e6 := e60.cell
      clear e60
      have hK1 := (hI.blk D (by omega) (by omega) (hbk _ (by omega))).trans AK
      have hB := hI.bl
      have hsf := hI.size
      have hrow : ∀ k, k < 2 * m → Wf.cell? ⟨s2, k, none⟩ = some (.int .i64 (rnm (s7 l) k)) := fun k hk => by
        have h1 := hI.row k hk
        rw [wrt_all _ _ (2 * m) k hk] at h1
        rwa [Nat.zero_add] at h1
      have hsF : itr (s7 l) (2 * m) = sF l := by unfold sF; rw [HM.out]
      have hrd := hI.rd
      rw [hsF] at hrd
      have CD := Lib.hid (RDone_any g (sF l) Wf hrd)
      have CW := Lib.hid (fun (W : World) (N : Nat) (e : W.heap.size = N) => (show Calls Try.prog 25 #[.int .i64 4294967295, .slice (some ⟨N, 0, none⟩) 1 1] (W.alloc (.cells #[.int .i64 (rnm ⟨l, false⟩ 0)] 2)) _ from by subst e; exact within_any 4294967295 (some ⟨W.heap.size, 0, none⟩) 1 [rnm ⟨l, false⟩ 0] 1 rfl _ (W.heap.size + 1) (RdI.lit W [rnm ⟨l, false⟩ 0] 2 (by unfold maxLen; simp))))
      rw [inB_one] at CW
      have HV := Lib.hid (And.intro VR (And.intro VI (And.intro VP (And.intro hB (And.intro hK1 (And.intro hK hrow))))))
      clear AR AI AP AX AK AB hI HA hbk hB hK hK1 hrow hsF hrd hG0 HP2 X2 AC
      by_cases hd : (sF l).done = 0
      · rw [hd] at CD
        have hfit := done_fit hd
        by_cases hid : 0 ≤ rnm ⟨l, false⟩ 0 ∧ rnm ⟨l, false⟩ 0 ≤ 4294967295
        · rw [decide_eq_true hid] at CW
          obtain ⟨hcn, h7, _⟩ := fit_done hfit
          have hlen := hfit.1
          rw [HM.out] at hcn
          have hn : (rd l).n = m := by show (l.length - 56) / 16 = m; omega
          have hna : na l 0 ≤ 4294967295 := (sg_id (na_lt l 0)).1 (by rw [← rnm_ok l 0 (by omega)]; exact hid)
          have f0 : rnm ⟨l, false⟩ 0 = (rd l).i := by rw [rnm_ok l 0 (by omega)]; show sg (na l 0) = (na l 0 : Int); unfold sg; rw [if_pos (by omega)]
          have f1 : rnm ⟨l, false⟩ 1 = (rd l).dy := rnm_ok l 1 (by omega)
          have f2 : rnm ⟨l, false⟩ 2 = (rd l).mo := rnm_ok l 2 (by omega)
          have f3 : rnm ⟨l, false⟩ 3 = (rd l).ov := rnm_ok l 3 (by omega)
          have f4 : rnm ⟨l, false⟩ 4 = (rd l).ro := rnm_ok l 4 (by omega)
          have f5 : rnm ⟨l, false⟩ 5 = (rd l).ba := rnm_ok l 5 (by omega)
          have f6 : ∀ k, k < m → rnm (s7 l) (2 * k) = (rd l).u k ∧ rnm (s7 l) (2 * k + 1) = (rd l).p k := fun k hk => by
            rw [h7]
            refine ⟨rnm_drop l 7 (2 * k) (by omega), ?_⟩
            rw [show (l.drop 56) = l.drop (8 * 7) from rfl, rnm_drop l 7 (2 * k + 1) (by omega)]
            show sg (na l (7 + (2 * k + 1))) = sg (na l (8 + 2 * k))
            rw [show 7 + (2 * k + 1) = 8 + 2 * k by omega]
          have HOk : Hid (OkG l ↔ May (rd l)) := Lib.hid ⟨fun h => h.1, fun h => (okG_iff l).2 ⟨hfit, hna, h⟩⟩
          rw [f0] at VI CW hid
          rw [f1, f2, f3, f4, f5] at VP
          obtain ⟨VR', VI', VP', hB', hK1', hK', hrow'⟩ := HV.out
          have HW := Lib.hid (And.intro VR (And.intro VP (And.intro hB' (And.intro hK1' (And.intro hK' hrow')))))
          have HF6 := Lib.hid f6
          clear HV VR' VI' VP' hB' hK1' hK' hrow' f0 f1 f2 f3 f4 f5 f6 hd hfit hcn h7 hlen hna
          have CK := Lib.hid (fun W (hr : RdT W W.heap.size (some ⟨s2, 0, none⟩) m (rd l).u (rd l).p (rd l).n) => (show Calls Try.prog 11 #[.agg #[.int .u32 (rd l).i, .int .i64 (rd l).dy, .int .i64 (rd l).mo, .int .i64 (rd l).ov, .int .i64 (rd l).ro, .int .i64 (rd l).ba, .slice (some ⟨s2, 0, none⟩) m m]] W fun e w' => e = .returned (.bool (may (rd l))) ∧ Below W.heap.size W w' from by
            have := Check_any (rd l) (some ⟨s2, 0, none⟩) m W W.heap.size hr (Nat.le_refl _) hid.1
            unfold plv at this
            rw [hn] at this
            exact this))
          have e5 := (VI.alloc (.cells #[.int .i64 (rd l).i] 2)).c 0 _ rfl
          have VPa := VP.alloc (.cells #[.int .i64 (rd l).i] 2)
          have VRa := VR.alloc (.cells #[.int .i64 (rd l).i] 2)
          have e50 := VI.c 0 _ rfl
          have zp := VPa.z 0
          have cp := VPa.c 0 _ rfl
          have ku : IntKind.u32.wrap (rd l).i = (rd l).i := by simp [IntKind.wrap, IntKind.bits, IntKind.signed]; omega
          have hsf2 : s2 < Wf.heap.size := by omega
          have VPg := VPa.set 0 (by simp) (.int .u32 (rd l).i)
          have VRg := VRa.other (p := ⟨w.heap.size + 1, 0, none⟩) (by show w.heap.size + 1 ≠ _; omega) (.int .u32 (rd l).i)
          have d0 := VPg.c 0 _ rfl
          have d1 := VPg.c 1 _ rfl
          have d2 := VPg.c 2 _ rfl
          have d3 := VPg.c 3 _ rfl
          have d4 := VPg.c 4 _ rfl
          have d5 := VPg.c 5 _ rfl
          have d6 := VPg.c 6 _ rfl
          obtain ⟨VR', VP', hB', hK1', hK', hrow'⟩ := HW.out
          have lD := (Array.getElem?_eq_some_iff.1 hK1').1
          have lD2 := (Array.getElem?_eq_some_iff.1 hK').1
          have ha := World.grownBy_alloc Wf (.cells #[.int .i64 (rd l).i] 2) none
          have hg0 : (Wf.alloc (.cells #[.int .i64 (rd l).i] 2)).grownBy ((Wf.alloc (.cells #[.int .i64 (rd l).i] 2)).setCell ⟨w.heap.size + 1, 0, none⟩ (.int .u32 (rd l).i)) (some (w.heap.size + 1)) := only_set _ 0 _
          have HGb : Hid (∀ k, k < Wf.heap.size → k ≠ w.heap.size + 1 → ((Wf.alloc (.cells #[.int .i64 (rd l).i] 2)).setCell ⟨w.heap.size + 1, 0, none⟩ (.int .u32 (rd l).i)).heap[k]? = Wf.heap[k]?) :=
            Lib.hid fun k hk hne => (hg0.block k (Nat.lt_of_lt_of_le hk ha.size) (fun e => hne (by injection e))).trans (ha.block k hk (by simp))
          have HGB : Hid (Below w.heap.size w ((Wf.alloc (.cells #[.int .i64 (rd l).i] 2)).setCell ⟨w.heap.size + 1, 0, none⟩ (.int .u32 (rd l).i))) :=
            Lib.hid ((hB'.grown ha hB'.size (fun k e => by cases e)).grown hg0 (Nat.le_trans hB'.size ha.size) (fun k e => by cases e; omega))
          have HRW : Hid (∀ W5 : World, Below ((Wf.alloc (.cells #[.int .i64 (rd l).i] 2)).setCell ⟨w.heap.size + 1, 0, none⟩ (.int .u32 (rd l).i)).heap.size ((Wf.alloc (.cells #[.int .i64 (rd l).i] 2)).setCell ⟨w.heap.size + 1, 0, none⟩ (.int .u32 (rd l).i)) W5 → ∀ k, k < Wf.heap.size → k ≠ w.heap.size + 1 → W5.heap[k]? = Wf.heap[k]?) :=
            Lib.hid fun W5 hb k hk hne => (hb.block k (by have := hg0.size; have := ha.size; omega)).trans (HGb.out k hk hne)
          have HRT : Hid (RdT ((Wf.alloc (.cells #[.int .i64 (rd l).i] 2)).setCell ⟨w.heap.size + 1, 0, none⟩ (.int .u32 (rd l).i)) ((Wf.alloc (.cells #[.int .i64 (rd l).i] 2)).setCell ⟨w.heap.size + 1, 0, none⟩ (.int .u32 (rd l).i)).heap.size (some ⟨s2, 0, none⟩) m (rd l).u (rd l).p (rd l).n) := Lib.hid (by
            rw [hn]
            exact rdT_rows (fun k hk => (World.cell?_of_block (HGb.out s2 hsf2 (by omega))).trans (hrow' k hk)) HF6.out (by have := hg0.size; have := ha.size; omega) hc4)
          have HVg := Lib.hid (And.intro VPg VRg)
          clear VI VP VR hid VPa VRa VPg VRg VR' VP' hB' hK1' hK' hrow' ha hg0
          gi_wp2_with (first | (refine ⟨trivial, ?_⟩; gi_at_call 31; refine (callsIn_wide.2 CD.out).mono ?_; rintro e w' ⟨rfl, rfl⟩) | (refine ⟨trivial, ?_⟩; gi_at_call 25; refine (callsIn_wide.2 (CW.out _ _ rfl)).mono ?_; rintro e w' ⟨rfl, rfl⟩))
          refine ⟨trivial, ?_⟩
          gi_at_call 11
          refine (callsIn_wide.2 (CK.out _ HRT.out)).mono ?_
          rintro e w5 ⟨rfl, hb⟩
          have V5p := HVg.out.1.bel hb
          have V5r := HVg.out.2.bel hb
          have hk5 := HRW.out w5 hb
          have H5 := Lib.hid (And.intro V5p (And.intro V5r (And.intro hk5 (HGB.out.trans (hb.mono HGB.out.size)))))
          have hs5 : Wf.heap.size ≤ w5.heap.size := by have := hb.size; rw [size_setCell] at this; simp at this; omega
          have zc0 := V5r.c 0 _ rfl
          have zc1 := V5r.c 1 _ rfl
          have zc2 := V5r.c 2 _ rfl
          have zc3 := V5r.c 3 _ rfl
          have zc4 := V5r.c 4 _ rfl
          have zc5 := V5r.c 5 _ rfl
          have zc6 := V5r.c 6 _ rfl
          have zf := V5r.z
          clear d0 d1 d2 d3 d4 d5 d6
          have d0 := V5p.c 0 _ rfl
          have d1 := V5p.c 1 _ rfl
          have d2 := V5p.c 2 _ rfl
          have d3 := V5p.c 3 _ rfl
          have d4 := V5p.c 4 _ rfl
          have d5 := V5p.c 5 _ rfl
          have d6 := V5p.c 6 _ rfl
          clear V5p V5r hk5 hb
          cases hmay : may (rd l) with
          | false =>
            have HN : Hid (¬ OkG l) := Lib.hid (fun ho => by rw [(may_iff _).2 (HOk.out.1 ho)] at hmay; cases hmay)
            gi_wp2_with fail
            obtain ⟨V5p, V5r, hk5, hB5⟩ := H5.out
            obtain ⟨_, _, _, hK1, hK, hrow⟩ := HW.out
            have hg7 := st7_only w5 w.heap.size (.int .u32 0) (.int .i64 0) (.int .i64 0) (.int .i64 0) (.int .i64 0) (.int .i64 0) (.slice none 0 0)
            exact leave2 (st7_vn V5r _ _ _ _ _ _ _) rfl rfl ((hg7.block D2 (by omega) (fun e => by injection e with e; omega)).trans ((hk5 D2 lD2 (by omega)).trans hK)) ((hg7.block D (by omega) (fun e => by injection e with e; omega)).trans ((hk5 D lD (by omega)).trans hK1)) (by omega) (by omega) (by omega)
              ⟨below_put2 (hB5.grown hg7 hB5.size (fun k e => by cases e; omega)) (by omega) (by omega) _ _, .inr ⟨HN.out, rfl⟩⟩
          | true =>
            have HN : Hid (OkG l) := Lib.hid (HOk.out.2 ((may_iff _).1 hmay))
            gi_wp2_with fail
            obtain ⟨V5p, V5r, hk5, hB5⟩ := H5.out
            obtain ⟨_, _, _, hK1, hK, hrow⟩ := HW.out
            have hg7 := st7_only w5 w.heap.size (.int .u32 (rd l).i) (.int .i64 (rd l).dy) (.int .i64 (rd l).mo) (.int .i64 (rd l).ov) (.int .i64 (rd l).ro) (.int .i64 (rd l).ba) (.slice (some ⟨s2, 0, none⟩) m m)
            have hw7 := hg7.size
            refine leave2 (st7_vn V5r _ _ _ _ _ _ _) rfl rfl ((hg7.block D2 (by omega) (fun e => by injection e with e; omega)).trans ((hk5 D2 lD2 (by omega)).trans hK)) ((hg7.block D (by omega) (fun e => by injection e with e; omega)).trans ((hk5 D lD (by omega)).trans hK1)) (by omega) (by omega) (by omega)
              ⟨below_put2 (hB5.grown hg7 hB5.size (fun k e => by cases e; omega)) (by omega) (by omega) _ _, .inl ⟨HN.out, some ⟨s2, 0, none⟩, m, ?_, ?_⟩⟩
            · unfold plv; rw [hn]; rfl
            · rw [hn]
              have hb2 : s2 ≠ D := by omega
              have hb3 : s2 ≠ D2 := by omega
              have p1 := (grownBy_putObj' (st7 w5 w.heap.size (.int .u32 (rd l).i) (.int .i64 (rd l).dy) (.int .i64 (rd l).mo) (.int .i64 (rd l).ov) (.int .i64 (rd l).ro) (.int .i64 (rd l).ba) (.slice (some ⟨s2, 0, none⟩) m m)) D2 (.deferred none)).size
              have p2 := (grownBy_putObj' ((st7 w5 w.heap.size (.int .u32 (rd l).i) (.int .i64 (rd l).dy) (.int .i64 (rd l).mo) (.int .i64 (rd l).ov) (.int .i64 (rd l).ro) (.int .i64 (rd l).ba) (.slice (some ⟨s2, 0, none⟩) m m)).putObj D2 (.deferred none)) D (.deferred none)).size
              refine rdT_rows (fun k hk => ?_) HF6.out ?_ hc4
              · exact (World.cell?_of_block (a := ⟨s2, k, none⟩) ((World.putObj_heap_other hb2).trans ((World.putObj_heap_other hb3).trans ((hg7.block s2 (by omega) (fun e => by injection e with e; omega)).trans (hk5 s2 hsf2 (by omega)))))).trans (hrow k hk)
              · exact Nat.lt_of_lt_of_le (Nat.lt_of_lt_of_le (Nat.lt_of_lt_of_le (Nat.lt_of_lt_of_le hsf2 hs5) hw7) p1) p2
        · rw [decide_eq_false hid] at CW
          have HN : Hid (¬ OkG l) := Lib.hid (fun ho => by
            obtain ⟨q1, q2, _⟩ := (okG_iff l).1 ho
            rw [rnm_ok l 0 (by have := q1.1; omega)] at hid
            exact hid ((sg_id (na_lt l 0)).2 q2))
          generalize rnm ⟨l, false⟩ 0 = r0 at *
          have e5 := VI.c 0 _ rfl
          have VRa := VR.alloc (.cells #[.int .i64 r0] 2)
          have zc0 := VRa.c 0 _ rfl
          have zc1 := VRa.c 1 _ rfl
          have zc2 := VRa.c 2 _ rfl
          have zc3 := VRa.c 3 _ rfl
          have zc4 := VRa.c 4 _ rfl
          have zc5 := VRa.c 5 _ rfl
          have zc6 := VRa.c 6 _ rfl
          have zf := VRa.z
          clear hd hid hfit VR VRa VI VP
          gi_wp2_with (first | (refine ⟨trivial, ?_⟩; gi_at_call 31; refine (callsIn_wide.2 CD.out).mono ?_; rintro e w' ⟨rfl, rfl⟩) | (refine ⟨trivial, ?_⟩; gi_at_call 25; refine (callsIn_wide.2 (CW.out _ _ rfl)).mono ?_; rintro e w' ⟨rfl, rfl⟩))
          obtain ⟨VR, VI, VP, hB, hK1, hK, hrow⟩ := HV.out
          have ha := World.grownBy_alloc Wf (.cells #[.int .i64 r0] 2) none
          have hg7 := st7_only (Wf.alloc (.cells #[.int .i64 r0] 2)) w.heap.size (.int .u32 0) (.int .i64 0) (.int .i64 0) (.int .i64 0) (.int .i64 0) (.int .i64 0) (.slice none 0 0)
          have lD := (Array.getElem?_eq_some_iff.1 hK1).1
          have lD2 := (Array.getElem?_eq_some_iff.1 hK).1
          have ls := ha.size
          exact leave2 (st7_vn (VR.alloc _) _ _ _ _ _ _ _) rfl rfl ((hg7.block D2 (by omega) (fun e => by injection e with e; omega)).trans ((ha.block D2 lD2 (by simp)).trans hK)) ((hg7.block D (by omega) (fun e => by injection e with e; omega)).trans ((ha.block D lD (by simp)).trans hK1)) (by omega) (by omega) (by omega)
            ⟨below_put2 ((hB.grown ha hB.size (fun k e => by cases e)).grown hg7 (Nat.le_trans hB.size ls) (fun k e => by cases e; omega)) (by omega) (by omega) _ _, .inr ⟨HN.out, rfl⟩⟩
      · have z1 : ((sF l).done != 0) = true := by simp [hd]
        have HN : Hid (¬ OkG l) := Lib.hid (fun ho => hd (fit_done ((okG_iff l).1 ho).1).2.2)
        generalize (sF l).done = dn at *
        have zc0 := VR.c 0 _ rfl
        have zc1 := VR.c 1 _ rfl
        have zc2 := VR.c 2 _ rfl
        have zc3 := VR.c 3 _ rfl
        have zc4 := VR.c 4 _ rfl
        have zc5 := VR.c 5 _ rfl
        have zc6 := VR.c 6 _ rfl
        have zf := VR.z
        clear hd VR VI VP
        gi_wp2_with (refine ⟨trivial, ?_⟩; gi_at_call 31; refine (callsIn_wide.2 CD.out).mono ?_; rintro e w' ⟨rfl, rfl⟩)
        refine ⟨trivial, ?_⟩
        gi_wp2_with fail
        obtain ⟨VR, VI, VP, hB, hK1, hK, hrow⟩ := HV.out
        have hg7 := st7_only Wf w.heap.size (.int .u32 0) (.int .i64 0) (.int .i64 0) (.int .i64 0) (.int .i64 0) (.int .i64 0) (.slice none 0 0)
        have lD := (Array.getElem?_eq_some_iff.1 hK1).1
        have lD2 := (Array.getElem?_eq_some_iff.1 hK).1
        exact leave2 (st7_vn VR _ _ _ _ _ _ _) rfl rfl ((hg7.block D2 lD2 (fun e => by injection e with e; omega)).trans hK) ((hg7.block D lD (fun e => by injection e with e; omega)).trans hK1) (by omega) (by omega) (by omega)
          ⟨below_put2 (hB.grown hg7 hB.size (fun k e => by cases e; omega)) (by omega) (by omega) _ _, .inr ⟨HN.out, rfl⟩⟩
    case stop2 =>
      rintro D c pre W _ _ h _
      exact h.elim
  case stop =>
    rintro D c pre W _ _ h _
    exact h.elim
end Go.Proofs.Ytnaoodaadeimbaa.Pl
